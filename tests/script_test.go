package tests

import (
	"slices"
	"strconv"
	"strings"
	"testing"

	"loop.example/g00781/impl"
)

// callNames are the calls by their numbers, from 1 on.
func callNames() []string {
	return strings.Fields("exit fork wait pid grow open close read write pipe dup sleep kill unlink time exec yield")
}

// script is a program of instructions, with a line or a ; between each two: a
// call may be told by its name, and a place by a word with a : that stands
// ahead of an instruction.
func script(t *testing.T, text string) []impl.Ins {
	t.Helper()
	names := map[string]string{}
	for k, name := range callNames() {
		names[name] = "sys " + strconv.Itoa(k+1)
	}
	var rows [][]string
	for _, row := range strings.FieldsFunc(text, func(r rune) bool { return r == ';' || r == '\n' }) {
		words := strings.Fields(row)
		if len(words) > 0 && strings.HasSuffix(words[0], ":") {
			names[strings.TrimSuffix(words[0], ":")] = strconv.Itoa(len(rows))
			words = words[1:]
		}
		if len(words) > 0 {
			rows = append(rows, words)
		}
	}
	asm := ""
	for _, words := range rows {
		for k, word := range words {
			if name, ok := names[word]; ok {
				words[k] = name
			}
		}
		asm += strings.Join(words, " ") + "\n"
	}
	p, bad := impl.Asm(asm)
	if bad != 0 {
		t.Fatalf("line %d is none:\n%s", bad, asm)
	}
	return p
}

func scripts(t *testing.T, texts ...string) [][]impl.Ins {
	t.Helper()
	var l [][]impl.Ins
	for _, text := range texts {
		l = append(l, script(t, text))
	}
	return l
}

// begun is the Boot of scripts.
func begun(t *testing.T, texts ...string) impl.Unix {
	t.Helper()
	u, ok := impl.Boot(scripts(t, texts...))
	if !ok {
		t.Fatal("Boot refuses", texts)
	}
	return u
}

// book keeps, along a way of steps from Boot on, what was said and done so
// far: what each Unix on that way has to have by promise 9.
type book struct {
	next   int
	out    []int
	codes  map[int]int
	pipes  map[int][]int
	files  map[int][]int
	sleeps map[int]int
}

func newBook() *book {
	return &book{next: 2, codes: map[int]int{}, pipes: map[int][]int{}, files: map[int][]int{}, sleeps: map[int]int{}}
}

// follows holds a step against the book, and writes it in.
func (b *book) follows(t *testing.T, before impl.Unix, act int, after impl.Unix) {
	t.Helper()
	if act == impl.AcRun && len(before.Ready) > 0 {
		b.calls(t, before, after)
	}
	b.pids(t, before, after)
	b.ended(t, before, after)
	b.words(t, after)
	b.slept(t, after)
	if t.Failed() {
		t.Fatalf("act %d of\n%+v:\n%+v", act, before, after)
	}
}

// calls writes in what a call did that was not refused.
func (b *book) calls(t *testing.T, before impl.Unix, after impl.Unix) {
	t.Helper()
	p := procWith(&before, before.Ready[0])
	sys := sysOf(before, *p)
	q := procWith(&after, p.Pid)
	if sys == 0 || q == nil || q.State == impl.PsZombie || q.Cpu.Pc == p.Cpu.Pc {
		return
	}
	a, word, told := p.Cpu.Regs[0], p.Cpu.Regs[1], q.Cpu.Regs
	switch {
	case sys == 3 && told[0] != -1 && told[1] != b.codes[told[0]]:
		t.Errorf("%d waits: it is told %d of %d, not %d", p.Pid, told[1], told[0], b.codes[told[0]])
	case sys == 6 && told[0] != -1 && b.files[a] == nil:
		b.files[a] = []int{}
	case sys == 8 && told[0] == 1:
		b.reads(t, openOf(before, *p), told[1])
	case sys == 9 && told[0] == 1:
		b.writes(openOf(before, *p), word)
	case sys == 12 && told[0] == 0 && a > 0:
		b.sleeps[p.Pid] = before.Tick + a
	case sys == 14 && told[0] == 0:
		delete(b.files, a)
	}
}

// sysOf is the call that a process is at, 0 where it is at none.
func sysOf(u impl.Unix, p impl.Proc) int {
	prog := u.Progs[p.Prog]
	if p.Cpu.Pc >= len(prog) || prog[p.Cpu.Pc].Op != impl.InSys {
		return 0
	}
	return prog[p.Cpu.Pc].A
}

// openOf is the Open that a process asks with.
func openOf(u impl.Unix, p impl.Proc) impl.Open {
	for _, o := range u.Opens {
		if o.Id == p.Fds[p.Cpu.Regs[0]] {
			return o
		}
	}
	return impl.Open{}
}

func (b *book) reads(t *testing.T, o impl.Open, word int) {
	t.Helper()
	switch o.Kind {
	case impl.OpFile:
		if l := b.files[o.Target]; o.Off >= len(l) || l[o.Off] != word {
			t.Errorf("of word %d of file %d it is told %d: %v", o.Off, o.Target, word, l)
		}
	case impl.OpIn:
		l := b.pipes[o.Target]
		if len(l) == 0 || l[0] != word {
			t.Fatalf("of pipe %d it is told %d: %v", o.Target, word, l)
		}
		b.pipes[o.Target] = l[1:]
	}
}

func (b *book) writes(o impl.Open, word int) {
	switch o.Kind {
	case impl.OpCon:
		b.out = append(b.out, word)
	case impl.OpOut:
		b.pipes[o.Target] = append(b.pipes[o.Target], word)
	case impl.OpFile:
		l := b.files[o.Target]
		if o.Off == len(l) {
			l = append(l, word)
		}
		l[o.Off] = word
		b.files[o.Target] = l
	}
}

// pids wants a Pid to be new where a process is.
func (b *book) pids(t *testing.T, before impl.Unix, after impl.Unix) {
	t.Helper()
	for _, p := range after.Procs {
		if procWith(&before, p.Pid) != nil {
			continue
		}
		if p.Pid < b.next {
			t.Errorf("Pid %d is given twice", p.Pid)
		}
		b.next = p.Pid + 1
	}
	if after.Next != b.next {
		t.Errorf("Next is %d, not %d", after.Next, b.next)
	}
}

// ended wants the right code of who ended: -1 but where it asked for another
// one itself.
func (b *book) ended(t *testing.T, before impl.Unix, after impl.Unix) {
	t.Helper()
	for _, p := range before.Procs {
		q := procWith(&after, p.Pid)
		if p.State == impl.PsZombie || q != nil && q.State != impl.PsZombie {
			continue
		}
		delete(b.sleeps, p.Pid)
		b.codes[p.Pid] = -1
		if slices.Index(before.Ready, p.Pid) == 0 && sysOf(before, p) == 1 {
			b.codes[p.Pid] = p.Cpu.Regs[0]
		}
		if q != nil && q.Code != b.codes[p.Pid] {
			t.Errorf("%d ends with %d, not %d", p.Pid, q.Code, b.codes[p.Pid])
		}
	}
}

// words wants all words that were printed, written and not yet read.
func (b *book) words(t *testing.T, u impl.Unix) {
	t.Helper()
	pipes, files := map[int][]int{}, map[int][]int{}
	for _, p := range u.Pipes {
		pipes[p.Id] = b.pipes[p.Id]
		if !slices.Equal(p.Data, b.pipes[p.Id]) {
			t.Errorf("in pipe %d are %v, not %v", p.Id, p.Data, b.pipes[p.Id])
		}
	}
	b.pipes = pipes
	for _, f := range u.Files {
		files[f.Name] = f.Data
		if !slices.Equal(f.Data, b.files[f.Name]) {
			t.Errorf("in file %d are %v, not %v", f.Name, f.Data, b.files[f.Name])
		}
	}
	if len(files) != len(b.files) {
		t.Errorf("the files are %v, not %v", files, b.files)
	}
	if !slices.Equal(u.Out, b.out) {
		t.Errorf("printed are %v, not %v", u.Out, b.out)
	}
}

// slept wants those to sleep, and no others, whose ticks have not gone.
func (b *book) slept(t *testing.T, u impl.Unix) {
	t.Helper()
	for _, p := range u.Procs {
		until, ok := b.sleeps[p.Pid]
		if ok && until <= u.Tick {
			delete(b.sleeps, p.Pid)
			ok = false
		}
		if ok != (p.State == impl.PsSleep) {
			t.Errorf("%d sleeps until %d, at %d it is %d", p.Pid, until, u.Tick, p.State)
		}
	}
}
