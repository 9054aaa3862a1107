package disk

import (
	"bytes"
	"fmt"
	"math"
	"slices"
	"strings"
	"testing"

	"paceline/api"
)

// file: a file with that name and these bytes, of which the first so many are synced.
func file(name, data string, synced int) api.File {
	return api.File{Name: name, Data: []byte(data), Synced: synced}
}

func diskOf(l ...api.File) api.Disk { return api.Disk{Files: l} }

// filler: so many files with two bytes each, one of them synced: f0, f1 and so on.
func filler(n int) api.Disk {
	var d api.Disk
	for i := range n {
		d.Files = append(d.Files, file(fmt.Sprint("f", i), "xy", 1))
	}
	return d
}

func sameFile(a, b api.File) bool {
	return a.Name == b.Name && bytes.Equal(a.Data, b.Data) && a.Synced == b.Synced
}

func sameDisk(a, b api.Disk) bool { return slices.EqualFunc(a.Files, b.Files, sameFile) }

// tell a disk in short: files may be long and many.
func tell(d api.Disk) string {
	var l []string
	for _, f := range d.Files {
		data, name := f.Data, f.Name
		l = append(l, fmt.Sprintf("%.30q %d bytes %.20q synced %d", name, len(data), data, f.Synced))
	}
	return "[" + strings.Join(l, "; ") + "]"
}

// call: one of the calls, with its arguments but the disk. Read answers a disk, too: with one file that has the Data alone.
type call struct {
	what string
	run  func(d api.Disk) (api.Disk, api.Errno)
}

func appending(name, b string) call {
	return call{fmt.Sprintf("Append %.30q, %d bytes", name, len(b)), func(d api.Disk) (api.Disk, api.Errno) {
		return Append(d, name, []byte(b))
	}}
}

func reading(name string) call {
	return call{fmt.Sprintf("Read %.30q", name), func(d api.Disk) (api.Disk, api.Errno) {
		b, e := Read(d, name)
		if e != api.OK && len(b) == 0 {
			return api.Disk{}, e
		}
		return diskOf(api.File{Data: b}), e
	}}
}

func syncing(name string) call {
	return call{fmt.Sprintf("Sync %.30q", name), func(d api.Disk) (api.Disk, api.Errno) {
		return Sync(d, name)
	}}
}

func renaming(from, to string) call {
	return call{fmt.Sprintf("Rename %.30q %.30q", from, to), func(d api.Disk) (api.Disk, api.Errno) {
		return Rename(d, from, to)
	}}
}

func crashing(keep int) call {
	return call{fmt.Sprintf("Crash %d", keep), func(d api.Disk) (api.Disk, api.Errno) {
		return Crash(d, keep)
	}}
}

func removing(name string) call {
	return call{fmt.Sprintf("Remove %.30q", name), func(d api.Disk) (api.Disk, api.Errno) {
		return Remove(d, name)
	}}
}

// gives: the call answers that disk and OK.
func gives(t *testing.T, d api.Disk, c call, want api.Disk) {
	t.Helper()
	got, e := c.run(d)
	if e != api.OK || !sameDisk(got, want) {
		t.Errorf("%s of %s = %s %d, want %s", c.what, tell(d), tell(got), e, tell(want))
	}
}

// refuses: the call answers that error, and a disk without files.
func refuses(t *testing.T, d api.Disk, c call, want api.Errno) {
	t.Helper()
	got, e := c.run(d)
	if e != want || len(got.Files) != 0 {
		t.Errorf("%s of %s = %s %d, want %d", c.what, tell(d), tell(got), e, want)
	}
}

// reads: what is read of that file.
func reads(t *testing.T, d api.Disk, name, want string) {
	t.Helper()
	gives(t, d, reading(name), diskOf(file("", want, 0)))
}

var (
	longest = strings.Repeat("n", api.MaxName)
	tooLong = strings.Repeat("n", api.MaxName+1)
	fullest = strings.Repeat("d", api.MaxBytes)
)

// wrongNames: no name, and too long ones.
func wrongNames() []string { return []string{"", tooLong, strings.Repeat("n", 1000)} }

// wrongDisks: each breaks one rule of P3.1, at its edge or far beyond it, in the first, a middle or the last file.
func wrongDisks() map[string]api.Disk {
	a, z := file("a", "123", 1), file("z", "456", 3)
	m := map[string]api.Disk{
		"one file too many":        filler(api.MaxFiles + 1),
		"many files too many":      filler(10 * api.MaxFiles),
		"a name twice":             diskOf(a, a),
		"a name twice, apart":      diskOf(a, file("b", "", 0), z, file("a", "", 0)),
		"the last name twice":      diskOf(a, z, file("z", "9", 0)),
		"the longest name twice":   diskOf(file(longest, "", 0), a, file(longest, "", 0)),
		"MaxFiles, one name twice": filler(api.MaxFiles),
	}
	m["MaxFiles, one name twice"].Files[api.MaxFiles-1].Name = "f0"
	for what, f := range map[string]api.File{
		"no name":               file("", "1", 0),
		"a name too long":       file(tooLong, "1", 0),
		"runes, bytes too many": file(strings.Repeat("é", api.MaxName/2)+"e", "1", 0),
		"one byte too many":     file("b", fullest+"d", 0),
		"all of it synced":      file("b", fullest+"d", api.MaxBytes+1),
		"Synced -1":             file("b", "1", -1),
		"Synced -1 of nothing":  file("b", "", -1),
		"Synced least":          file("b", "1", math.MinInt),
		"Synced one too many":   file("b", "1", 2),
		"Synced 1 of nothing":   file("b", "", 1),
		"Synced most":           file("b", "1", math.MaxInt),
	} {
		m[what+", alone"] = diskOf(f)
		m[what+", first"] = diskOf(f, a, z)
		m[what+", between"] = diskOf(a, f, z)
		m[what+", last"] = diskOf(a, z, f)
	}
	return m
}

// P3.1: all calls refuse a disk that may not be, whatever else is wrong with what they are given.
func TestDisksThatMayNotBe(t *testing.T) {
	for what, d := range wrongDisks() {
		t.Run(what, func(t *testing.T) {
			for _, name := range append(wrongNames(), "a", "b", "z", "f0", "not there", longest) {
				for _, c := range []call{
					appending(name, ""), appending(name, "1"), appending(name, fullest+"d"), reading(name), syncing(name),
					renaming(name, "a"), renaming("a", name), renaming(name, name), renaming("a", ""), removing(name),
				} {
					refuses(t, d, c, api.ErrState)
				}
			}
			for _, keep := range []int{math.MinInt, -1, 0, 1, math.MaxInt} {
				refuses(t, d, crashing(keep), api.ErrState)
			}
		})
	}
}

// rightDisks: those at the edges of P3.1.
func rightDisks() map[string]api.Disk {
	return map[string]api.Disk{
		"nil":                      {},
		"no files":                 {Files: []api.File{}},
		"Data nil":                 diskOf(api.File{Name: "a"}),
		"no Data":                  diskOf(file("a", "", 0)),
		"the shortest name":        diskOf(file("a", "123", 2)),
		"the longest name":         diskOf(file(longest, "123", 2)),
		"names of any bytes":       diskOf(file("\x00", "1", 0), file("\x00\x00", "2", 1), file("\xff\xfe", "3", 0), file(" ", "4", 0), file("a/b\n", "5", 0)),
		"names nearly the same":    diskOf(file("a", "1", 0), file("A", "2", 1), file("aa", "3", 0), file("a ", "4", 1), file(longest, "5", 0), file(longest[1:], "6", 0)),
		"runes just within":        diskOf(file(strings.Repeat("é", api.MaxName/2), "1", 0)),
		"MaxBytes, none synced":    diskOf(file("a", fullest, 0)),
		"MaxBytes, all synced":     diskOf(file("a", fullest, api.MaxBytes)),
		"MaxBytes often":           diskOf(file("a", fullest, 7), file("b", fullest, 0), file("c", fullest, api.MaxBytes)),
		"nothing and all synced":   diskOf(file("a", "123", 0), file("b", "123", 3)),
		"MaxFiles files":           filler(api.MaxFiles),
		"the same Data, not names": diskOf(file("a", "1", 1), file("b", "1", 1)),
	}
}

// P3.1: no call refuses one that may be.
func TestDisksThatMayBe(t *testing.T) {
	for what, d := range rightDisks() {
		t.Run(what, func(t *testing.T) {
			for _, f := range d.Files {
				reads(t, d, f.Name, string(f.Data))
				gives(t, d, appending(f.Name, ""), d)
				gives(t, d, renaming(f.Name, f.Name), d)
				for _, c := range []call{syncing(f.Name), removing(f.Name), renaming(f.Name, "new")} {
					if _, e := c.run(d); e != api.OK {
						t.Errorf("%s of %s: %d", c.what, tell(d), e)
					}
				}
			}
			if got, e := Crash(d, 0); e != api.OK || len(got.Files) != len(d.Files) {
				t.Errorf("Crash 0 of %s = %s %d", tell(d), tell(got), e)
			}
			refuses(t, d, reading("not there"), api.ErrNone)
			refuses(t, d, crashing(-1), api.ErrRange)
		})
	}
}

// P3.2
func TestAppend(t *testing.T) {
	none := api.Disk{}
	gives(t, none, appending("a", "\x01"), diskOf(file("a", "\x01", 0)))
	gives(t, none, appending("a", ""), diskOf(file("a", "", 0)))
	gives(t, none, appending("\x00", "1"), diskOf(file("\x00", "1", 0)))
	gives(t, none, appending(longest, "1"), diskOf(file(longest, "1", 0)))

	d := diskOf(file("b", "12", 1), file("a", "34", 2), file("c", "", 0))
	gives(t, d, appending("b", "56"), diskOf(file("b", "1256", 1), file("a", "34", 2), file("c", "", 0)))
	gives(t, d, appending("a", "5"), diskOf(file("b", "12", 1), file("a", "345", 2), file("c", "", 0)))
	gives(t, d, appending("c", "5"), diskOf(file("b", "12", 1), file("a", "34", 2), file("c", "5", 0)))
	gives(t, d, appending("a", ""), d)
	// Behind the others, whatever its name is.
	gives(t, d, appending("aa", "5"), diskOf(file("b", "12", 1), file("a", "34", 2), file("c", "", 0), file("aa", "5", 0)))
	gives(t, d, appending("A", ""), diskOf(file("b", "12", 1), file("a", "34", 2), file("c", "", 0), file("A", "", 0)))
}

// P3.2: bytes that are nil.
func TestAppendNil(t *testing.T) {
	d, e := Append(api.Disk{}, "a", nil)
	if e != api.OK || !sameDisk(d, diskOf(file("a", "", 0))) {
		t.Errorf("Append of nil = %s %d", tell(d), e)
	}
}

// P3.2: a name that may not be, ahead of all that is full.
func TestAppendRefusesNames(t *testing.T) {
	for _, name := range wrongNames() {
		for _, d := range []api.Disk{{}, diskOf(file("a", "1", 0)), filler(api.MaxFiles)} {
			for _, b := range []string{"", "1", fullest + "d"} {
				refuses(t, d, appending(name, b), api.ErrSize)
			}
		}
	}
}

// P3.2: MaxFiles files and one more.
func TestAppendToManyFiles(t *testing.T) {
	d := filler(api.MaxFiles - 1)
	full := filler(api.MaxFiles - 1)
	full.Files = append(full.Files, file("last", "1", 0))
	gives(t, d, appending("last", "1"), full)

	refuses(t, full, appending("one more", ""), api.ErrFull)
	refuses(t, full, appending("one more", "1"), api.ErrFull)
	refuses(t, full, appending(longest, fullest+"d"), api.ErrFull)

	more := filler(api.MaxFiles)
	more.Files[0].Data = []byte("xy1")
	gives(t, filler(api.MaxFiles), appending("f0", "1"), more)
}

// P3.2: Data of MaxBytes and one more.
func TestAppendToFullFiles(t *testing.T) {
	none, most := api.Disk{}, diskOf(file("a", fullest, 5), file("b", "1", 0))
	gives(t, none, appending("a", fullest), diskOf(file("a", fullest, 0)))
	refuses(t, none, appending("a", fullest+"d"), api.ErrFull)
	refuses(t, none, appending("a", fullest+fullest), api.ErrFull)

	gives(t, diskOf(file("a", fullest[2:], 5), file("b", "1", 0)), appending("a", "dd"), most)
	refuses(t, diskOf(file("a", fullest[2:], 5), file("b", "1", 0)), appending("a", "ddd"), api.ErrFull)
	gives(t, most, appending("a", ""), most)
	refuses(t, most, appending("a", "d"), api.ErrFull)
	refuses(t, most, appending("b", fullest), api.ErrFull)
	// It is each file that has a bound, not all of them together.
	gives(t, most, appending("b", fullest[1:]), diskOf(most.Files[0], file("b", "1"+fullest[1:], 0)))
	gives(t, most, appending("c", fullest), diskOf(most.Files[0], most.Files[1], file("c", fullest, 0)))
}

// P3.3
func TestRead(t *testing.T) {
	d := diskOf(file("a", "123", 1), file("b", "", 0), file(longest, "\x00\xff", 2), file("c", fullest, 0))
	reads(t, d, "a", "123") // what is not synced, too
	reads(t, d, "b", "")
	reads(t, d, longest, "\x00\xff")
	reads(t, d, "c", fullest)
	for _, name := range append(wrongNames(), "d", "A", "aa", "a\x00", longest[1:]) {
		refuses(t, d, reading(name), api.ErrNone)
		refuses(t, api.Disk{}, reading(name), api.ErrNone)
	}
	reads(t, filler(api.MaxFiles), fmt.Sprint("f", api.MaxFiles-1), "xy")
}

// P3.4
func TestSync(t *testing.T) {
	d := diskOf(file("a", "123", 1), file("b", "45", 0), file("c", "", 0), file("e", "6", 1))
	gives(t, d, syncing("a"), diskOf(file("a", "123", 3), file("b", "45", 0), file("c", "", 0), file("e", "6", 1)))
	gives(t, d, syncing("b"), diskOf(file("a", "123", 1), file("b", "45", 2), file("c", "", 0), file("e", "6", 1)))
	gives(t, d, syncing("c"), d)
	gives(t, d, syncing("e"), d)
	gives(t, diskOf(file(longest, fullest, 0)), syncing(longest), diskOf(file(longest, fullest, api.MaxBytes)))
	for _, name := range append(wrongNames(), "d", "A", "aa") {
		refuses(t, d, syncing(name), api.ErrNone)
		refuses(t, api.Disk{}, syncing(name), api.ErrNone)
	}
}

// P3.5: to a new name, at the old place.
func TestRename(t *testing.T) {
	a, b, c := file("a", "123", 1), file("b", "45", 2), file("c", "6", 0)
	d := diskOf(a, b, c)
	gives(t, d, renaming("a", "z"), diskOf(file("z", "123", 1), b, c))
	gives(t, d, renaming("b", "z"), diskOf(a, file("z", "45", 2), c))
	gives(t, d, renaming("c", "z"), diskOf(a, b, file("z", "6", 0)))
	gives(t, d, renaming("c", longest), diskOf(a, b, file(longest, "6", 0)))
	gives(t, d, renaming("b", "A"), diskOf(a, file("A", "45", 2), c))
}

// P3.5: over another file, which stood ahead or behind.
func TestRenameOverAnother(t *testing.T) {
	a, b, c := file("a", "123", 1), file("b", "45", 2), file("c", "6", 0)
	d := diskOf(a, b, c)
	gives(t, d, renaming("a", "b"), diskOf(file("b", "123", 1), c))
	gives(t, d, renaming("a", "c"), diskOf(file("c", "123", 1), b))
	gives(t, d, renaming("b", "a"), diskOf(file("a", "45", 2), c))
	gives(t, d, renaming("b", "c"), diskOf(a, file("c", "45", 2)))
	gives(t, d, renaming("c", "a"), diskOf(b, file("a", "6", 0)))
	gives(t, d, renaming("c", "b"), diskOf(a, file("b", "6", 0)))
	gives(t, diskOf(a, b), renaming("a", "b"), diskOf(file("b", "123", 1)))

	many := filler(api.MaxFiles)
	want := diskOf(many.Files[1 : api.MaxFiles-1 : api.MaxFiles-1]...)
	want.Files = append(want.Files, file("f0", "xy", 1))
	gives(t, many, renaming(fmt.Sprint("f", api.MaxFiles-1), "f0"), want)
}

// P3.5: to the same name.
func TestRenameToItself(t *testing.T) {
	d := diskOf(file("a", "123", 1), file(longest, "45", 2), file("c", "6", 0))
	for _, f := range d.Files {
		gives(t, d, renaming(f.Name, f.Name), d)
	}
	refuses(t, d, renaming("z", "z"), api.ErrNone)
	refuses(t, d, renaming("", ""), api.ErrSize)
	refuses(t, d, renaming(tooLong, tooLong), api.ErrSize)
}

// P3.5: a name to that may not be, ahead of a file from that is not there.
func TestRenameRefuses(t *testing.T) {
	d := diskOf(file("a", "123", 1), file("b", "45", 2))
	for _, name := range wrongNames() {
		refuses(t, d, renaming("a", name), api.ErrSize)
		refuses(t, d, renaming("z", name), api.ErrSize)
		refuses(t, d, renaming("", name), api.ErrSize)
		refuses(t, api.Disk{}, renaming("a", name), api.ErrSize)
		// Of the name from it is asked alone whether it is there.
		refuses(t, d, renaming(name, "a"), api.ErrNone)
		refuses(t, d, renaming(name, "z"), api.ErrNone)
	}
	refuses(t, d, renaming("z", "a"), api.ErrNone)
	refuses(t, d, renaming("z", "y"), api.ErrNone)
	refuses(t, d, renaming("A", "b"), api.ErrNone)
	refuses(t, api.Disk{}, renaming("a", "b"), api.ErrNone)
}

// P3.6
func TestCrash(t *testing.T) {
	d := diskOf(file("a", "\x01\x02\x03", 1))
	gives(t, d, crashing(0), diskOf(file("a", "\x01", 1)))
	gives(t, d, crashing(1), diskOf(file("a", "\x01\x02", 2)))
	gives(t, d, crashing(2), diskOf(file("a", "\x01\x02\x03", 3)))
	gives(t, d, crashing(3), diskOf(file("a", "\x01\x02\x03", 3)))

	d = diskOf(file("c", "12345", 0), file("a", "12345", 2), file("b", "12345", 5), file("e", "", 0), file("f", "1", 0))
	gives(t, d, crashing(0), diskOf(file("c", "", 0), file("a", "12", 2), file("b", "12345", 5), file("e", "", 0), file("f", "", 0)))
	gives(t, d, crashing(2), diskOf(file("c", "12", 2), file("a", "1234", 4), file("b", "12345", 5), file("e", "", 0), file("f", "1", 1)))
	for _, keep := range []int{5, 6, api.MaxBytes, math.MaxInt - 5, math.MaxInt - 1, math.MaxInt} {
		gives(t, d, crashing(keep), diskOf(file("c", "12345", 5), file("a", "12345", 5), file("b", "12345", 5), file("e", "", 0), file("f", "1", 1)))
	}
	for _, keep := range []int{0, 1, math.MaxInt} {
		gives(t, api.Disk{}, crashing(keep), api.Disk{})
	}
}

// P3.6: files of MaxBytes.
func TestCrashOfFullFiles(t *testing.T) {
	d := diskOf(file("a", fullest, 0), file("b", fullest, api.MaxBytes), file("c", fullest, api.MaxBytes-1))
	all := diskOf(file("a", fullest, api.MaxBytes), d.Files[1], file("c", fullest, api.MaxBytes))
	gives(t, d, crashing(0), diskOf(file("a", "", 0), d.Files[1], file("c", fullest[1:], api.MaxBytes-1)))
	gives(t, d, crashing(1), diskOf(file("a", "d", 1), d.Files[1], file("c", fullest, api.MaxBytes)))
	gives(t, d, crashing(api.MaxBytes-1), diskOf(file("a", fullest[1:], api.MaxBytes-1), d.Files[1], file("c", fullest, api.MaxBytes)))
	gives(t, d, crashing(api.MaxBytes), all)
	gives(t, d, crashing(math.MaxInt), all)
}

// P3.6: its one error.
func TestCrashRefuses(t *testing.T) {
	for _, keep := range []int{-1, -2, math.MinInt + 1, math.MinInt} {
		for _, d := range []api.Disk{{}, diskOf(file("a", "123", 1)), diskOf(file("a", "123", 3)), filler(api.MaxFiles)} {
			refuses(t, d, crashing(keep), api.ErrRange)
		}
	}
}

// P3.6: what is lost is not to be had from an answer's spare room.
func TestCrashLeavesNothingBehind(t *testing.T) {
	d, _ := Crash(diskOf(file("a", "123456789", 1)), 2)
	b := d.Files[0].Data
	if room := b[:cap(b)]; bytes.ContainsAny(room[len(b):], "456789") {
		t.Errorf("lost bytes stand in the spare room: %q", room)
	}
}

// P3.7
func TestRemove(t *testing.T) {
	a, b, c := file("b", "123", 1), file("a", "45", 2), file("c", "", 0)
	d := diskOf(a, b, c)
	gives(t, d, removing("b"), diskOf(b, c))
	gives(t, d, removing("a"), diskOf(a, c))
	gives(t, d, removing("c"), diskOf(a, b))
	gives(t, diskOf(a), removing("b"), api.Disk{})
	gives(t, diskOf(a, file(longest, "1", 0)), removing(longest), diskOf(a))
	gives(t, filler(api.MaxFiles), removing(fmt.Sprint("f", api.MaxFiles-1)), filler(api.MaxFiles-1))
	for _, name := range append(wrongNames(), "d", "A", "aa") {
		refuses(t, d, removing(name), api.ErrNone)
		refuses(t, api.Disk{}, removing(name), api.ErrNone)
	}
}

// P3.5, P3.7: what was renamed or removed stays so, whatever a crash keeps.
func TestRenameAndRemoveOutlastCrashes(t *testing.T) {
	d := diskOf(file("a", "123", 1), file("b", "45", 2), file("c", "6", 0))
	d, _ = Rename(d, "a", "b")
	d, _ = Remove(d, "c")
	gives(t, d, crashing(0), diskOf(file("b", "1", 1)))
	gives(t, d, crashing(9), diskOf(file("b", "123", 3)))
}

// die: numbers that look drawn, the same each time.
type die uint64

func (d *die) n(most int) int {
	*d = *d*6364136223846793005 + 1442695040888963407
	return int(uint64(*d>>33) % uint64(most))
}

// cell: a byte, and whether it is safe.
type cell struct {
	x    byte
	safe bool
}

// model says the chapter once more: names in their order, and what each one has, byte by byte.
type model struct {
	names []string
	cells map[string][]cell
}

func (m *model) has(name string) bool { _, ok := m.cells[name]; return ok }

func (m *model) append(name string, b []byte) api.Errno {
	if len(name) < 1 || len(name) > api.MaxName {
		return api.ErrSize
	}
	if !m.has(name) && len(m.names) >= api.MaxFiles || len(m.cells[name])+len(b) > api.MaxBytes {
		return api.ErrFull
	}
	if !m.has(name) {
		m.names = append(m.names, name)
	}
	l := m.cells[name]
	for _, x := range b {
		l = append(l, cell{x: x})
	}
	m.cells[name] = l
	return api.OK
}

func (m *model) sync(name string) api.Errno {
	if !m.has(name) {
		return api.ErrNone
	}
	for i := range m.cells[name] {
		m.cells[name][i].safe = true
	}
	return api.OK
}

func (m *model) remove(name string) api.Errno {
	if !m.has(name) {
		return api.ErrNone
	}
	delete(m.cells, name)
	var rest []string
	for _, n := range m.names {
		if n != name {
			rest = append(rest, n)
		}
	}
	m.names = rest
	return api.OK
}

func (m *model) rename(from, to string) api.Errno {
	if len(to) < 1 || len(to) > api.MaxName {
		return api.ErrSize
	}
	if !m.has(from) {
		return api.ErrNone
	}
	if from == to {
		return api.OK
	}
	m.remove(to)
	m.cells[to] = m.cells[from]
	delete(m.cells, from)
	for i, n := range m.names {
		if n == from {
			m.names[i] = to
		}
	}
	return api.OK
}

func (m *model) crash(keep int) api.Errno {
	if keep < 0 {
		return api.ErrRange
	}
	for n, l := range m.cells {
		var left []cell
		room := keep
		for _, c := range l {
			if !c.safe {
				room--
			}
			if room >= 0 {
				left = append(left, cell{c.x, true})
			}
		}
		m.cells[n] = left
	}
	return api.OK
}

func (m *model) disk() api.Disk {
	var d api.Disk
	for _, n := range m.names {
		f := api.File{Name: n}
		for _, c := range m.cells[n] {
			f.Data = append(f.Data, c.x)
			if c.safe {
				f.Synced++
			}
		}
		d.Files = append(d.Files, f)
	}
	return d
}

// draw a call, and what it is in the model.
func draw(r *die, names []string) (call, func(*model) api.Errno) {
	n, o := names[r.n(len(names))], names[r.n(len(names))]
	switch r.n(9) {
	case 0:
		return syncing(n), func(m *model) api.Errno { return m.sync(n) }
	case 1:
		return renaming(n, o), func(m *model) api.Errno { return m.rename(n, o) }
	case 2:
		return removing(n), func(m *model) api.Errno { return m.remove(n) }
	case 3:
		keep := r.n(6) - 1
		return crashing(keep), func(m *model) api.Errno { return m.crash(keep) }
	}
	b := make([]byte, r.n(5))
	for i := range b {
		b[i] = byte(r.n(256))
	}
	return appending(n, string(b)), func(m *model) api.Errno { return m.append(n, b) }
}

// P3.2 to P3.7: long rows of drawn calls answer what the model answers; few names, and more than there may be files.
func TestDrawnCalls(t *testing.T) {
	few := []string{"", "a", "b", "c", "e", longest, tooLong}
	many := slices.Clone(few)
	for i := range 2 * api.MaxFiles {
		many = append(many, fmt.Sprint("f", i))
	}
	for seed := range 40 {
		r, names := die(seed), few
		if seed%2 == 1 {
			names = many
		}
		var d api.Disk
		m := &model{cells: map[string][]cell{}}
		for range 600 {
			c, inModel := draw(&r, names)
			next, e := c.run(d)
			want := inModel(m)
			if e != want || e == api.OK && !sameDisk(next, m.disk()) || e != api.OK && len(next.Files) != 0 {
				t.Fatalf("%s of %s = %s %d, want %s %d", c.what, tell(d), tell(next), e, tell(m.disk()), want)
			}
			if e == api.OK {
				d = next
			}
		}
	}
}

// What was synced is never lost; what was not is lost from behind alone.
func TestWhatComesOfACrash(t *testing.T) {
	for synced := range 8 {
		for keep := range 10 {
			d, e := Crash(diskOf(file("a", "1234567", synced)), keep)
			if e != api.OK || len(d.Files) != 1 {
				t.Fatalf("Crash %d = %s %d", keep, tell(d), e)
			}
			left := string(d.Files[0].Data)
			if len(left) < synced || !strings.HasPrefix("1234567", left) || d.Files[0].Synced != len(left) {
				t.Errorf("of 1234567, %d synced, a crash with keep %d leaves %s", synced, keep, tell(d))
			}
			gives(t, d, crashing(0), d) // a second crash takes no more
		}
	}
}

// roomy: files and bytes with spare room behind them, in which marks stand.
func roomy() api.Disk {
	l := make([]api.File, 0, 8)
	for _, f := range []api.File{file("a", "123", 1), file("b", "", 0), file("c", "4567", 4)} {
		f.Data = append(make([]byte, 0, 16), f.Data...)
		mark(f.Data)
		l = append(l, f)
	}
	room := l[:cap(l)]
	for i := len(l); i < len(room); i++ {
		room[i] = file("spare", "spare", 99)
	}
	return api.Disk{Files: l}
}

// mark the spare room of bytes.
func mark(b []byte) {
	room := b[len(b):cap(b)]
	for i := range room {
		room[i] = 99
	}
}

// memory: all that a disk's lists hold, their spare room too, as one text.
func memory(d api.Disk) string {
	s := ""
	for _, f := range d.Files[:cap(d.Files)] {
		s += fmt.Sprintln(f.Name, f.Data[:cap(f.Data)], len(f.Data), f.Synced)
	}
	return s
}

// spoil writes over a disk's lists and over their spare room.
func spoil(d api.Disk) {
	for _, f := range d.Files {
		spoilBytes(f.Data)
	}
	l := d.Files[:cap(d.Files)]
	for i := range l {
		l[i] = file("spoilt", "spoilt", 77)
	}
}

func spoilBytes(b []byte) {
	b = b[:cap(b)]
	for i := range b {
		b[i] = 77
	}
}

// oneOfEach: calls that are taken and calls that are refused, of the disk that roomy makes.
func oneOfEach() []call {
	return []call{
		appending("a", "x"), appending("b", "x"), appending("c", ""), appending("d", "x"), appending("d", ""),
		reading("a"), reading("b"), reading("c"), syncing("a"), syncing("b"), syncing("c"),
		renaming("a", "a"), renaming("a", "c"), renaming("c", "a"), renaming("b", "d"),
		crashing(0), crashing(1), crashing(9), removing("a"), removing("b"), removing("c"),
		appending("", "x"), appending("a", fullest), appending("d", fullest+"d"), reading("d"), syncing("d"),
		renaming("d", "a"), renaming("a", ""), crashing(-1), removing("d"),
	}
}

// No call changes the disk that is handed in, its spare room neither, nor does a change of its answer.
func TestDisksStay(t *testing.T) {
	for _, c := range oneOfEach() {
		d := roomy()
		was := memory(d)
		got, _ := c.run(d)
		if is := memory(d); is != was {
			t.Errorf("%s changed the disk:\n%s\nit was:\n%s", c.what, is, was)
		}
		spoil(got)
		if is := memory(d); is != was {
			t.Errorf("the answer of %s shares memory with the disk:\n%s\nit was:\n%s", c.what, is, was)
		}
	}
}

// What a disk without files hands in as spare room is not used.
func TestSpareRoomOfNoFilesStays(t *testing.T) {
	l := []api.File{file("spare", "spare", 99)}
	d, _ := Append(api.Disk{Files: l[:0]}, "a", []byte("1"))
	spoil(d)
	if !sameFile(l[0], file("spare", "spare", 99)) {
		t.Errorf("the spare room became %s", tell(diskOf(l...)))
	}
}

// Answers do not hang on what was handed in, once they are there.
func TestAnswersOutlastArguments(t *testing.T) {
	for _, c := range oneOfEach() {
		want, e := c.run(roomy())
		d := roomy()
		got, f := c.run(d)
		spoil(d)
		if e != f || !sameDisk(got, want) {
			t.Errorf("%s: the answer became %s when the disk was written over", c.what, tell(got))
		}
	}
}

// No two answers share memory.
func TestAnswersShareNothing(t *testing.T) {
	for _, c := range oneOfEach() {
		d := roomy()
		want, _ := c.run(roomy())
		first, _ := c.run(d)
		second, _ := c.run(d)
		spoil(first)
		if !sameDisk(second, want) {
			t.Errorf("%s: the answer became %s when another one was written over", c.what, tell(second))
		}
	}
}

// No two lists of one answer share memory, even if those that were handed in do.
func TestListsOfAnAnswerShareNothing(t *testing.T) {
	b := append(make([]byte, 0, 16), "123"...)
	shared := diskOf(api.File{Name: "a", Data: b, Synced: 1}, api.File{Name: "b", Data: b[:2], Synced: 1}, api.File{Name: "c", Data: b[1:], Synced: 0})
	for _, d := range []api.Disk{roomy(), shared} {
		for _, c := range oneOfEach() {
			want, _ := c.run(d)
			for i := range want.Files {
				got, _ := c.run(d)
				spoilBytes(got.Files[i].Data)
				got.Files[i] = want.Files[i]
				if !sameDisk(got, want) {
					t.Errorf("%s: the answer became %s when the Data of file %d was written over", c.what, tell(got), i)
				}
			}
		}
	}
}

// The bytes that Append is given stay as they were, their spare room too, and are no part of its answer.
func TestBytesStay(t *testing.T) {
	for _, name := range []string{"a", "b", "d"} {
		b := append(make([]byte, 0, 16), "xyz"...)
		mark(b)
		was := bytes.Clone(b[:cap(b)])
		d, e := Append(roomy(), name, b)
		if e != api.OK || !bytes.Equal(b[:cap(b)], was) {
			t.Errorf("Append to %s: %d, the bytes became %v", name, e, b[:cap(b)])
		}
		spoilBytes(b)
		if got, _ := Read(d, name); !bytes.HasSuffix(got, []byte("xyz")) {
			t.Errorf("Append to %s hangs on bytes that were written over: %q", name, got)
		}
		b = append(b[:0], "xyz"...)
		d, _ = Append(roomy(), name, b)
		spoil(d)
		if string(b) != "xyz" {
			t.Errorf("Append to %s shares memory with the bytes: %q", name, b)
		}
	}
}

// Bytes of the disk itself may be put behind it.
func TestAppendOfTheDisksOwnBytes(t *testing.T) {
	d := roomy()
	got, e := Append(d, "a", d.Files[0].Data)
	if e != api.OK || string(got.Files[0].Data) != "123123" {
		t.Errorf("Append of a file's own bytes = %s %d", tell(got), e)
	}
}
