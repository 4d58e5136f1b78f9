package tests

import (
	"fmt"
	"strings"
	"testing"

	"loop.example/g01266/impl"
)

// textOfWhirls and the others here tell texts without the program.
func textOfWhirls(list []impl.Whirl) string {
	var points []complex64
	var spins []float32
	for _, w := range list {
		points, spins = append(points, w.At), append(spins, w.Spin)
	}
	return pointText(points...) + ";" + commaText(spins...)
}

func textOfSheet(s impl.Sheet) string {
	end := ";open"
	if s.Closed {
		end = ";closed"
	}
	return pointText(s.Points...) + ";" + commaText(s.Spins...) + end
}

func textOfBasin(b impl.Basin) string {
	return fmt.Sprintf("%d,%d;%s", b.Wide, b.High, commaText(b.Spins...))
}

func textOfThread(t impl.Thread) string {
	var points []string
	for _, p := range t.Points {
		points = append(points, commaText(numbers(p)...))
	}
	return strings.Join(points, "/") + ";" + commaText(t.Spin)
}

func textOfThreads(list []impl.Thread) string {
	var words []string
	for _, t := range list {
		words = append(words, textOfThread(t))
	}
	if len(words) == 0 {
		return "none"
	}
	return strings.Join(words, "|")
}

// finiteEdges has the numbers of edgeBits that parts of a desk can have.
func finiteEdges() []float32 {
	var list []float32
	for _, x := range edgeNumbers() {
		if x-x == 0 {
			list = append(list, x)
		}
	}
	return list
}

// edge returns finite numbers, one after another and around.
func edge(i int) float32 {
	list := finiteEdges()
	return list[i%len(list)]
}

// TestTextsAsTheyAre has texts that were written by hand.
func TestTextsAsTheyAre(t *testing.T) {
	whirlsForm().wantText(t, []impl.Whirl{whirl(1, -2, 0.5)}, "3f800000c0000000;3f000000")
	whirlsForm().wantText(t, []impl.Whirl{whirl(0, minusZero, 1), whirl(at(1), 3, minusZero)}, "0000000080000000,0000000140400000;3f800000,80000000")
	sheetForm().wantText(t, closedSheet(1, -2, 0.5, 0, minusZero, -1), "3f800000c0000000,0000000080000000;3f000000,bf800000;closed")
	sheetForm().wantText(t, openSheet(1, -2, 0.5, 0, minusZero, -1), "3f800000c0000000,0000000080000000;3f000000,bf800000;open")
	basinForm().wantText(t, basin(3, 4, 1, 2, 3, 4, 5, 6, 7, 8, minusZero, 0, -1, -2),
		"3,4;3f800000,40000000,40400000,40800000,40a00000,40c00000,40e00000,41000000,80000000,00000000,bf800000,c0000000")
	corners := thread(-1, impl.Vector{}, vector(1, 2, 3), vector(minusZero, 0.5, -1))
	text := "00000000,00000000,00000000/3f800000,40000000,40400000/80000000,3f000000,bf800000;bf800000"
	threadForm().wantText(t, corners, text)
	threadsForm().wantText(t, []impl.Thread{corners}, text)
	threadsForm().wantText(t, []impl.Thread{corners, corners}, text+"|"+text)
}

func TestTextsOfNothing(t *testing.T) {
	for _, list := range [][]impl.Whirl{nil, {}} {
		whirlsForm().wantText(t, list, "none;none")
	}
	for _, list := range [][]impl.Thread{nil, {}} {
		threadsForm().wantText(t, list, "none")
	}
	whirlsForm().wantUnread(t, "", ";", "none", "none;", ";none", "none;none;", ";none;none", "none;none;none", "None;none", "none;None", "none; none", " none;none")
	sheetForm().wantUnread(t, "", ";;", "none", "none;none;open", "none;none;closed", "none;none", ";;open", "none;none;none", "open", "closed")
	basinForm().wantUnread(t, "", ";", "none", "none;none", "3,3;none", "0,0;none", "3,3;", "none;00000000", ";none")
	threadForm().wantUnread(t, "", ";", "/", "none", "none;none", "none;00000000", ";00000000", "/;00000000", "//;00000000", "none/none/none;00000000")
	threadsForm().wantUnread(t, "", " ", "|", "none|none", "none|", "|none", "None", "none ", " none", ";", "none;none", "none;00000000", "none/none", "||||")
}

func TestTextsUpToTheLimits(t *testing.T) {
	for count := range impl.MaxWhirls + 1 {
		whirlsForm().wantText(t, manyWhirls(count), textOfWhirls(manyWhirls(count)))
	}
	for count := 2; count <= impl.MaxSheet; count++ {
		for _, closed := range []bool{false, true} {
			sheetForm().wantText(t, manyPoints(count, closed), textOfSheet(manyPoints(count, closed)))
		}
	}
	for wide := int64(3); wide <= impl.MaxSide; wide++ {
		for high := int64(3); high <= impl.MaxSide; high++ {
			basinForm().wantText(t, manyCells(wide, high), textOfBasin(manyCells(wide, high)))
		}
	}
	for count := 3; count <= impl.MaxThread; count++ {
		threadForm().wantText(t, manyCorners(count), textOfThread(manyCorners(count)))
	}
	for count := range impl.MaxThreads + 1 {
		threadsForm().wantText(t, manyThreads(count), textOfThreads(manyThreads(count)))
	}
	threadsForm().wantText(t, fullDesk().Threads, textOfThreads(fullDesk().Threads))
}

func TestTextsBeyondTheLimits(t *testing.T) {
	for _, count := range []int{impl.MaxWhirls + 1, 256, 257, 5000} {
		whirlsForm().wantUnread(t, textOfWhirls(manyWhirls(count)))
	}
	for _, count := range []int{0, 1, impl.MaxSheet + 1, 256, 257, 5000} {
		for _, closed := range []bool{false, true} {
			sheetForm().wantUnread(t, textOfSheet(manyPoints(count, closed)))
		}
	}
	for _, sides := range [][2]int64{{2, 3}, {3, 2}, {2, 2}, {17, 3}, {3, 17}, {17, 17}, {16, 17}, {1, 9}, {9, 1}, {64, 4}, {256, 1}} {
		basinForm().wantUnread(t, textOfBasin(manyCells(sides[0], sides[1])))
	}
	for _, count := range []int{0, 1, 2, impl.MaxThread + 1, 256, 5000} {
		odd := manyCorners(count)
		threadForm().wantUnread(t, textOfThread(odd))
		threadsForm().wantUnread(t, textOfThread(odd), textOfThreads([]impl.Thread{odd, manyCorners(3)}), textOfThreads([]impl.Thread{manyCorners(3), odd}))
	}
	for _, count := range []int{impl.MaxThreads + 1, 9} {
		threadsForm().wantUnread(t, textOfThreads(manyThreads(count)))
	}
	for _, separator := range []string{";", "/", "|", ",", " ", "none", "0"} {
		wantAllUnread(t, strings.Repeat(separator, 20000))
	}
}

// wantAllUnread checks texts that no part of a desk has.
func wantAllUnread(t *testing.T, list ...string) {
	t.Helper()
	whirlsForm().wantUnread(t, list...)
	sheetForm().wantUnread(t, list...)
	basinForm().wantUnread(t, list...)
	threadForm().wantUnread(t, list...)
	threadsForm().wantUnread(t, list...)
}

// TestTextsToTheLastBit: numbers of all kinds are written and read with their signs and their last bits.
func TestTextsToTheLastBit(t *testing.T) {
	for i := range finiteEdges() {
		list := []impl.Whirl{whirl(edge(i), edge(3*i+1), edge(5*i+2)), whirl(edge(2*i), edge(i+7), edge(7*i))}
		whirlsForm().wantText(t, list, textOfWhirls(list))
		s := openSheet(edge(i), edge(3*i+1), edge(5*i+2), edge(2*i), edge(i+7), edge(7*i))
		sheetForm().wantText(t, s, textOfSheet(s))
		b := ofCells(3, 3, func(x, y int64) float32 { return edge(i + int(4*x+7*y)) })
		basinForm().wantText(t, b, textOfBasin(b))
		line := thread(edge(i), vector(edge(i+1), edge(i+2), edge(i+3)), vector(edge(3*i), edge(5*i), edge(7*i)), vector(edge(i+9), edge(i), edge(i+4)))
		threadForm().wantText(t, line, textOfThread(line))
		threadsForm().wantText(t, []impl.Thread{line, manyCorners(3), line}, textOfThreads([]impl.Thread{line, manyCorners(3), line}))
	}
}

// TestTextsOfOddValues: what is not valid has no text, and the text that it would have is none.
func TestTextsOfOddValues(t *testing.T) {
	whirlsForm().wantNoText(t, oddLists()...)
	sheetForm().wantNoText(t, oddSheets()...)
	basinForm().wantNoText(t, oddBasins()...)
	threadForm().wantNoText(t, oddThreads()...)
	threadsForm().wantNoText(t, manyThreads(impl.MaxThreads+1))
	for _, odd := range oddThreads() {
		threadsForm().wantNoText(t, []impl.Thread{odd}, []impl.Thread{manyCorners(3), odd}, []impl.Thread{odd, manyCorners(3)})
	}
	for _, list := range oddLists() {
		whirlsForm().wantUnread(t, textOfWhirls(list))
	}
	for _, s := range oddSheets() {
		sheetForm().wantUnread(t, textOfSheet(s))
	}
	for _, b := range oddBasins() {
		basinForm().wantUnread(t, textOfBasin(b))
	}
	for _, odd := range oddThreads() {
		threadForm().wantUnread(t, textOfThread(odd))
		threadsForm().wantUnread(t, textOfThread(odd), textOfThreads([]impl.Thread{manyCorners(3), odd}))
	}
}

// goodTexts has a text of each kind, with what reads it.
func goodTexts() map[string]func(t *testing.T, list ...string) {
	d := deskOf()
	return map[string]func(t *testing.T, list ...string){
		textOfWhirls(d.Whirls):       whirlsForm().wantUnread,
		textOfSheet(d.Sheet):         sheetForm().wantUnread,
		textOfBasin(d.Basin):         basinForm().wantUnread,
		textOfThread(d.Threads[1]):   threadForm().wantUnread,
		textOfThreads(d.Threads):     threadsForm().wantUnread,
		textOfThreads(d.Threads[:1]): threadsForm().wantUnread,
		"none;none":                  whirlsForm().wantUnread,
	}
}

// TestTextsWithMore: a separator, a blank or another byte too many is in no text, wherever it stands.
func TestTextsWithMore(t *testing.T) {
	for text, wantUnread := range goodTexts() {
		for _, more := range []string{";", "/", "|", ",", " ", "\n", "\x00", "0", "g", "A", "+", "-", "none"} {
			for i := range len(text) + 1 {
				wantUnread(t, text[:i]+more+text[i:])
			}
		}
	}
}

// TestTextsWithLess: no byte of a text can be left out, neither one at the beginning, nor one at the end, nor all behind some.
func TestTextsWithLess(t *testing.T) {
	for text, wantUnread := range goodTexts() {
		for i := range len(text) {
			wantUnread(t, text[:i]+text[i+1:])
			// Threads without the last ones, and a thread without its first point, have texts.
			if text[i] != '|' {
				wantUnread(t, text[:i])
			}
			if text[i] != '|' && text[i] != '/' {
				wantUnread(t, text[i+1:])
			}
		}
	}
}

// TestTextsWithOthers: each separator is just what it is, and numbers have only the digits that the document tells.
func TestTextsWithOthers(t *testing.T) {
	for text, wantUnread := range goodTexts() {
		for i := range len(text) {
			for _, other := range []string{";", "/", "|", ",", " ", "\n", "\xff", "G", "F"} {
				if text[i:i+1] != other {
					wantUnread(t, text[:i]+other+text[i+1:])
				}
			}
		}
		wantUnread(t, strings.ToUpper(text))
	}
}

// TestTextsOfOtherNumbers: not-a-numbers with any bits and infinities are in no text of a part.
func TestTextsOfOtherNumbers(t *testing.T) {
	for _, odd := range []string{"7fc00000", "7fc00001", "ffc00000", "7f800001", "ffffffff", "7f800000", "ff800000"} {
		whirlsForm().wantUnread(t, odd+"00000000;00000000", "00000000"+odd+";00000000", "0000000000000000;"+odd)
		for _, end := range []string{";open", ";closed"} {
			sheetForm().wantUnread(t, odd+"00000000,0000000000000000;00000000,00000000"+end, "0000000000000000,0000000000000000;00000000,"+odd+end)
		}
		basinForm().wantUnread(t, "3,3;"+strings.Repeat("00000000,", 8)+odd)
		threadForm().wantUnread(t, "00000000,00000000,"+odd+"/00000000,00000000,00000000/00000000,00000000,00000000;00000000")
		threadForm().wantUnread(t, "00000000,00000000,00000000/00000000,00000000,00000000/00000000,00000000,00000000;"+odd)
	}
}

// TestTextsOfUnequalLists: both lists of a text have the same length, and the spin of a thread is one number.
func TestTextsOfUnequalLists(t *testing.T) {
	point, number := "3f80000040000000", "3f800000"
	whirlsForm().wantUnread(t, point+";none", "none;"+number, point+";"+number+","+number, point+","+point+";"+number)
	for _, end := range []string{";open", ";closed"} {
		points, spins := point+","+point, number+","+number
		sheetForm().wantUnread(t, points+";"+number+end, points+";none"+end, point+";"+spins+end, "none;"+spins+end, points+";"+spins+","+number+end)
	}
	zeros := strings.Repeat("00000000,", 8)
	basinForm().wantUnread(t, "3,3;"+zeros[:71], "3,3;"+zeros+"00000000,00000000", "3;"+zeros+"00000000", "3,3,1;"+zeros+"00000000",
		"none;"+zeros+"00000000", "9,1;"+zeros+"00000000", "-3,-3;"+zeros+"00000000", "03,3;"+zeros+"00000000", "3,+3;"+zeros+"00000000",
		"3,1000000000000001;"+zeros+"00000000", "4294967299,3;"+zeros+"00000000", "18446744073709551619,3;"+zeros+"00000000")
	vectors := "00000000,00000000,00000000/00000000,00000000,00000000/00000000,00000000,00000000"
	threadForm().wantUnread(t, vectors, vectors+";", vectors+";none", vectors+";00000000,00000000", vectors+";00000000;00000000")
	threadForm().wantUnread(t, "00000000,00000000/"+vectors+";00000000", "none/"+vectors+";00000000", "00000000,00000000,00000000,00000000/"+vectors+";00000000")
}

// TestWordsOfSheets: a sheet is closed or open, and nothing else.
func TestWordsOfSheets(t *testing.T) {
	begin := "3f80000040000000,0000000000000000;3f800000,00000000"
	for _, end := range []string{
		"", ";", ";Closed", ";CLOSED", ";close", ";closed ", "; closed", ";closedd", ";loosed", ";Open", ";OPEN", ";opened", ";ope", "; open", ";open ", ";open\n",
		";none", ";true", ";false", ";1", ";0", ";closed;", ";open;", ";closed;open", ";open;closed", ";open;open", "closed", ",open", " open", ";öpen", ";closed,", ";open,open",
	} {
		sheetForm().wantUnread(t, begin+end)
	}
	sheetForm().wantUnread(t, "open;"+begin, "closed;"+begin, "3f800000,00000000;3f80000040000000,0000000000000000;open")
}
