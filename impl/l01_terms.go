package impl

import (
	"cmp"
	"strconv"
	"strings"
)

const MaxNum = 1000000
const MaxTerm = 200
const MaxName = 20

const (
	TkNone = 0
	TkNum  = 1
	TkSym  = 2
	TkCon  = 3
)

// termNode is a term taken apart. Its arguments are the place of a list, not a
// slice, so that two nodes of one store can be compared as a whole.
type termNode struct {
	kind int
	name string // the text of a symbol, with its quotes, or the name of a constructor
	num  int
	args int
}

// termCell is a list that is not empty: the place of its first term and the
// place of the list behind it.
type termCell [2]int

const emptyList = 0

// termStore keeps each term and each list once: what is the same has one place.
type termStore struct {
	nodes  []termNode
	cells  []termCell
	nodeAt map[termNode]int
	cellAt map[termCell]int
}

func newTermStore() *termStore {
	return &termStore{
		cells:  make([]termCell, emptyList+1), // the place of the empty list is never a cell's
		nodeAt: map[termNode]int{},
		cellAt: map[termCell]int{},
	}
}

func (st *termStore) putNode(node termNode) int {
	at, there := st.nodeAt[node]
	if !there {
		at = len(st.nodes)
		st.nodes = append(st.nodes, node)
		st.nodeAt[node] = at
	}
	return at
}

func (st *termStore) putCell(cell termCell) int {
	at, there := st.cellAt[cell]
	if !there {
		at = len(st.cells)
		st.cells = append(st.cells, cell)
		st.cellAt[cell] = at
	}
	return at
}

// putList goes from the last item to the first, as a cell needs the place of
// the list behind it.
func (st *termStore) putList(items []int) int {
	list := emptyList
	for i := len(items) - 1; i >= 0; i-- {
		list = st.putCell(termCell{items[i], list})
	}
	return list
}

func (st *termStore) listItems(list int) []int {
	var items []int
	for list != emptyList {
		items = append(items, st.cells[list][0])
		list = st.cells[list][1]
	}
	return items
}

func (st *termStore) argsOf(at int) []int {
	return st.listItems(st.nodes[at].args)
}

// read puts the term that s is into the store. The limit is looked at first: it
// bounds how deep the reading goes.
func (st *termStore) read(s string) (int, bool) {
	if len(s) > MaxTerm {
		return 0, false
	}
	at, end, ok := st.readTerm(s, 0)
	if !ok || end != len(s) {
		return 0, false
	}
	return at, true
}

// readTerm answers the store's place of the term that begins at from, and the
// place in s behind it; so do the other readers of one term.
func (st *termStore) readTerm(s string, from int) (int, int, bool) {
	switch {
	case from >= len(s):
		return 0, 0, false
	case s[from] == '"':
		return st.readSymbol(s, from)
	case isBigLetter(s[from]):
		return st.readConstructor(s, from)
	}
	return st.readNumber(s, from)
}

func (st *termStore) readNumber(s string, from int) (int, int, bool) {
	end := from
	if s[end] == '-' {
		end++
	}
	for end < len(s) && isDigit(s[end]) {
		end++
	}
	text := s[from:end]
	num, err := strconv.Atoi(text)
	if err != nil || !isNumber(num) || NumText(num) != text {
		return 0, 0, false
	}
	return st.putNode(termNode{kind: TkNum, num: num}), end, true
}

func (st *termStore) readSymbol(s string, from int) (int, int, bool) {
	end := from + 1
	for end < len(s) && isSymbolByte(s[end]) {
		end++
	}
	if end >= len(s) || s[end] != '"' || end-from-1 > MaxName {
		return 0, 0, false
	}
	end++
	return st.putNode(termNode{kind: TkSym, name: s[from:end]}), end, true
}

func (st *termStore) readConstructor(s string, from int) (int, int, bool) {
	end := nameEnd(s, from)
	name := s[from:end]
	if !isBigName(name) {
		return 0, 0, false
	}
	var items []int
	if end < len(s) && s[end] == '(' {
		var ok bool
		items, end, ok = st.readArgs(s, end+1)
		if !ok {
			return 0, 0, false
		}
	}
	return st.putNode(termNode{kind: TkCon, name: name, args: st.putList(items)}), end, true
}

// readArgs reads what stands behind a `(`, with the `)` that ends it.
func (st *termStore) readArgs(s string, from int) ([]int, int, bool) {
	var items []int
	for {
		item, end, ok := st.readTerm(s, from)
		if !ok || end >= len(s) {
			return nil, 0, false
		}
		items = append(items, item)
		switch s[end] {
		case ')':
			return items, end + 1, true
		case ',':
			from = end + 1
		default:
			return nil, 0, false
		}
	}
}

func (st *termStore) text(at int) string {
	node := st.nodes[at]
	switch node.kind {
	case TkNum:
		return NumText(node.num)
	case TkSym:
		return node.name
	}
	return constructorText(node.name, st.argTexts(at))
}

func (st *termStore) argTexts(at int) []string {
	var texts []string
	for _, arg := range st.argsOf(at) {
		texts = append(texts, st.text(arg))
	}
	return texts
}

func (st *termStore) size(at int) int {
	size := 1
	for _, arg := range st.argsOf(at) {
		size += st.size(arg)
	}
	return size
}

// compare relies on the kinds rising as the document orders them.
func (st *termStore) compare(a, b int) int {
	if a == b {
		return 0
	}
	x, y := st.nodes[a], st.nodes[b]
	xs, ys := st.argsOf(a), st.argsOf(b)
	c := cmp.Or(
		cmp.Compare(x.kind, y.kind),
		cmp.Compare(x.num, y.num),
		cmp.Compare(x.name, y.name),
		cmp.Compare(len(xs), len(ys)))
	for i := 0; c == 0 && i < len(xs); i++ {
		c = st.compare(xs[i], ys[i])
	}
	return c
}

func (st *termStore) inside(a, b int) bool {
	for _, arg := range st.argsOf(b) {
		if arg == a || st.inside(a, arg) {
			return true
		}
	}
	return false
}

func isDigit(b byte) bool { return b >= '0' && b <= '9' }

func isBigLetter(b byte) bool { return b >= 'A' && b <= 'Z' }

func isSmallLetter(b byte) bool { return b >= 'a' && b <= 'z' }

func isNameByte(b byte) bool {
	return isBigLetter(b) || isSmallLetter(b) || isDigit(b) || b == '_'
}

func isSymbolByte(b byte) bool {
	return b >= 32 && b <= 126 && b != '"' && b != '\\'
}

func isNumber(n int) bool { return n >= -MaxNum && n <= MaxNum }

// nameEnd is the place behind the name bytes that stand in s from from on.
func nameEnd(s string, from int) int {
	for from < len(s) && isNameByte(s[from]) {
		from++
	}
	return from
}

func isBigName(s string) bool {
	return len(s) >= 1 && len(s) <= MaxName && isBigLetter(s[0]) && nameEnd(s, 0) == len(s)
}

func constructorText(name string, args []string) string {
	if len(args) == 0 {
		return name
	}
	return name + "(" + strings.Join(args, ",") + ")"
}

func TermKind(s string) int {
	st := newTermStore()
	at, ok := st.read(s)
	if !ok {
		return TkNone
	}
	return st.nodes[at].kind
}

func TermParts(s string) (string, []string) {
	st := newTermStore()
	at, ok := st.read(s)
	if !ok {
		return "", nil
	}
	if st.nodes[at].kind != TkCon {
		return s, nil
	}
	return st.nodes[at].name, st.argTexts(at)
}

func TermMake(name string, args []string) (string, bool) {
	if !isBigName(name) {
		return "", false
	}
	for _, arg := range args {
		if TermKind(arg) == TkNone {
			return "", false
		}
	}
	made := constructorText(name, args)
	if len(made) > MaxTerm {
		return "", false
	}
	return made, true
}

func TermSize(s string) int {
	st := newTermStore()
	at, ok := st.read(s)
	if !ok {
		return 0
	}
	return st.size(at)
}

func TermCmp(a string, b string) int {
	st := newTermStore()
	x, okA := st.read(a)
	y, okB := st.read(b)
	if !okA || !okB {
		return 2
	}
	return st.compare(x, y)
}

func TermNum(s string) (int, bool) {
	st := newTermStore()
	at, ok := st.read(s)
	if !ok || st.nodes[at].kind != TkNum {
		return 0, false
	}
	return st.nodes[at].num, true
}

func NumTerm(n int) string {
	if !isNumber(n) {
		return ""
	}
	return NumText(n)
}

func Inside(a string, b string) bool {
	st := newTermStore()
	x, okA := st.read(a)
	y, okB := st.read(b)
	return okA && okB && st.inside(x, y)
}

func NumText(n int) string { return strconv.Itoa(n) }
