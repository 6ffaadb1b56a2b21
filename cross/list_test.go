package cross

import (
	"strings"
	"testing"
)

// P15.1, P15.2: for types of all sorts, whether they are told when they are handed over, lent, lent alone.
func TestTypes(t *testing.T) {
	for row, right := range map[string]string{
		"int": "yyy", "bool": "yyy", "unit": "yyy", "Atomic": "yyy", "Box<int>": "yyy", "Cell<int>": "yny", "Cell<unit>": "yny", "Box<Cell<bool>>": "yny", "Rc<int>": "nnn", "Box<Rc<int>>": "nnn", "Arc<int>": "yyy", "Arc<Cell<int>>": "nnn", "Arc<Rc<int>>": "nnn", "Arc<Box<Cell<int>>>": "nnn",
		"Mutex<int>": "yyy", "Mutex<Cell<int>>": "yyy", "Mutex<Rc<int>>": "nnn", "Arc<Mutex<Cell<int>>>": "yyy", "Arc<Mutex<Rc<int>>>": "nnn", "Box<Mutex<Cell<int>>>": "yyy", "Sender<int>": "yyy", "Sender<Cell<int>>": "yyy", "Receiver<Cell<int>>": "yyy", "Sender<Rc<int>>": "nnn", "Receiver<Rc<int>>": "nnn", "Receiver<Arc<Cell<int>>>": "nnn", "Sender<Sender<Cell<int>>>": "yyy",
		"&int": "yyy", "&Cell<int>": "nnn", "&mut int": "yyy", "&mut Cell<int>": "yny", "& &mut Cell<int>": "nnn", "&mut &Cell<int>": "nnn", "&mut &mut Cell<int>": "yny", "& &int": "yyy", "&Rc<int>": "nnn", "&mut Rc<int>": "nnn", "&Mutex<Cell<int>>": "yyy", "&mut Mutex<Cell<int>>": "yyy", "&Atomic": "yyy", "&Arc<Cell<int>>": "nnn",
		"P": "yyy", "Q": "yny", "W": "nnn", "L": "yyy", "O": "yyy", "F": "yny", "E": "nnn", "Box<Q>": "yny", "Arc<P>": "yyy", "Arc<Q>": "nnn", "Mutex<Q>": "yyy", "Mutex<W>": "nnn", "Sender<F>": "yyy", "Receiver<E>": "nnn", "&Q": "nnn", "&mut Q": "yny", "&L": "yyy", "&mut W": "nnn",
	} {
		var list []string
		for i, sign := range []string{"", "&", "&mut "} {
			mark := map[byte]string{'y': "#", 'n': "!#"}[right[i]]
			list = append(list, "v"+string("abc"[i])+" = #"+sign+row+mark+" "+sign+"x")
		}
		told(t, items+"fn f(x: "+row+") -> int { scope { spawn ("+strings.Join(list, ", ")+") { } } 0 }")
	}
}

// P15.1: each expression of a list, with its type, at its place: with a sign between two sides that of the sign.
func TestExpressions(t *testing.T) {
	lists(t,
		"", "y = #int# 1", "y = #bool# true", "y = #unit# ()", "y = #int# n", "y = #int# -n", "y = n #int# + 1", "y = n #int# - 1", "y = n * n #int# + 1", "y = n #int# * (n + 1)", "y = n #int# / 1", "y = n #int# % 1", "y = n #bool# < 1", "y = n #bool# == 1", "y = #bool# not true", "y = true #bool# and false", "y = true #bool# or false", "y = (#int# n)", "y = ((n #int# + 1))",
		"y = #Cell<int># c", "y = #Rc<int>!# o", "y = #&Cell<int>!# r", "y = #&mut Cell<int># m", "y = #W!# w", "y = #int# w.f.d.a", "y = #int# o.*", "y = #int# w.f.d.b.*",
		"y = #&int# &n", "y = #&Cell<int>!# &c", "y = #&Rc<int>!# &o", "y = #&W!# &w", "y = #& &Cell<int>!# &r", "y = #& &mut Cell<int>!# &m", "y = #&Cell<int>!# &m.*", "y = #&Q!# &w.f", "y = #&P# &w.f.d", "y = #&int# &w.e.*", "y = #&Box<int># &w.f.d.b", "y = #&int# &o.*",
		"y = #&mut int# &mut n", "y = #&mut Cell<int># &mut c", "y = #&mut Rc<int>!# &mut o", "y = #&mut W!# &mut w", "y = #&mut Q# &mut w.f", "y = #&mut &Cell<int>!# &mut r", "y = #&mut &mut Cell<int># &mut m", "y = #&mut Cell<int># &mut m.*", "y = #&mut int# &mut w.f.d.b.*",
		"y = #Rc<int>!# share(o)", "y = #Cell<int># peek(&c, &mut w.f.c)", "y = #Cell<int># peek(r, m)", "y = #W!# make(n + 1)", "y = #L# never()", "y = #O# O { }", "y = #P# P { a = n, b = box(1) }", "y = #W!# W { e = o, f = Q { c = c, d = P { a = 1, b = box(2) } } }", "y = #F# F.A", "y = #F# F.C(P { a = n, b = box(1) })", "y = #E!# E.B(1)", "y = #E!# E.A(o)",
		"y = #Box<int># box(1)", "y = #Box<Rc<int>>!# box(o)", "y = #Rc<int>!# unbox(box(o))", "y = #W!# unbox(box(w))", "y = #Cell<bool># cell(true)", "y = #int# get(c)", "y = #int# get(r.*)", "y = #unit# set(c, 1)", "y = #Rc<unit>!# rc(set(m.*, 1))", "y = #Arc<Cell<int>>!# arc(c)", "y = #Arc<int># arc(n)", "y = #Rc<int>!# clone(o)", "y = #Rc<int>!# clone(w.e)", "y = #Mutex<Cell<int>># mutex(c)", "y = #Mutex<Rc<int>>!# mutex(o)", "y = #Rc<int>!# open(mutex(o))", "y = #Cell<int># open(mutex(c))",
		"y = #Atomic# atomic(n)", "y = #Mutex<Rc<Atomic>>!# mutex(rc(atomic(1)))", "x = #int# 1, y = #Rc<int>!# o, z = #&Cell<int>!# &c, u = #Cell<int># c, v = #&mut Rc<int>!# &mut o, k = n #int# + 1",
	)
	told(t, items+"fn f(a: Atomic, s: Sender<Rc<int>>, r: Receiver<Rc<int>>, q: Receiver<int>, o: Rc<int>) -> int { scope { spawn (h = #int# load(a), i = #unit# store(a, 1), j = #int# fetch(a, 2), k = #unit# send(s, o), l = #Rc<int>!# recv(r), m = #int# recv(q)) { } spawn (h = #Sender<Rc<int>>!# clone(s), i = #Receiver<Rc<int>>!# clone(r), j = #Receiver<int># clone(q), k = #&Receiver<int># &q, l = #&mut Sender<Rc<int>>!# &mut s) { } } 0 }")
}
