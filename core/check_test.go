package core

import (
	"math"
	"slices"
	"strings"
	"testing"

	"cellarer/api"
)

// others are functions that the ones of tests call: 0 to 3.
const others = `extern ext(v0: List, v1: Int): List
extern bool(): Bool
extern mod.reads(read v0: Tree, v1: List): Tree
fun id(v0: List): List
  ret v0
`

// The index of the function behind the others.
const tested = 4

// nodeCase is a change of a node of the function behind the others, and the error of CheckFun for this node then.
type nodeCase struct {
	node   int
	change func(n *api.Node)
	want   api.Errno
}

// checkNodes checks a function, and then each of its changes.
func checkNodes(t *testing.T, text string, cases []nodeCase) {
	t.Helper()
	p := read(t, others+text)
	checkFun(t, p, tested, 0, api.OK)
	checkCheck(t, p, api.OK)
	for i, c := range cases {
		q := changedNode(p, tested, c.node, c.change)
		wantNode := c.node
		if c.want == api.OK {
			wantNode = 0
		}
		if node, e := CheckFun(q, tested); node != wantNode || e != c.want {
			t.Errorf("the change %d of %s leads to %d, %d, want %d, %d", i, text, node, e, wantNode, c.want)
		}
		if node, e := plainCheckFun(q, tested); node != wantNode || e != c.want {
			t.Errorf("the change %d of %s leads to the plain %d, %d, want %d, %d", i, text, node, e, wantNode, c.want)
		}
		checkCheck(t, q, c.want)
	}
}

// all has a function with all operations. Its first nodes have their numbers.
const all = `fun f(v0: List, read v1: List, v2: Int, v3: Tree, v4: Color): List
  v5 = -7
  v6 = add v2 v5
  v7 = less v6 v2
  v8 = Cons v2 v0
  v9 = copy v1
  v10 = call ext v9 v2
  drop v10
  v11 = call bool
  take v3
  | Leaf
    tail id v8
  | Node v12 v13 v14
    read v1
    | Nil
      read v7
      | False
        hole Cons v6 _ : ext v8 v5
      | True
        read v4
        | Red
          v15 = Nil
          ret v15
        | Green
          v16 = Pair v8 v4
          take v16
          | Pair v17 v18
            ret v17
          | None
            ret v13
        | Blue
          ret v8
    | Cons v19 v20
      v21 = copy v20
      ret v21
`

// TestFields sets each field that does not belong to each operation.
func TestFields(t *testing.T) {
	p := read(t, others+all)
	checkFun(t, p, tested, 0, api.OK)
	seen := map[int]bool{}
	for node, n := range p.Funs[tested].Code {
		seen[n.Op] = true
		for name, set := range map[string]func(n *api.Node){
			"Var": func(n *api.Node) { n.Var = 1 }, "Con": func(n *api.Node) { n.Con = -1 }, "Num": func(n *api.Node) { n.Num = math.MinInt64 }, "Fun": func(n *api.Node) { n.Fun = 1 }, "More": func(n *api.Node) { n.More = []int{0} },
			"Take": func(n *api.Node) { n.Take = true }, "Branches": func(n *api.Node) { n.Branches = []api.Branch{{}} }, "Next": func(n *api.Node) { n.Next = 1 },
		} {
			if !slices.Contains(strings.Fields(strings.NewReplacer("1", "", "2", "").Replace(fields[n.Op])), name) {
				checkFun(t, changedNode(p, tested, node, set), tested, node, api.ErrForm)
				checkCheck(t, changedNode(p, tested, node, set), api.ErrForm)
			}
		}
		// Empty lists are like none.
		checkFun(t, changedNode(p, tested, node, func(n *api.Node) {
			if len(n.More) == 0 {
				n.More = []int{}
			}
			if len(n.Branches) == 0 {
				n.Branches = []api.Branch{}
			}
			if len(n.Args) == 0 {
				n.Args = []int{}
			}
		}), tested, 0, api.OK)
		for _, op := range []int{math.MinInt, -1, api.Ops, api.Ops + 1, 1 << 32, math.MaxInt} {
			checkFun(t, changedNode(p, tested, node, func(n *api.Node) { n.Op = op }), tested, node, api.ErrForm)
			checkFun(t, changedNode(p, tested, node, func(n *api.Node) { *n = api.Node{Op: op} }), tested, node, api.ErrForm)
		}
		// A number of Args that is in the table.
		if wanted := map[int]int{api.Ret: 1, api.Num: 0, api.Prim: 2, api.Copy: 1, api.Drop: 1, api.Match: 1}; n.Op != api.Make && n.Op != api.Call && n.Op != api.Tail && n.Op != api.Hole {
			for count := range 5 {
				if count != wanted[n.Op] {
					checkFun(t, changedNode(p, tested, node, func(n *api.Node) { n.Args = slices.Repeat([]int{2}, count) }), tested, node, api.ErrForm)
				}
			}
		}
	}
	if len(seen) != api.Ops {
		t.Errorf("the function has only %d operations", len(seen))
	}
}

func TestRet(t *testing.T) {
	checkNodes(t, "fun f(v0: List, v1: Tree, read v2: List): List\n  v3 = 5\n  ret v0\n", []nodeCase{
		{1, func(n *api.Node) { n.Args[0] = 1 }, api.ErrType}, {1, func(n *api.Node) { n.Args[0] = 3 }, api.ErrType}, {1, func(n *api.Node) { n.Args[0] = 4 }, api.ErrNone}, {1, func(n *api.Node) { n.Args[0] = -1 }, api.ErrNone},
		{1, func(n *api.Node) { n.Args[0] = math.MinInt }, api.ErrNone}, {1, func(n *api.Node) { n.Args[0] = math.MaxInt }, api.ErrNone},
		// Modes of what is used are not examined here.
		{1, func(n *api.Node) { n.Args[0] = 2 }, api.OK},
		{0, func(n *api.Node) { n.Next = 0 }, api.ErrForm}, {0, func(n *api.Node) { n.Next = 2 }, api.ErrForm}, {0, func(n *api.Node) { n.Next = -1 }, api.ErrForm}, {0, func(n *api.Node) { n.Next = math.MaxInt }, api.ErrForm},
	})
	checkNodes(t, "fun f(v0: Int): Int\n  ret v0\n", nil)
	checkNodes(t, "fun f(v0: Bool): Bool\n  ret v0\n", nil)
}

func TestNum(t *testing.T) {
	checkNodes(t, "fun f(v0: List, v1: Int): Int\n  v2 = 5\n  v3 = -9223372036854775808\n  v4 = True\n  ret v3\n", []nodeCase{
		{0, func(n *api.Node) { n.Num = math.MaxInt64 }, api.OK}, {0, func(n *api.Node) { n.Num = 0 }, api.OK},
		{0, func(n *api.Node) { n.Var = 5 }, api.ErrRange}, {0, func(n *api.Node) { n.Var = -1 }, api.ErrRange}, {0, func(n *api.Node) { n.Var = math.MinInt }, api.ErrRange}, {0, func(n *api.Node) { n.Var = 0 }, api.ErrTwice}, {0, func(n *api.Node) { n.Var = 1 }, api.ErrTwice},
		{1, func(n *api.Node) { n.Var = 2 }, api.ErrTwice}, {0, func(n *api.Node) { n.Var = 4 }, api.ErrType}, {0, func(n *api.Node) { n.Args = []int{1} }, api.ErrForm},
		{2, func(n *api.Node) { *n = api.Node{Op: api.Num, Var: 4, Next: 3} }, api.ErrType},
	})
}

func TestPrim(t *testing.T) {
	for prim, name := range strings.Fields("add sub mul div mod less most equal") {
		result, wrong := "Int", []int64{5, 6, 7}
		if prim >= 5 {
			result, wrong = "Bool", []int64{0, 1, 2, 3, 4}
		}
		cases := []nodeCase{
			{0, func(n *api.Node) { n.Args[0] = 1 }, api.ErrType}, {0, func(n *api.Node) { n.Args[1] = 1 }, api.ErrType}, {0, func(n *api.Node) { n.Args[0] = 2 }, api.ErrType}, {0, func(n *api.Node) { n.Args[1] = 2 }, api.ErrType}, {0, func(n *api.Node) { n.Args[1] = 0 }, api.OK},
			{0, func(n *api.Node) { n.Args[0] = 3 }, api.ErrNone}, {0, func(n *api.Node) { n.Args[1] = 3 }, api.ErrNone}, {0, func(n *api.Node) { n.Args[1] = 4 }, api.ErrNone}, {0, func(n *api.Node) { n.Args[0] = -1 }, api.ErrNone},
			{0, func(n *api.Node) { n.Num = -1 }, api.ErrRange}, {0, func(n *api.Node) { n.Num = 8 }, api.ErrRange}, {0, func(n *api.Node) { n.Num = math.MinInt64 }, api.ErrRange}, {0, func(n *api.Node) { n.Num = 1 << 32 }, api.ErrRange}, {0, func(n *api.Node) { n.Var = 4 }, api.ErrRange}, {0, func(n *api.Node) { n.Var = 2 }, api.ErrTwice},
		}
		for _, num := range wrong {
			cases = append(cases, nodeCase{0, func(n *api.Node) { n.Num = num }, api.ErrType})
		}
		checkNodes(t, "fun f(v0: Int, v1: Bool, v2: List): "+result+"\n  v3 = "+name+" v0 v0\n  ret v3\n", cases)
	}
}

func TestMake(t *testing.T) {
	checkNodes(t, "fun f(v0: Tree, v1: List, read v2: Tree, v3: Int): Tree\n  v4 = Node v0 v1 v2\n  v5 = Leaf\n  v6 = Green\n  v7 = Nil\n  ret v4\n", []nodeCase{
		{0, func(n *api.Node) { n.Con = 0 }, api.ErrType}, {0, func(n *api.Node) { n.Con = 2 }, api.ErrType}, {0, func(n *api.Node) { n.Con = -1 }, api.ErrType}, {0, func(n *api.Node) { n.Con = math.MaxInt }, api.ErrType}, {0, func(n *api.Node) { n.Con = math.MinInt }, api.ErrType},
		{0, func(n *api.Node) { n.Args = n.Args[:2] }, api.ErrType}, {0, func(n *api.Node) { n.Args = append(n.Args, 0) }, api.ErrType}, {0, func(n *api.Node) { n.Args = nil }, api.ErrType}, {0, func(n *api.Node) { n.Args[1] = 0 }, api.ErrType}, {0, func(n *api.Node) { n.Args[0], n.Args[1] = 1, 0 }, api.ErrType}, {0, func(n *api.Node) { n.Args[2] = 3 }, api.ErrType},
		{0, func(n *api.Node) { n.Args[2] = 0 }, api.OK}, {0, func(n *api.Node) { n.Args[0] = -1 }, api.ErrNone}, {0, func(n *api.Node) { n.Args[2] = 5 }, api.ErrNone}, {0, func(n *api.Node) { n.Args[2] = 4 }, api.ErrNone}, {0, func(n *api.Node) { n.Var = 8 }, api.ErrRange}, {0, func(n *api.Node) { n.Var = 3 }, api.ErrTwice},
		{1, func(n *api.Node) { n.Args = []int{0} }, api.ErrType}, {1, func(n *api.Node) { n.Con = 1 }, api.ErrType}, {2, func(n *api.Node) { n.Con = 0 }, api.OK}, {2, func(n *api.Node) { n.Con = 2 }, api.OK}, {2, func(n *api.Node) { n.Con = 3 }, api.ErrType}, {1, func(n *api.Node) { n.Var = 4 }, api.ErrTwice},
		// The type of the variable decides which constructor is made.
		{0, func(n *api.Node) { n.Var = 7 }, api.ErrType}, {3, func(n *api.Node) { n.Con = 1; n.Args = []int{3, 1} }, api.OK},
	})
	// An Int has no constructors.
	p := read(t, others+"fun f(v0: List): List\n  v1 = 5\n  ret v0\n")
	checkFun(t, changedNode(p, tested, 0, func(n *api.Node) { n.Op, n.Num = api.Make, 0 }), tested, 0, api.ErrType)
}

func TestCopyAndDrop(t *testing.T) {
	checkNodes(t, "fun f(v0: List, read v1: Tree, v2: Color, v3: Int, v4: Tree): List\n  v5 = copy v0\n  v6 = copy v1\n  drop v4\n  drop v0\n  ret v5\n", []nodeCase{
		{0, func(n *api.Node) { n.Args[0] = 1 }, api.ErrType}, {0, func(n *api.Node) { n.Args[0] = 2 }, api.ErrType}, {0, func(n *api.Node) { n.Args[0] = 3 }, api.ErrType}, {0, func(n *api.Node) { n.Args[0] = 5 }, api.ErrNone}, {0, func(n *api.Node) { n.Args[0] = -1 }, api.ErrNone}, {0, func(n *api.Node) { n.Var = 6 }, api.ErrType}, {0, func(n *api.Node) { n.Var = 0 }, api.ErrTwice}, {0, func(n *api.Node) { n.Var = 7 }, api.ErrRange},
		{1, func(n *api.Node) { n.Args[0] = 4 }, api.OK}, {1, func(n *api.Node) { n.Args[0] = 0 }, api.ErrType},
		{2, func(n *api.Node) { n.Args[0] = 0 }, api.OK}, {2, func(n *api.Node) { n.Args[0] = 1 }, api.OK}, {2, func(n *api.Node) { n.Args[0] = 6 }, api.OK}, {2, func(n *api.Node) { n.Args[0] = 2 }, api.ErrType}, {2, func(n *api.Node) { n.Args[0] = 3 }, api.ErrType}, {2, func(n *api.Node) { n.Args[0] = 7 }, api.ErrNone}, {2, func(n *api.Node) { n.Args[0] = -1 }, api.ErrNone},
	})
	// A copy of a flat value has the argument's type, too.
	p := read(t, others+"fun f(v0: Color, v1: Int): Color\n  v2 = Red\n  v3 = 5\n  ret v2\n")
	checkFun(t, changedNode(p, tested, 0, func(n *api.Node) { *n = api.Node{Op: api.Copy, Var: 2, Args: []int{0}, Next: 1} }), tested, 0, api.ErrType)
	checkFun(t, changedNode(p, tested, 1, func(n *api.Node) { *n = api.Node{Op: api.Copy, Var: 3, Args: []int{1}, Next: 2} }), tested, 1, api.ErrType)
}

func TestCall(t *testing.T) {
	checkNodes(t, "fun f(v0: List, v1: Int, read v2: Tree, read v3: List): List\n  v4 = call ext v0 v1\n  v5 = call bool\n  v6 = call mod.reads v2 v3\n  v7 = call f v4 v1 v2 v3\n  ret v4\n", []nodeCase{
		{0, func(n *api.Node) { n.Fun = 1 }, api.ErrType}, {0, func(n *api.Node) { n.Fun = 2 }, api.ErrType}, {0, func(n *api.Node) { n.Fun = 3 }, api.ErrType}, {0, func(n *api.Node) { n.Fun = 5 }, api.ErrRange}, {0, func(n *api.Node) { n.Fun = -1 }, api.ErrRange}, {0, func(n *api.Node) { n.Fun = math.MaxInt }, api.ErrRange}, {0, func(n *api.Node) { n.Fun = math.MinInt }, api.ErrRange},
		{0, func(n *api.Node) { n.Fun, n.Args = 3, []int{0} }, api.OK}, {0, func(n *api.Node) { n.Args[0] = 3 }, api.OK}, {0, func(n *api.Node) { n.Args = n.Args[:1] }, api.ErrType}, {0, func(n *api.Node) { n.Args = append(n.Args, 1) }, api.ErrType}, {0, func(n *api.Node) { n.Args[0], n.Args[1] = 1, 0 }, api.ErrType}, {0, func(n *api.Node) { n.Args[0] = 2 }, api.ErrType},
		{0, func(n *api.Node) { n.Args[1] = 4 }, api.ErrNone}, {0, func(n *api.Node) { n.Args[1] = -1 }, api.ErrNone}, {0, func(n *api.Node) { n.Var = 5 }, api.ErrType}, {0, func(n *api.Node) { n.Var = 8 }, api.ErrRange}, {0, func(n *api.Node) { n.Var = 2 }, api.ErrTwice},
		{1, func(n *api.Node) { n.Args = []int{0} }, api.ErrType}, {1, func(n *api.Node) { n.Var = 6 }, api.ErrType}, {2, func(n *api.Node) { n.Args[0] = 0 }, api.ErrType}, {3, func(n *api.Node) { n.Args = nil }, api.ErrType}, {3, func(n *api.Node) { n.Var = 4 }, api.ErrTwice},
	})
}

func TestTail(t *testing.T) {
	checkNodes(t, "fun f(v0: List, v1: Int, read v2: Tree): List\n  v3 = 8\n  tail ext v0 v3\n", []nodeCase{
		{1, func(n *api.Node) { n.Fun, n.Args = 3, []int{0} }, api.OK}, {1, func(n *api.Node) { n.Fun, n.Args = 4, []int{0, 1, 2} }, api.OK}, {1, func(n *api.Node) { n.Fun = 3 }, api.ErrType}, {1, func(n *api.Node) { n.Fun, n.Args = 1, nil }, api.ErrType}, {1, func(n *api.Node) { n.Fun, n.Args = 2, []int{2, 0} }, api.ErrType},
		{1, func(n *api.Node) { n.Fun = 5 }, api.ErrRange}, {1, func(n *api.Node) { n.Fun = -1 }, api.ErrRange}, {1, func(n *api.Node) { n.Args = n.Args[:1] }, api.ErrType}, {1, func(n *api.Node) { n.Args = append(n.Args, 1) }, api.ErrType}, {1, func(n *api.Node) { n.Args[0] = 2 }, api.ErrType}, {1, func(n *api.Node) { n.Args[1] = 4 }, api.ErrNone}, {1, func(n *api.Node) { n.Args[0] = -1 }, api.ErrNone},
	})
}

func TestHole(t *testing.T) {
	checkNodes(t, "fun f(v0: Tree, v1: List, v2: Int, read v3: Tree): Tree\n  hole Node v0 v1 _ : mod.reads v3 v1\n", []nodeCase{
		{0, func(n *api.Node) { n.Num = 0; n.Args[0], n.Args[2] = -1, 0 }, api.OK}, {0, func(n *api.Node) { n.Num, n.Args[1], n.Args[2] = 1, -1, 0; n.Fun, n.More = 0, []int{1, 2} }, api.OK}, {0, func(n *api.Node) { n.Num, n.Args[1], n.Args[2] = 1, -1, 0 }, api.ErrType},
		{0, func(n *api.Node) { n.Num = 1 }, api.ErrType}, {0, func(n *api.Node) { n.Num = 3 }, api.ErrType}, {0, func(n *api.Node) { n.Num = -1 }, api.ErrType}, {0, func(n *api.Node) { n.Num = math.MaxInt64 }, api.ErrType}, {0, func(n *api.Node) { n.Num = math.MinInt64 }, api.ErrType}, {0, func(n *api.Node) { n.Num = 1<<32 + 2 }, api.ErrType},
		// There is no hole at all.
		{0, func(n *api.Node) { n.Num, n.Args[2] = 3, 0 }, api.ErrType}, {0, func(n *api.Node) { n.Num, n.Args[2] = -1, 0 }, api.ErrType}, {0, func(n *api.Node) { n.Num, n.Args[2] = math.MaxInt64, 0 }, api.ErrType}, {0, func(n *api.Node) { n.Num, n.Args[2] = math.MinInt64, 0 }, api.ErrType}, {0, func(n *api.Node) { n.Args[2] = 3 }, api.ErrType},
		{0, func(n *api.Node) { n.Con = 0 }, api.ErrType}, {0, func(n *api.Node) { n.Con = 2 }, api.ErrType}, {0, func(n *api.Node) { n.Con = -1 }, api.ErrType}, {0, func(n *api.Node) { n.Con = math.MinInt }, api.ErrType},
		{0, func(n *api.Node) { n.Args[2] = 0 }, api.ErrType}, {0, func(n *api.Node) { n.Args[2] = -2 }, api.ErrType}, {0, func(n *api.Node) { n.Args[2] = math.MinInt }, api.ErrType}, {0, func(n *api.Node) { n.Args[0] = -1 }, api.ErrType}, {0, func(n *api.Node) { n.Args[1] = -7 }, api.ErrType}, {0, func(n *api.Node) { n.Args[0] = 1 }, api.ErrType}, {0, func(n *api.Node) { n.Args[1] = 0 }, api.ErrType},
		{0, func(n *api.Node) { n.Args[0] = 4 }, api.ErrNone}, {0, func(n *api.Node) { n.Args[2] = 4 }, api.ErrNone}, {0, func(n *api.Node) { n.Args[2] = math.MaxInt }, api.ErrNone}, {0, func(n *api.Node) { n.Args = n.Args[1:] }, api.ErrType}, {0, func(n *api.Node) { n.Args = append(n.Args, 0) }, api.ErrType}, {0, func(n *api.Node) { n.Args = nil }, api.ErrType},
		{0, func(n *api.Node) { n.More[0] = -1 }, api.ErrType}, {0, func(n *api.Node) { n.More[1] = math.MinInt }, api.ErrType}, {0, func(n *api.Node) { n.More[0] = 4 }, api.ErrNone}, {0, func(n *api.Node) { n.More[1] = 4 }, api.ErrNone}, {0, func(n *api.Node) { n.More[0] = 0 }, api.OK}, {0, func(n *api.Node) { n.More[0] = 2 }, api.ErrType}, {0, func(n *api.Node) { n.More = n.More[:1] }, api.ErrType}, {0, func(n *api.Node) { n.More = nil }, api.ErrType}, {0, func(n *api.Node) { n.More = append(n.More, 1) }, api.ErrType},
		{0, func(n *api.Node) { n.Fun = 0 }, api.ErrType}, {0, func(n *api.Node) { n.Fun, n.More = 0, []int{1, 2} }, api.ErrType}, {0, func(n *api.Node) { n.Fun = 5 }, api.ErrRange}, {0, func(n *api.Node) { n.Fun = -1 }, api.ErrRange}, {0, func(n *api.Node) { n.Fun = math.MaxInt }, api.ErrRange},
		// What is used in vain precedes what does not exist, and this a negative number.
		{0, func(n *api.Node) { n.Fun, n.More[0] = 5, 9 }, api.ErrNone}, {0, func(n *api.Node) { n.Fun, n.More[0] = 5, -1 }, api.ErrRange},
	})
	checkNodes(t, "fun f(v0: Color): Pair\n  v1 = Nil\n  hole Pair _ v0 : id v1\n", nil)
	// A flat field may be the hole, and so may a field of another type than the result.
	checkNodes(t, "fun f(v0: List): List\n  hole Cons _ v0 : g v0\nfun g(v0: List): Int\n  v1 = 1\n  ret v1\n", nil)
	// Int and flat types have no constructors with fields.
	p := read(t, others+"fun f(v0: List): Int\n  v1 = 5\n  ret v1\nfun g(v0: Color): Color\n  ret v0\n")
	checkFun(t, changedNode(p, tested, 1, func(n *api.Node) { *n = api.Node{Op: api.Hole, Fun: 3, More: []int{0}} }), tested, 1, api.ErrType)
	checkFun(t, changedNode(p, tested, 1, func(n *api.Node) { *n = api.Node{Op: api.Hole, Args: []int{-1}, Fun: tested, More: []int{0}} }), tested, 1, api.ErrType)
	checkFun(t, changedNode(p, tested+1, 0, func(n *api.Node) { *n = api.Node{Op: api.Hole, Args: []int{-1}, Fun: tested + 1, More: []int{0}} }), tested+1, 0, api.ErrType)
}

func TestMatch(t *testing.T) {
	checkNodes(t, "fun f(v0: Tree, read v1: Pair, v2: Color, v3: Int): Int\n  take v0\n  | Leaf\n    ret v3\n  | Node v4 v5 v6\n    read v1\n    | Pair v7 v8\n      read v2\n      | Red\n        ret v3\n      | Green\n        ret v3\n      | Blue\n        ret v3\n    | None\n      ret v3\n", []nodeCase{
		{0, func(n *api.Node) { n.Take = false }, api.ErrMode}, {2, func(n *api.Node) { n.Take = true }, api.ErrMode}, {3, func(n *api.Node) { n.Take = true }, api.ErrType},
		{0, func(n *api.Node) { n.Args[0] = 1 }, api.ErrType}, {0, func(n *api.Node) { n.Args[0] = 2 }, api.ErrType}, {0, func(n *api.Node) { n.Args[0] = 3 }, api.ErrType}, {0, func(n *api.Node) { n.Args[0] = 4 }, api.ErrNone}, {0, func(n *api.Node) { n.Args[0] = -1 }, api.ErrNone}, {0, func(n *api.Node) { n.Args[0] = 9 }, api.ErrNone},
		{2, func(n *api.Node) { n.Args[0] = 7 }, api.ErrNone}, {2, func(n *api.Node) { n.Args[0] = 4 }, api.ErrType}, {3, func(n *api.Node) { n.Args[0] = 8 }, api.OK},
		{0, func(n *api.Node) { n.Branches = n.Branches[:1] }, api.ErrType}, {0, func(n *api.Node) { n.Branches = n.Branches[1:] }, api.ErrType}, {0, func(n *api.Node) { n.Branches = nil }, api.ErrType}, {0, func(n *api.Node) { n.Branches = append(n.Branches, api.Branch{Then: 1}) }, api.ErrType}, {0, func(n *api.Node) { slices.Reverse(n.Branches) }, api.ErrType},
		{0, func(n *api.Node) { n.Branches[1].Binds = n.Branches[1].Binds[1:] }, api.ErrType}, {0, func(n *api.Node) { n.Branches[1].Binds = nil }, api.ErrType}, {0, func(n *api.Node) { n.Branches[0].Binds = []int{7} }, api.ErrType}, {0, func(n *api.Node) { n.Branches[1].Binds[0], n.Branches[1].Binds[1] = 5, 4 }, api.ErrType}, {0, func(n *api.Node) { n.Branches[1].Binds[0], n.Branches[1].Binds[2] = 6, 4 }, api.OK},
		{0, func(n *api.Node) { n.Branches[1].Binds[2] = 9 }, api.ErrRange}, {0, func(n *api.Node) { n.Branches[1].Binds[0] = -1 }, api.ErrRange}, {0, func(n *api.Node) { n.Branches[0].Binds = []int{9} }, api.ErrRange}, {0, func(n *api.Node) { n.Branches[1].Binds[2] = math.MaxInt }, api.ErrRange},
		{0, func(n *api.Node) { n.Branches[1].Binds[2] = 4 }, api.ErrTwice}, {0, func(n *api.Node) { n.Branches[1].Binds[2] = 0 }, api.ErrTwice}, {0, func(n *api.Node) { n.Branches[0].Binds = []int{5} }, api.ErrTwice}, {2, func(n *api.Node) { n.Branches[0].Binds[0] = 5 }, api.ErrTwice},
		{0, func(n *api.Node) { n.Branches[0].Then = 2 }, api.ErrForm}, {0, func(n *api.Node) { n.Branches[0].Then = 0 }, api.ErrForm}, {0, func(n *api.Node) { n.Branches[1].Then = 8 }, api.ErrForm}, {0, func(n *api.Node) { n.Branches[0].Then = -1 }, api.ErrForm}, {3, func(n *api.Node) { n.Branches[2].Then = 1 }, api.ErrForm}, {3, func(n *api.Node) { n.Branches[2].Then = 2 }, api.ErrForm}, {3, func(n *api.Node) { n.Branches[2].Then = 3 }, api.ErrForm}, {3, func(n *api.Node) { n.Branches[1].Then = 7 }, api.ErrForm},
		{0, func(n *api.Node) { n.Branches[0].Then, n.Branches[1].Then = 2, 1 }, api.OK},
	})
	p := read(t, others+"fun f(v0: Int, v1: Bool): Int\n  read v1\n  | False\n    ret v0\n  | True\n    ret v0\n")
	checkFun(t, changedNode(p, tested, 0, func(n *api.Node) { n.Args[0] = 0 }), tested, 0, api.ErrType)
	checkFun(t, changedNode(p, tested, 0, func(n *api.Node) { n.Args[0], n.Branches = 0, nil }), tested, 0, api.ErrType)
	checkFun(t, changedNode(p, tested, 0, func(n *api.Node) { n.Take = true }), tested, 0, api.ErrType)
}

// TestScope has variables of other branches, and of nodes that come later.
func TestScope(t *testing.T) {
	text := "fun f(v0: List, v1: Int): Int\n  read v0\n  | Nil\n    v2 = 1\n    ret v2\n  | Cons v3 v4\n    v5 = 2\n    read v4\n    | Nil\n      v6 = add v3 v5\n      ret v6\n    | Cons v7 v8\n      v9 = add v7 v3\n      ret v9\n"
	p := read(t, others+text)
	// The nodes that use an Int, and the Ints that are in scope there.
	for node, scope := range map[int][]int{2: {1, 2}, 5: {1, 3, 5}, 6: {1, 3, 5, 6}, 7: {1, 3, 5, 7}, 8: {1, 3, 5, 7, 9}} {
		for v := range 12 {
			want := api.ErrNone
			if v == 0 || slices.Contains([]int{4, 8}, v) && slices.Contains([]int{5, 6, 7, 8}, node) && (v == 4 || node > 6) {
				want = api.ErrType
			} else if slices.Contains(scope, v) {
				want = api.OK
			}
			q := changedNode(p, tested, node, func(n *api.Node) { n.Args[0] = v })
			if want == api.OK {
				checkFun(t, q, tested, 0, api.OK)
			} else {
				checkFun(t, q, tested, node, want)
			}
			if plainNode, e := plainCheckFun(q, tested); e != want {
				t.Errorf("the plain error is %d at %d, want %d", e, plainNode, want)
			}
		}
	}
}

// TestHeads has what is not about nodes.
func TestHeads(t *testing.T) {
	p := read(t, others+"fun f(v0: List, v1: Int): Int\n  v2 = 5\n  v3 = Red\n  ret v2\n")
	const extern = 0
	for i, c := range []struct {
		fun    int
		change func(f *api.Fun)
		want   api.Errno
	}{
		{tested, func(f *api.Fun) { f.Name = "g" }, api.OK}, {tested, func(f *api.Fun) { f.Name = "f.g" }, api.OK}, {tested, func(f *api.Fun) { f.Name = "ext2" }, api.OK}, {tested, func(f *api.Fun) { f.Name = "reads" }, api.OK}, {tested, func(f *api.Fun) { f.Name = "fun" }, api.OK}, {tested, func(f *api.Fun) { f.Name = "ret.copy" }, api.OK}, {tested, func(f *api.Fun) { f.Name = "aZ_09.zA_90" }, api.OK},
		{tested, func(f *api.Fun) { f.Name = "" }, api.ErrForm}, {tested, func(f *api.Fun) { f.Name = "F" }, api.ErrForm}, {tested, func(f *api.Fun) { f.Name = "_f" }, api.ErrForm}, {tested, func(f *api.Fun) { f.Name = "1f" }, api.ErrForm}, {tested, func(f *api.Fun) { f.Name = "f g" }, api.ErrForm}, {tested, func(f *api.Fun) { f.Name = "f." }, api.ErrForm}, {tested, func(f *api.Fun) { f.Name = ".f" }, api.ErrForm}, {tested, func(f *api.Fun) { f.Name = "f.g.h" }, api.ErrForm}, {tested, func(f *api.Fun) { f.Name = "f.G" }, api.ErrForm}, {tested, func(f *api.Fun) { f.Name = "f\n" }, api.ErrForm}, {tested, func(f *api.Fun) { f.Name = "\xff" }, api.ErrForm},
		{tested, func(f *api.Fun) { f.Name = strings.Repeat("f", 32) + "." + strings.Repeat("g", 32) }, api.OK}, {tested, func(f *api.Fun) { f.Name = strings.Repeat("f", 33) }, api.ErrForm}, {tested, func(f *api.Fun) { f.Name = strings.Repeat("f", 33) + ".g" }, api.ErrForm}, {tested, func(f *api.Fun) { f.Name = "f." + strings.Repeat("g", 33) }, api.ErrForm},
		{tested, func(f *api.Fun) { f.Name = "ext" }, api.ErrTwice}, {tested, func(f *api.Fun) { f.Name = "id" }, api.ErrTwice}, {tested, func(f *api.Fun) { f.Name = "mod.reads" }, api.ErrTwice},
		{tested, func(f *api.Fun) { f.Params = -1 }, api.ErrForm}, {tested, func(f *api.Fun) { f.Params = math.MinInt }, api.ErrForm}, {tested, func(f *api.Fun) { f.Params = 5 }, api.ErrForm}, {tested, func(f *api.Fun) { f.Params, f.Vars = 3, f.Vars[:2] }, api.ErrForm}, {tested, func(f *api.Fun) { f.Params = 7 }, api.ErrMany}, {tested, func(f *api.Fun) { f.Params = math.MaxInt }, api.ErrMany},
		{tested, func(f *api.Fun) { f.Body = -1 }, api.ErrForm}, {tested, func(f *api.Fun) { f.Body = 3 }, api.ErrForm}, {tested, func(f *api.Fun) { f.Body = math.MaxInt }, api.ErrForm}, {tested, func(f *api.Fun) { f.Body = math.MinInt }, api.ErrForm}, {tested, func(f *api.Fun) { f.Code = nil }, api.ErrForm},
		{tested, func(f *api.Fun) { f.Result = 7 }, api.ErrType}, {tested, func(f *api.Fun) { f.Result = -1 }, api.ErrType}, {tested, func(f *api.Fun) { f.Result = math.MaxInt }, api.ErrType}, {tested, func(f *api.Fun) { f.Vars[0].Type = 7 }, api.ErrType}, {tested, func(f *api.Fun) { f.Vars[3].Type = -1 }, api.ErrType}, {tested, func(f *api.Fun) { f.Vars[2].Type = math.MinInt }, api.ErrType},
		{tested, func(f *api.Fun) { f.Vars[1].Read = true }, api.ErrMode}, {tested, func(f *api.Fun) { f.Vars[2].Read = true }, api.ErrMode}, {tested, func(f *api.Fun) { f.Vars[3].Read = true }, api.ErrMode}, {tested, func(f *api.Fun) { f.Vars[0].Read = true }, api.OK},
		{tested, func(f *api.Fun) { f.Vars = append(f.Vars, api.Var{}) }, api.ErrForm}, {tested, func(f *api.Fun) { f.Vars = append(f.Vars, api.Var{Type: listType, Read: true}) }, api.ErrForm},
		{extern, func(f *api.Fun) { f.Vars = append(f.Vars, api.Var{}) }, api.ErrForm}, {extern, func(f *api.Fun) { f.Vars = f.Vars[:1] }, api.ErrForm}, {extern, func(f *api.Fun) { f.Params = 1 }, api.ErrForm}, {extern, func(f *api.Fun) { f.Params = -1 }, api.ErrForm}, {extern, func(f *api.Fun) { f.Code = []api.Node{{Op: api.Ret, Args: []int{0}}} }, api.ErrForm}, {extern, func(f *api.Fun) { f.Body = 1 }, api.ErrForm}, {extern, func(f *api.Fun) { f.Body = -1 }, api.ErrForm},
		{extern, func(f *api.Fun) { f.Result = 7 }, api.ErrType}, {extern, func(f *api.Fun) { f.Vars[1].Type = 7 }, api.ErrType}, {extern, func(f *api.Fun) { f.Vars[1].Read = true }, api.ErrMode}, {extern, func(f *api.Fun) { f.Vars[0].Read = true }, api.OK}, {extern, func(f *api.Fun) { f.Name = "Ext" }, api.ErrForm}, {extern, func(f *api.Fun) { f.Extern = false }, api.ErrForm}, {extern, func(f *api.Fun) { f.Code, f.Vars = []api.Node{}, slices.Clip(f.Vars) }, api.OK},
		{tested, func(f *api.Fun) { f.Extern = true }, api.ErrForm}, {tested, func(f *api.Fun) { f.Extern, f.Code = true, nil }, api.ErrForm}, {tested, func(f *api.Fun) { f.Extern, f.Code, f.Vars = true, nil, f.Vars[:2] }, api.OK},
	} {
		q := changed(p, func(p *api.Program) { c.change(&p.Funs[c.fun]) })
		wantNode := 0
		if c.want != api.OK {
			wantNode = -1
		}
		if node, e := CheckFun(q, c.fun); node != wantNode || e != c.want {
			t.Errorf("the change %d leads to %d, %d, want %d, %d", i, node, e, wantNode, c.want)
		}
		if node, e := plainCheckFun(q, c.fun); node != wantNode || e != c.want {
			t.Errorf("the change %d leads to the plain %d, %d, want %d, %d", i, node, e, wantNode, c.want)
		}
		checkCheck(t, q, c.want)
	}
	for _, fun := range []int{math.MinInt, -1, 5, 6, math.MaxInt} {
		checkFun(t, p, fun, 0, api.ErrRange)
	}
	checkFun(t, api.Program{}, 0, 0, api.ErrRange)
}

// headChanges are changes of the head of a function, and of the numbers of its variables and nodes.
func headChanges() []func(f *api.Fun) {
	return []func(f *api.Fun){
		func(f *api.Fun) { f.Name = "F" }, func(f *api.Fun) { f.Name = "id" }, func(f *api.Fun) { f.Params = 7 }, func(f *api.Fun) { f.Params = -1 }, func(f *api.Fun) { f.Params = len(f.Vars) + 1 },
		func(f *api.Fun) { f.Vars = append(f.Vars, make([]api.Var, api.MaxVars)...) }, func(f *api.Fun) { f.Code = append(f.Code, make([]api.Node, api.MaxNodes)...) }, func(f *api.Fun) { f.Body = -1 }, func(f *api.Fun) { f.Extern = true }, func(f *api.Fun) { f.Extern, f.Code, f.Vars = true, nil, f.Vars[:2] },
		func(f *api.Fun) { f.Result = 9 }, func(f *api.Fun) { f.Vars[0].Type = -1 }, func(f *api.Fun) { f.Vars[1].Read = true }, func(f *api.Fun) { f.Code = nil }, func(f *api.Fun) { f.Vars = nil },
		func(f *api.Fun) { f.Code[0].Op = 77 }, func(f *api.Fun) { f.Code[0].Next = 5 }, func(f *api.Fun) { f.Vars = append(f.Vars, api.Var{}) },
	}
}

// TestOrderOfHeads has two changes of the head of a function at once.
func TestOrderOfHeads(t *testing.T) {
	p := read(t, others+"fun f(v0: List, v1: Int): Int\n  v2 = 5\n  v3 = Red\n  ret v2\n")
	count := map[api.Errno]int{}
	for i, first := range headChanges() {
		for _, second := range headChanges() {
			var q api.Program
			ok := func() (ok bool) {
				defer func() { _ = recover() }() // the first change may remove what the second one changes
				q = changed(p, func(p *api.Program) { first(&p.Funs[tested]); second(&p.Funs[tested]) })
				return true
			}()
			if !ok {
				continue
			}
			wantNode, want := plainCheckFun(q, tested)
			if node, e := CheckFun(q, tested); node != wantNode || e != want {
				t.Errorf("the change %d and another one lead to %d, %d, want %d, %d", i, node, e, wantNode, want)
			}
			count[want]++
		}
	}
	for _, e := range []api.Errno{api.ErrForm, api.ErrTwice, api.ErrMany, api.ErrType, api.ErrMode} {
		if count[e] < 5 {
			t.Errorf("only %d changes lead to the error %d", count[e], e)
		}
	}
}

// TestOrderOfNodes has a node with all errors, which are mended one after another.
func TestOrderOfNodes(t *testing.T) {
	p := read(t, others+"fun f(v0: Tree, read v1: List): List\n  read v0\n  | Leaf\n    v2 = Nil\n    ret v2\n  | Node v3 v4 v5\n    v6 = copy v4\n    ret v6\n")
	change := []struct {
		e      api.Errno
		change func(f *api.Fun)
	}{
		{api.ErrForm, func(f *api.Fun) { f.Code[0].Num = 1 }}, {api.ErrNone, func(f *api.Fun) { f.Code[0].Args[0] = 5 }}, {api.ErrRange, func(f *api.Fun) { f.Code[0].Branches[1].Binds[0] = 9 }}, {api.ErrTwice, func(f *api.Fun) { f.Code[0].Branches[1].Binds[2] = 1 }},
		{api.ErrType, func(f *api.Fun) { f.Code[0].Branches[1].Binds = append(f.Code[0].Branches[1].Binds, 6) }}, {api.ErrMode, func(f *api.Fun) { f.Vars[4].Read = false }}, {api.ErrForm, func(f *api.Fun) { f.Code[0].Branches[0].Then = 0 }},
	}
	for first := range change {
		for last := first; last < len(change); last++ {
			q := changed(p, func(p *api.Program) {
				for _, c := range change[first : last+1] {
					c.change(&p.Funs[tested])
				}
				// What follows is wrong, too.
				p.Funs[tested].Code[1].Op = 55
			})
			checkFun(t, q, tested, 0, change[first].e)
			if node, e := plainCheckFun(q, tested); node != 0 || e != change[first].e {
				t.Errorf("the plain error is %d at %d, want %d", e, node, change[first].e)
			}
		}
	}
}

// TestOrderOfPreorder has two nodes that are wrong, of which the first one in preorder counts.
func TestOrderOfPreorder(t *testing.T) {
	p := read(t, others+all)
	reversed := changed(p, func(p *api.Program) {
		f := &p.Funs[tested]
		var nodes, vars []int
		for node := range f.Code {
			nodes = append(nodes, len(f.Code)-1-node)
		}
		for v := range f.Vars {
			vars = append(vars, v)
		}
		*f = renumbered(*f, nodes, vars)
	})
	checkFun(t, reversed, tested, 0, api.OK)
	last := len(p.Funs[tested].Code) - 1
	for first := range last + 1 {
		for second := range last + 1 {
			wrong := func(p *api.Program, at func(node int) int) {
				p.Funs[tested].Code[at(first)].Op = -1
				if second != first {
					p.Funs[tested].Code[at(second)].Args = []int{400, 400, 400}
				}
			}
			same := changed(p, func(p *api.Program) { wrong(p, func(node int) int { return node }) })
			node, e := CheckFun(same, tested)
			if node != min(first, second) || e == api.OK {
				t.Errorf("the nodes %d and %d lead to %d, %d", first, second, node, e)
			}
			checkFun(t, changed(reversed, func(p *api.Program) { wrong(p, func(node int) int { return last - node }) }), tested, last-node, e)
		}
	}
}

// TestKidsOfTwo has nodes that are led to from two places, from none, and variables that are not bound.
func TestKidsOfTwo(t *testing.T) {
	p := read(t, others+"fun f(v0: List, v1: Int): Int\n  read v0\n  | Nil\n    v2 = 1\n    ret v2\n  | Cons v3 v4\n    v5 = 2\n    v6 = 3\n    ret v6\n")
	for _, c := range []struct {
		change func(f *api.Fun)
		node   int
		want   api.Errno
	}{
		{func(f *api.Fun) { f.Code[1].Next = 1 }, 1, api.ErrForm}, {func(f *api.Fun) { f.Code[1].Next = 0 }, 1, api.ErrForm}, {func(f *api.Fun) { f.Code[1].Next = 3 }, 1, api.ErrForm}, {func(f *api.Fun) { f.Code[1].Next = 4 }, 3, api.ErrForm}, {func(f *api.Fun) { f.Code[3].Next = 2 }, 3, api.ErrForm}, {func(f *api.Fun) { f.Code[4].Next = 3 }, 4, api.ErrForm},
		{func(f *api.Fun) { f.Code[0].Branches[1].Then = 2 }, 1, api.ErrForm}, {func(f *api.Fun) { f.Code[0].Branches[1].Then = 1 }, 0, api.ErrForm}, {func(f *api.Fun) { f.Body = 1 }, 0, api.ErrForm}, {func(f *api.Fun) { f.Body = 3 }, 0, api.ErrForm}, {func(f *api.Fun) { f.Body = 2 }, 2, api.ErrNone},
		// Nodes that nothing leads to, whatever they are.
		{func(f *api.Fun) { f.Code = append(f.Code, api.Node{}) }, 6, api.ErrForm}, {func(f *api.Fun) { f.Code = append(f.Code, api.Node{Op: -5}, api.Node{Op: 99}) }, 6, api.ErrForm}, {func(f *api.Fun) {
			f.Code = append(f.Code, api.Node{Op: api.Drop, Args: []int{0}, Next: 7}, api.Node{Op: api.Ret, Args: []int{1}})
		}, 6, api.ErrForm},
		{func(f *api.Fun) { f.Code[3].Next = 5; f.Code[5].Args[0] = 5 }, 4, api.ErrForm}, {func(f *api.Fun) { f.Code = append(f.Code, api.Node{}); f.Vars = append(f.Vars, api.Var{}) }, 6, api.ErrForm},
		// Variables that nothing binds.
		{func(f *api.Fun) { f.Vars = append(f.Vars, api.Var{}) }, -1, api.ErrForm}, {func(f *api.Fun) { f.Vars = append(f.Vars, api.Var{Type: api.Bool}, api.Var{Type: listType}) }, -1, api.ErrForm}, {func(f *api.Fun) { f.Vars = slices.Repeat(f.Vars[:1], 20) }, 0, api.ErrType},
		{func(f *api.Fun) {
			f.Code[3].Op, f.Code[3].Num, f.Code[3].Var, f.Code[3].Args = api.Drop, 0, 0, []int{0}
		}, -1, api.ErrForm},
	} {
		q := changed(p, func(p *api.Program) { c.change(&p.Funs[tested]) })
		checkFun(t, q, tested, c.node, c.want)
		if node, e := plainCheckFun(q, tested); node != c.node || e != c.want {
			t.Errorf("the plain error is %d at %d, want %d at %d", e, node, c.want, c.node)
		}
		checkCheck(t, q, c.want)
	}
	// Both branches lead to one node, or to one node and to what follows it.
	q := read(t, others+"fun f(v0: Bool, v1: Int): Int\n  read v0\n  | False\n    ret v1\n  | True\n    ret v1\n")
	q = changedNode(q, tested, 0, func(n *api.Node) { n.Branches[1].Then = 1 })
	q.Funs[tested].Code = q.Funs[tested].Code[:2]
	checkFun(t, q, tested, 0, api.ErrForm)
}

// TestWrongFunctions calls functions that are not valid themselves.
func TestWrongFunctions(t *testing.T) {
	p := read(t, others+"fun f(v0: List, v1: Int): List\n  v2 = call g v0 v1\n  ret v2\nfun g(v0: List, v1: Int): List\n  v2 = Nil\n  ret v2\n")
	const g = tested + 1
	for _, change := range []func(f *api.Fun){
		func(f *api.Fun) { f.Params = -1 }, func(f *api.Fun) { f.Params = math.MinInt }, func(f *api.Fun) { f.Params = 1 }, func(f *api.Fun) { f.Params = 3 }, func(f *api.Fun) { f.Params = 4 }, func(f *api.Fun) { f.Params = math.MaxInt }, func(f *api.Fun) { f.Vars = nil }, func(f *api.Fun) { f.Vars = f.Vars[:1] }, func(f *api.Fun) { f.Vars = f.Vars[:2] },
		func(f *api.Fun) { f.Vars[0].Type = -1 }, func(f *api.Fun) { f.Vars[0].Type = 99 }, func(f *api.Fun) { f.Result = -1 }, func(f *api.Fun) { f.Result = 99 }, func(f *api.Fun) { f.Result = treeType }, func(f *api.Fun) { f.Name = "" }, func(f *api.Fun) { f.Code = nil }, func(f *api.Fun) { f.Vars[2].Type = 99 }, func(f *api.Fun) { *f = api.Fun{} },
	} {
		for count := range 4 {
			q := changed(p, func(p *api.Program) { change(&p.Funs[g]); p.Funs[tested].Code[0].Args = []int{0, 1, 0, 1}[:count] })
			for fun := range q.Funs {
				wantNode, want := plainCheckFun(q, fun)
				checkFun(t, q, fun, wantNode, want)
			}
			checkCheck(t, q, plainCheck(q))
		}
	}
	// All three operations that call.
	q := changed(p, func(p *api.Program) { p.Funs[g].Params, p.Funs[g].Vars = -1, nil })
	for _, n := range []api.Node{{Op: api.Tail, Fun: g}, {Op: api.Tail, Fun: g, Args: []int{0, 1}}, {Op: api.Hole, Con: 1, Num: 1, Args: []int{1, -1}, Fun: g}, {Op: api.Call, Var: 2, Fun: g, Next: 1}} {
		checkFun(t, changedNode(q, tested, 0, func(old *api.Node) { *old = n }), tested, 0, api.ErrType)
	}
}

// TestTables has tables that are rejected, for which Check has their error, and CheckFun any.
func TestTables(t *testing.T) {
	p := read(t, others+all)
	for _, c := range []struct {
		change func(p *api.Program)
		want   api.Errno
	}{
		{func(p *api.Program) { p.Datas = nil }, api.ErrForm}, {func(p *api.Program) { p.Datas = p.Datas[1:] }, api.ErrForm}, {func(p *api.Program) { p.Datas[2].Cons = nil }, api.ErrForm}, {func(p *api.Program) { p.Datas[1].Name = "list" }, api.ErrForm}, {func(p *api.Program) { p.Datas[1].Name = "Tree" }, api.ErrTwice}, {func(p *api.Program) { p.Datas[1].Cons[0].Name = "Leaf" }, api.ErrTwice},
		{func(p *api.Program) { p.Datas[1].Cons[1].Fields[0] = 99 }, api.ErrType}, {func(p *api.Program) { p.Datas[1].Cons[1].Fields[0] = -1 }, api.ErrType}, {func(p *api.Program) { p.Datas[1].Cons = p.Datas[1].Cons[1:] }, api.ErrDeep}, {func(p *api.Program) { p.Datas[1].Cons[0].Fields = make([]api.Type, 7) }, api.ErrMany}, {func(p *api.Program) { p.Datas = slices.Repeat(p.Datas, 20) }, api.ErrMany},
		{func(p *api.Program) { p.Datas = p.Datas[:0] }, api.ErrForm}, {func(p *api.Program) { clear(p.Datas[1:]) }, api.ErrForm},
	} {
		q := changed(p, c.change)
		checkCheck(t, q, c.want)
		for fun := range q.Funs {
			node, e := CheckFun(q, fun)
			if again, e2 := CheckFun(q, fun); again != node || e2 != e {
				t.Errorf("CheckFun is %d, %d, and then %d, %d", node, e, again, e2)
			}
		}
		// The error of the table precedes that of too many functions, and of each function.
		q.Funs = slices.Repeat(q.Funs, 60)
		checkCheck(t, q, c.want)
		q.Funs = nil
		checkCheck(t, q, c.want)
	}
	checkCheck(t, api.Program{}, api.ErrForm)
	checkCheck(t, api.Program{Datas: p.Datas[:1]}, api.OK)
	checkText(t, api.Program{Datas: p.Datas[:1]}, "", api.OK)
}

// TestFirstFunction has several functions that are not valid.
func TestFirstFunction(t *testing.T) {
	p := read(t, others+"fun f(v0: List, v1: Int): Int\n  ret v1\nfun g(v0: List, v1: Int): Int\n  ret v1\n")
	changes := map[api.Errno]func(f *api.Fun){api.ErrForm: func(f *api.Fun) { f.Name = "" }, api.ErrType: func(f *api.Fun) { f.Result = 77 }, api.ErrMany: func(f *api.Fun) { f.Params = 7 }, api.ErrMode: func(f *api.Fun) { f.Vars[1].Read = true }, api.ErrNone: func(f *api.Fun) { f.Code[0].Args[0] = 7 }}
	for e, first := range changes {
		for _, second := range changes {
			checkCheck(t, changed(p, func(p *api.Program) { first(&p.Funs[tested]); second(&p.Funs[tested+1]) }), e)
		}
		// What is wrong elsewhere does not concern a function.
		checkFun(t, changed(p, func(p *api.Program) { first(&p.Funs[tested]) }), tested+1, 0, api.OK)
	}
	// Only functions before count for names.
	twice := changed(p, func(p *api.Program) { p.Funs[tested].Name = "g" })
	checkFun(t, twice, tested, 0, api.OK)
	checkFun(t, twice, tested+1, -1, api.ErrTwice)
}

// TestDrawn compares drawn programs, and ones that are changed at up to three places, with a plain check.
func TestDrawn(t *testing.T) {
	r := newDrawn(1)
	table := read(t, "")
	count, ops := map[api.Errno]int{}, map[int]int{}
	for range 3000 {
		p := r.program(table)
		checkCheck(t, p, api.OK)
		for fun, f := range p.Funs {
			checkFun(t, p, fun, 0, api.OK)
			for _, n := range f.Code {
				ops[n.Op]++
			}
		}
		for range 5 {
			q := p
			for range 1 + r.Intn(3) {
				q = r.disturbed(q)
			}
			checkCheck(t, q, plainCheck(q))
			for fun := range q.Funs {
				wantNode, want := plainCheckFun(q, fun)
				checkFun(t, q, fun, wantNode, want)
				count[want]++
			}
		}
	}
	for _, e := range []api.Errno{api.OK, api.ErrForm, api.ErrNone, api.ErrRange, api.ErrTwice, api.ErrType, api.ErrMode, api.ErrMany} {
		if count[e] < 50 {
			t.Errorf("only %d functions have the error %d", count[e], e)
		}
	}
	for op := range api.Ops {
		if ops[op] < 100 {
			t.Errorf("there are only %d nodes with the operation %d", ops[op], op)
		}
	}
}
