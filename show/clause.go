package show

import "pigeonhole/api"

// claused writes an item that its last word closes.
func (w *writer) claused(n api.Node) {
	switch n.Kind {
	case api.NodeFun:
		w.put("fun ")
		w.row(n.Kids, "; ", w.head)
	case api.NodeCase:
		w.put("case ")
		w.item(n.Kids[0])
		w.put(" of ")
		w.row(n.Kids[1:], "; ", w.clause)
	case api.NodeIf:
		w.put("if ")
		w.row(n.Kids, "; ", w.test)
	case api.NodeReceive:
		w.receive(n)
	case api.NodeTry:
		w.put("try ")
		w.body(n.Kids[0])
		w.put(" catch ")
		w.row(n.Kids[1:], "; ", w.caught)
	case api.NodeBlock:
		w.put("begin ")
		w.body(n)
	}
	w.put(" end")
}

func (w *writer) receive(n api.Node) {
	last := len(n.Kids) - n.Num
	w.put("receive")
	if last > 0 {
		w.put(" ")
	}
	w.row(n.Kids[:last], "; ", w.clause)
	w.row(n.Kids[last:], "", w.after)
}

func (w *writer) after(n api.Node) {
	w.put(" after ")
	w.item(n.Kids[0])
	w.put(" -> ")
	w.body(n.Kids[1])
}

func (w *writer) function(n api.Node) {
	w.row(n.Kids, "; ", func(clause api.Node) {
		w.atom(n.Text)
		w.head(clause)
	})
	w.put(".\n")
}

// What follows writes a clause, from its patterns on.

func (w *writer) head(n api.Node) {
	w.enclosed("(", n.Kids[0].Kids, ")")
	w.guarded(n)
}

func (w *writer) clause(n api.Node) {
	w.items(n.Kids[0].Kids)
	w.guarded(n)
}

func (w *writer) caught(n api.Node) {
	w.row(n.Kids[0].Kids[0].Kids, " : ", w.item)
	w.guarded(n)
}

func (w *writer) guarded(n api.Node) {
	if len(n.Kids[1].Kids) > 0 {
		w.put(" when ")
	}
	w.test(n)
}

// test writes a clause from its guards on: all that an if's clause has.
func (w *writer) test(n api.Node) {
	w.row(n.Kids[1].Kids, "; ", w.body)
	w.put(" -> ")
	w.body(n.Kids[2])
}

func (w *writer) body(n api.Node) {
	w.items(n.Kids)
}
