package show

import (
	"strconv"

	"pigeonhole/api"
)

func (w *writer) item(n api.Node) {
	switch n.Kind {
	case api.NodeInt, api.NodeVar:
		w.put(n.Text)
	case api.NodeAtom:
		w.atom(n.Text)
	case api.NodeText:
		w.text(n.Text)
	case api.NodeTuple:
		w.enclosed("{", n.Kids, "}")
	case api.NodeList:
		w.list(n)
	case api.NodeOp, api.NodeMatch:
		w.operation(n)
	case api.NodeCall:
		w.bound(n.Kids[0], closedBinds)
		w.enclosed("(", n.Kids[1:], ")")
	case api.NodeName:
		w.put("fun ")
		w.atom(n.Text)
		w.put("/", strconv.Itoa(n.Num))
	case api.NodeComp:
		w.comprehension(n)
	default:
		w.claused(n)
	}
}

func (w *writer) operation(n api.Node) {
	if len(n.Kids) == 1 {
		w.signed(n)
		return
	}
	w.joined(n)
}

func (w *writer) list(n api.Node) {
	last := len(n.Kids) - n.Num
	w.put("[")
	w.items(n.Kids[:last])
	w.row(n.Kids[last:], "", func(tail api.Node) {
		w.put(" | ")
		w.item(tail)
	})
	w.put("]")
}

func (w *writer) comprehension(n api.Node) {
	w.put("[")
	w.item(n.Kids[0])
	w.put(" || ")
	w.row(n.Kids[1:], ", ", w.generator)
	w.put("]")
}

// generator writes what stands behind the || of a list: a NodeGen, or an item.
func (w *writer) generator(n api.Node) {
	if n.Kind != api.NodeGen {
		w.item(n)
		return
	}
	w.row(n.Kids, " <- ", w.item)
}
