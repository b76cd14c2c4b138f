package redo

import (
	"puncheon/api"
	"puncheon/path"
	"puncheon/tree"
)

// putting answers the redo behind which the item is there.
func putting(item api.Item) api.Redo {
	return api.Redo{Kind: api.RePut, Item: item}
}

// dropping answers the redo behind which nothing is at p.
func dropping(p string) api.Redo {
	return api.Redo{Kind: api.ReDrop, Item: api.Item{Path: p}}
}

// moving answers the redo behind which what is at p stands at to.
func moving(p, to string) api.Redo {
	return api.Redo{Kind: api.ReMove, Item: api.Item{Path: p}, To: to}
}

// valid tells whether r may be.
func valid(r api.Redo) bool {
	p := r.Item.Path
	switch r.Kind {
	case api.RePut:
		return r == putting(r.Item) && validItem(r.Item)
	case api.ReDrop:
		return r == dropping(p) && named(p)
	case api.ReMove:
		return r == moving(p, r.To) && named(p) && named(r.To) && !path.Under(p, r.To) && !path.Under(r.To, p)
	}
	return false
}

// validItem tells whether the item may be: just then it has a place, and may be made there.
func validItem(item api.Item) bool {
	return named(item.Path) && tree.CheckOp(making(item)) == api.OK
}

// named tells whether p is a path that is not /: of all else there is no last name.
func named(p string) bool {
	return path.Base(p) != ""
}

// making answers the operation that makes the item; of an item of no kind it is none that may be.
func making(item api.Item) api.Op {
	op := api.Op{Path: item.Path, Data: item.Data}
	switch item.Kind {
	case api.KDir:
		op.Kind = api.OpMkdir
	case api.KFile:
		op.Kind = api.OpWrite
	case api.KLink:
		op.Kind = api.OpLink
	}
	return op
}

// checkRow answers by which error redos may not be together.
func checkRow(l []api.Redo) api.Errno {
	if len(l) > api.MaxRedos {
		return api.ErrLong
	}
	for _, r := range l {
		if !valid(r) {
			return api.ErrRedo
		}
	}
	return api.OK
}
