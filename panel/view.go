package panel

import "handbell/api"

// view is what is seen of all conditions, without what is heard, so that two of them are the same just if the same is seen.
type view struct {
	conds [api.MaxConds]sight
}

// sight is what is seen of one condition; what is not shown is a zero one, whatever priority stands beside it.
type sight struct {
	shown    bool
	priority int
}

func seen(v api.Vector) view {
	var out view
	for c, x := range v.Signals {
		if x.Shown {
			out.conds[c] = sight{shown: true, priority: x.Priority}
		}
	}
	return out
}

// with is the least view that shows no less than both: it is the first one itself just if the second one adds nothing to that.
func (a view) with(b view) view {
	for c, x := range b.conds {
		a.conds[c] = worse(a.conds[c], x)
	}
	return a
}

func worse(x, y sight) sight {
	if !x.shown || y.shown && y.priority > x.priority {
		return y
	}
	return x
}
