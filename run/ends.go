package run

import "tuckmill/api"

// place is that of an instruction in a function's code.
type place struct{ f, at int }

// closing is where a block ends, and where an if goes on whose value is 0.
type closing struct{ end, otherwise int }

// closings tells of each block, by the place of what opens it, where it ends. (It is asked of functions that are valid.)
func closings(funcs []api.Func) map[place]closing {
	l := map[place]closing{}
	for f := range funcs {
		open := []place{{f, whole}}
		for at, i := range funcs[f].Code {
			inner := open[len(open)-1]
			switch i.Op {
			case block, loop, when:
				open = append(open, place{f, at})
			case other:
				l[inner] = closing{otherwise: at + 1}
			case end:
				c := closing{at, at + 1}
				if l[inner].otherwise > 0 {
					c.otherwise = l[inner].otherwise
				}
				l[inner] = c
				open = open[:len(open)-1]
			}
		}
	}
	return l
}
