package desk

import "larder/api"

// What becomes of a command that comes while a transaction is open.
const (
	later  = iota // it is queued, as all data commands are
	atOnce        // it is carried out
	never         // it is refused
)

// row is a command of the desk's own: how many arguments it takes, whether one who listens may give it, what becomes of it while a transaction is open, and what carries it out.
type row struct {
	name        string
	least, most int
	heard       bool
	inside      int
	work        func(*call) api.Reply
}

// arityError refuses a number of arguments that the command does not take.
func (r row) arityError(n int) api.Errno {
	if n < r.least || n > r.most {
		return api.BadArity
	}
	return api.OK
}

// find tells the row of a folded name, and whether it is one of the desk's own. Of every other command the zero row tells what becomes of it.
func find(name string) (row, bool) {
	const more = api.MaxArgs
	own := [...]row{
		{"PING", 1, 2, true, later, (*call).ping},
		{"ECHO", 2, 2, false, later, (*call).echo},
		{"SELECT", 2, 2, false, later, (*call).selectDB},
		{"QUIT", 1, 1, true, atOnce, (*call).quit},
		{"RESET", 1, 1, true, atOnce, (*call).reset},
		{"SAVE", 1, 1, false, never, (*call).save},
		{"MULTI", 1, 1, false, atOnce, (*call).multi},
		{"DISCARD", 1, 1, false, atOnce, (*call).discard},
		{"EXEC", 1, 1, false, atOnce, (*call).exec},
		{"WATCH", 2, more, false, atOnce, (*call).watch},
		{"UNWATCH", 1, 1, false, later, (*call).unwatch},
		{"SUBSCRIBE", 2, more, true, never, (*call).subscribe},
		{"PSUBSCRIBE", 2, more, true, never, (*call).subscribePatterns},
		{"UNSUBSCRIBE", 1, more, true, never, (*call).unsubscribe},
		{"PUNSUBSCRIBE", 1, more, true, never, (*call).unsubscribePatterns},
		{"PUBLISH", 3, 3, false, later, (*call).publish},
		{"PUBSUB", 2, more, false, later, (*call).tellListeners},
		{"BLPOP", 3, more, false, later, (*call).popFirst},
		{"BRPOP", 3, more, false, later, (*call).popLast},
		{"BLMOVE", 6, 6, false, later, (*call).move},
		{"BZPOPMIN", 3, more, false, later, (*call).popLeast},
		{"BZPOPMAX", 3, more, false, later, (*call).popGreatest},
	}
	for _, r := range own {
		if r.name == name {
			return r, true
		}
	}
	return row{}, false
}
