package board

import "larder/api"

// ownRows tells the rows of this package's own commands, sorted by name. They stand inside a function, as those of the families beside them are as many as may stand at package level.
func ownRows() []api.Command {
	return []api.Command{
		{Name: "COMMAND", Arity: -2},
		{Name: "COPY", Arity: -3, Write: true, First: 1, Last: 2, Step: 1},
		{Name: "DBSIZE", Arity: 1},
		{Name: "DEL", Arity: -2, Write: true, First: 1, Last: -1, Step: 1},
		{Name: "EXISTS", Arity: -2, First: 1, Last: -1, Step: 1},
		{Name: "EXPIRE", Arity: -3, Write: true, First: 1, Last: 1, Step: 1},
		{Name: "EXPIREAT", Arity: -3, Write: true, First: 1, Last: 1, Step: 1},
		{Name: "EXPIRETIME", Arity: 2, First: 1, Last: 1, Step: 1},
		{Name: "FLUSHALL", Arity: 1, Write: true},
		{Name: "FLUSHDB", Arity: 1, Write: true},
		{Name: "KEYS", Arity: 2},
		{Name: "MEMORY", Arity: -2, First: 2, Last: 2, Step: 1},
		{Name: "MOVE", Arity: 3, Write: true, First: 1, Last: 1, Step: 1},
		{Name: "PERSIST", Arity: 2, Write: true, First: 1, Last: 1, Step: 1},
		{Name: "PEXPIRE", Arity: -3, Write: true, First: 1, Last: 1, Step: 1},
		{Name: "PEXPIREAT", Arity: -3, Write: true, First: 1, Last: 1, Step: 1},
		{Name: "PEXPIRETIME", Arity: 2, First: 1, Last: 1, Step: 1},
		{Name: "PTTL", Arity: 2, First: 1, Last: 1, Step: 1},
		{Name: "RENAME", Arity: 3, Write: true, First: 1, Last: 2, Step: 1},
		{Name: "RENAMENX", Arity: 3, Write: true, First: 1, Last: 2, Step: 1},
		{Name: "SCAN", Arity: -2},
		{Name: "SORT", Arity: -2, Write: true, First: 1, Last: 1, Step: 1},
		{Name: "SWAPDB", Arity: 3, Write: true},
		{Name: "TIME", Arity: 1},
		{Name: "TOUCH", Arity: -2, First: 1, Last: -1, Step: 1},
		{Name: "TTL", Arity: 2, First: 1, Last: 1, Step: 1},
		{Name: "TYPE", Arity: 2, First: 1, Last: 1, Step: 1},
	}
}

// findOwn tells the row of a folded name, if it is one of this package's own.
func findOwn(name string) (api.Command, bool) {
	for _, row := range ownRows() {
		if row.Name == name {
			return row, true
		}
	}
	return api.Command{}, false
}

// handler tells what carries one of this package's own commands out.
func handler(name string) func(*call) api.Reply {
	switch name {
	case "COPY":
		return (*call).copyKey
	case "DEL":
		return (*call).remove
	case "EXISTS", "TOUCH":
		return (*call).countThere
	case "MOVE":
		return (*call).move
	case "RENAME":
		return (*call).rename
	case "RENAMENX":
		return (*call).renameIfFree
	case "SORT":
		return (*call).sort
	case "TYPE":
		return (*call).tellType
	case "EXPIRE", "EXPIREAT", "PEXPIRE", "PEXPIREAT", "PERSIST", "TTL", "PTTL", "EXPIRETIME", "PEXPIRETIME":
		return timeHandler(name)
	}
	return wholeHandler(name)
}

// timeHandler tells what carries a command on deadlines out.
func timeHandler(name string) func(*call) api.Reply {
	switch name {
	case "EXPIRE":
		return (*call).expireInSeconds
	case "EXPIREAT":
		return (*call).expireAtSecond
	case "EXPIRETIME":
		return (*call).tellSecond
	case "PEXPIRE":
		return (*call).expireInMilliseconds
	case "PEXPIREAT":
		return (*call).expireAtMillisecond
	case "PEXPIRETIME":
		return (*call).tellMillisecond
	case "PTTL":
		return (*call).tellMillisecondsLeft
	case "TTL":
		return (*call).tellSecondsLeft
	}
	return (*call).persist
}

// wholeHandler tells what carries a command on whole databases, or on the program itself, out.
func wholeHandler(name string) func(*call) api.Reply {
	switch name {
	case "COMMAND":
		return (*call).tellCommands
	case "DBSIZE":
		return (*call).size
	case "FLUSHALL":
		return (*call).removeAll
	case "FLUSHDB":
		return (*call).removeOwn
	case "KEYS":
		return (*call).keys
	case "MEMORY":
		return (*call).tellMemory
	case "SCAN":
		return (*call).scan
	case "SWAPDB":
		return (*call).swap
	}
	return (*call).tellClock
}
