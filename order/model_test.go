package order_test

import (
	"cmp"
	"fmt"
	"maps"
	"math/big"
	"regexp"
	"slices"
	"strconv"
	"strings"

	"larder/api"
	"larder/match"
)

// cell is what lies at a place of the model: a ranked set's members with their scores, a set's members with 1 each, or a text, as the one name there. The members are never changed, only laid anew.
type cell struct {
	kind     int
	scores   map[string]int64
	deadline uint64
}

func (c cell) equal(d cell) bool {
	return c.kind == d.kind && maps.Equal(c.scores, d.scores) && c.deadline == d.deadline
}

// ordered tells the members by score, those of one score by their bytes.
func ordered(scores map[string]int64) []string {
	return slices.SortedFunc(maps.Keys(scores), func(a, b string) int {
		return cmp.Or(cmp.Compare(scores[a], scores[b]), strings.Compare(a, b))
	})
}

func (c cell) value() api.Value {
	v := api.Value{Kind: c.kind}
	switch c.kind {
	case api.ValSet:
		v.List = args(slices.Sorted(maps.Keys(c.scores))...)
	case api.ValRank:
		for _, name := range ordered(c.scores) {
			v.Ranked = append(v.Ranked, api.Scored{Member: []byte(name), Score: c.scores[name]})
		}
	default:
		v.Text = []byte(ordered(c.scores)[0])
	}
	return v
}

// model is a space as plain data, and the commands on it as the chapter words them; numbers are exact.
type model struct {
	cells map[api.Place]cell
	clock uint64
	quota int
	seed  uint64
	db    int
	args  []string // that are left to read
}

// stop is what a command of the model panics with.
type stop api.Errno

func need(holds bool, e api.Errno) {
	if !holds {
		panic(stop(e))
	}
}

func (m *model) cost() int {
	sum := 0
	for p, c := range m.cells {
		sum += 24 + words8(len(p.Key))
		switch c.kind {
		case api.ValSet:
			sum += 40
		case api.ValRank:
			sum += 96
		}
		for name := range c.scores {
			sum += map[int]int{api.ValText: words8(len(name)), api.ValSet: 16 + words8(len(name)), api.ValRank: 40 + 2*words8(len(name))}[c.kind]
		}
	}
	return sum
}

func (m *model) places() []api.Place {
	return slices.SortedFunc(maps.Keys(m.cells), func(a, b api.Place) int {
		return cmp.Or(cmp.Compare(a.DB, b.DB), strings.Compare(a.Key, b.Key))
	})
}

// picture tells a model as picture tells a space.
func (m *model) picture() string {
	var b strings.Builder
	for _, p := range m.places() {
		c := m.cells[p]
		fmt.Fprintf(&b, "%d %q %d: %s\n", p.DB, p.Key, c.deadline, show(c.value()))
	}
	return b.String()
}

// do is Do, with the reply as told writes it.
func (m *model) do(now uint64, db int, command []string) (reply string) {
	m.clock = max(m.clock, min(now, api.MaxTime))
	maps.DeleteFunc(m.cells, func(_ api.Place, c cell) bool { return c.deadline != 0 && c.deadline <= m.clock })
	before := maps.Clone(m.cells)
	defer func() {
		switch e := recover().(type) {
		case nil:
			maps.DeleteFunc(m.cells, func(_ api.Place, c cell) bool { return len(c.scores) == 0 })
			if m.cost() > m.quota {
				m.cells, reply = before, refusal(api.BadOOM)
			}
		case stop:
			m.cells, reply = before, refusal(api.Errno(e))
		default:
			panic(e)
		}
	}()
	need(len(command) > 0 && len(command) <= 128, api.BadMany)
	for _, a := range command {
		need(len(a) <= 4096, api.BadLong)
	}
	need(db >= 0 && db <= 3, api.BadDB)
	m.db, m.args = db, command[1:]
	return m.carryOut(strings.ToUpper(command[0]), len(command))
}

func (m *model) carryOut(name string, n int) string {
	i := slices.IndexFunc(strings.Split(chapterTable, "\n"), func(l string) bool { return strings.HasPrefix(l, name+" ") })
	need(name != "" && i > 0, api.BadName)
	arity, _ := strconv.Atoi(strings.Fields(strings.Split(chapterTable, "\n")[i])[1])
	need(n == arity || arity < 0 && n >= -arity, api.BadArity)
	switch {
	case name == "ZADD":
		return m.add()
	case name == "ZINCRBY":
		by := integer(m.args[1])
		return m.increase(m.args[0], m.args[2], by, "")
	case strings.Contains(name, "RANGE") || strings.HasSuffix(name, "COUNT"):
		return m.ranged(name)
	case strings.Contains(name, "POP"):
		return m.pop(name)
	case name[1] == 'U' || name[1] == 'D' || strings.HasPrefix(name, "ZINTER"):
		return m.combine(name)
	case name == "ZSCAN":
		return m.scan()
	}
	return m.onMembers(name)
}

func (m *model) next() string {
	a := m.args[0]
	m.args = m.args[1:]
	return a
}

var spelling = regexp.MustCompile(`^(0|-?[1-9][0-9]*)$`)

// exact reads an integer that may be of any size.
func exact(s string) (*big.Int, bool) {
	if !spelling.MatchString(s) {
		return nil, false
	}
	return new(big.Int).SetString(s, 10)
}

// integer tells the integer of a text; what is outside int64 is none.
func integer(s string) *big.Int {
	n, ok := exact(s)
	need(ok && n.IsInt64(), api.BadInt)
	return n
}

// scores tells the members of a key, which must be a ranked set, to be changed.
func (m *model) scores(key string) map[string]int64 {
	c, there := m.cells[at(m.db, key)]
	need(!there || c.kind == api.ValRank, api.BadKind)
	if !there {
		return map[string]int64{}
	}
	return maps.Clone(c.scores)
}

// put lays members under a key; its deadline stays, if it is there.
func (m *model) put(key string, scores map[string]int64) {
	c := m.cells[at(m.db, key)]
	m.cells[at(m.db, key)] = cell{api.ValRank, scores, c.deadline}
}

func (m *model) add() string {
	key, given := m.next(), " "
	excluded := map[string]string{"NX": "XX GT LT", "XX": "NX", "GT": "NX LT", "LT": "NX GT", "CH": "", "INCR": ""}
	for len(m.args) > 0 {
		w := strings.ToUpper(m.args[0])
		others, option := excluded[w]
		if !option {
			break
		}
		m.next()
		for _, other := range append(strings.Fields(others), w) {
			need(!strings.Contains(given, " "+other+" "), api.BadSyntax)
		}
		need(len(m.args) > 0, api.BadSyntax)
		given += w + " "
	}
	has := func(w string) bool { return strings.Contains(given, " "+w+" ") }
	var scores []*big.Int
	var members []string
	for len(m.args) > 0 {
		need(len(scores) == 0 || !has("INCR"), api.BadSyntax)
		scores = append(scores, integer(m.next()))
		need(len(m.args) > 0, api.BadSyntax)
		members = append(members, m.next())
	}
	if has("INCR") {
		return m.increase(key, members[0], scores[0], given)
	}
	set := m.scores(key)
	added, changed := 0, 0
	for i, member := range members {
		score := scores[i].Int64()
		was, there := set[member]
		switch {
		case !there && !has("XX"):
			added++
			set[member] = score
		case there && !has("NX") && !(has("GT") && score <= was) && !(has("LT") && score >= was) && score != was:
			changed++
			set[member] = score
		}
	}
	m.put(key, set)
	if has("CH") {
		added += changed
	}
	return strconv.Itoa(added)
}

func (m *model) increase(key, member string, by *big.Int, given string) string {
	has := func(w string) bool { return strings.Contains(given, " "+w+" ") }
	set := m.scores(key)
	was, there := set[member]
	if there && has("NX") || !there && has("XX") {
		return "nil"
	}
	sum := new(big.Int).Add(big.NewInt(was), by)
	need(sum.IsInt64(), api.BadOver)
	if there && (has("GT") && by.Sign() <= 0 || has("LT") && by.Sign() >= 0) {
		return "nil"
	}
	set[member] = sum.Int64()
	m.put(key, set)
	return strconv.Quote(sum.String())
}

func (m *model) onMembers(name string) string {
	key := m.next()
	if name == "ZRANK" || name == "ZREVRANK" {
		return m.rank(name, key)
	}
	set := m.scores(key)
	switch name {
	case "ZCARD":
		return strconv.Itoa(len(set))
	case "ZREM":
		before := len(set)
		for _, member := range m.args {
			delete(set, member)
		}
		m.put(key, set)
		return strconv.Itoa(before - len(set))
	}
	var l []string
	for _, member := range m.args {
		if score, there := set[member]; there {
			l = append(l, strconv.Quote(fmt.Sprint(score)))
		} else {
			l = append(l, "nil")
		}
	}
	if name == "ZSCORE" {
		return l[0]
	}
	return "[" + strings.Join(l, " ") + "]"
}

func (m *model) rank(name, key string) string {
	member := m.next()
	scored := len(m.args) > 0
	need(!scored || len(m.args) == 1 && strings.ToUpper(m.args[0]) == "WITHSCORE", api.BadSyntax)
	set := m.scores(key)
	all := ordered(set)
	if name == "ZREVRANK" {
		slices.Reverse(all)
	}
	i := slices.Index(all, member)
	switch {
	case i < 0 && scored:
		return "nil array"
	case i < 0:
		return "nil"
	case scored:
		return fmt.Sprintf("[%d %q]", i, fmt.Sprint(set[member]))
	}
	return strconv.Itoa(i)
}

// flat is how told writes members with their scores, or without.
func flat(set map[string]int64, members []string, scored bool) string {
	var l []string
	for _, member := range members {
		l = append(l, member)
		if scored {
			l = append(l, fmt.Sprint(set[member]))
		}
	}
	return quoted(l)
}

// ranged is all commands on one range: first the words that the name means, then the options that the command has.
func (m *model) ranged(name string) string {
	to := ""
	if name == "ZRANGESTORE" {
		to = m.next()
	}
	key, start, stop := m.next(), m.next(), m.next()
	meant := map[string][2]string{
		"ZRANGE": {"", "BYSCORE BYLEX REV LIMIT WITHSCORES"}, "ZREVRANGE": {"REV", "WITHSCORES"}, "ZRANGEBYSCORE": {"BYSCORE", "LIMIT WITHSCORES"}, "ZREVRANGEBYSCORE": {"BYSCORE REV", "LIMIT WITHSCORES"}, "ZRANGEBYLEX": {"BYLEX", "LIMIT"}, "ZREVRANGEBYLEX": {"BYLEX REV", "LIMIT"}, "ZRANGESTORE": {"", "BYSCORE BYLEX REV LIMIT"},
		"ZCOUNT": {"BYSCORE", ""}, "ZLEXCOUNT": {"BYLEX", ""}, "ZREMRANGEBYRANK": {"", ""}, "ZREMRANGEBYSCORE": {"BYSCORE", ""}, "ZREMRANGEBYLEX": {"BYLEX", ""},
	}[name]
	given := strings.Fields(meant[0])
	has := func(w string) bool { return slices.Contains(given, w) }
	limit := [2]*big.Int{new(big.Int), big.NewInt(-1)}
	for len(m.args) > 0 {
		w := strings.ToUpper(m.next())
		need(slices.Contains(strings.Fields(meant[1]), w) && !has(w), api.BadSyntax)
		given = append(given, w)
		need(!has("BYSCORE") || !has("BYLEX"), api.BadSyntax)
		if w == "LIMIT" {
			need(len(m.args) > 1, api.BadSyntax)
			limit[0] = integer(m.next())
			limit[1] = integer(m.next())
		}
	}
	need(!has("LIMIT") || has("BYSCORE") || has("BYLEX"), api.BadSyntax)
	need(!has("WITHSCORES") || !has("BYLEX"), api.BadSyntax)
	pick := picker(has, start, stop)
	set := m.scores(key)
	all := ordered(set)
	if has("REV") {
		slices.Reverse(all)
	}
	var found []string
	seen := new(big.Int)
	for i, member := range all {
		if !pick(i, len(all), member, set[member]) {
			continue
		}
		behind := new(big.Int).Sub(seen, limit[0])
		if limit[0].Sign() >= 0 && behind.Sign() >= 0 && (limit[1].Sign() < 0 || behind.Cmp(limit[1]) < 0) {
			found = append(found, member)
		}
		seen.Add(seen, big.NewInt(1))
	}
	return m.answer(name, to, key, set, found, has("WITHSCORES"))
}

// picker reads the two ends of a range, and tells which members lie in it.
func picker(has func(string) bool, start, stop string) func(i, n int, member string, score int64) bool {
	lo, hi := start, stop
	if has("REV") {
		lo, hi = stop, start
	}
	switch {
	case has("BYSCORE"):
		for _, b := range []string{lo, hi} {
			_, far := map[string]int{"-inf": 0, "+inf": 0, "inf": 0}[strings.TrimPrefix(b, "(")]
			n, ok := exact(strings.TrimPrefix(b, "("))
			need(far || ok && n.IsInt64(), api.BadBound)
		}
		return func(_, _ int, _ string, score int64) bool {
			return sideOf(lo, score) >= 0 && sideOf(hi, score) <= 0 && !(lo[0] == '(' && sideOf(lo, score) == 0) && !(hi[0] == '(' && sideOf(hi, score) == 0)
		}
	case has("BYLEX"):
		for _, b := range []string{lo, hi} {
			need(b == "-" || b == "+" || b != "" && (b[0] == '[' || b[0] == '('), api.BadBound)
		}
		return func(_, _ int, member string, _ int64) bool {
			low := lo == "-" || lo[0] == '[' && member >= lo[1:] || lo[0] == '(' && member > lo[1:]
			high := hi == "+" || hi[0] == '[' && member <= hi[1:] || hi[0] == '(' && member < hi[1:]
			return low && high
		}
	}
	from, to := integer(start), integer(stop)
	return func(i, n int, _ string, _ int64) bool {
		// A place lies in the range by its number from either end.
		at, back := big.NewInt(int64(i)), big.NewInt(int64(i-n))
		above := from.Sign() >= 0 && at.Cmp(from) >= 0 || from.Sign() < 0 && back.Cmp(from) >= 0
		below := to.Sign() >= 0 && at.Cmp(to) <= 0 || to.Sign() < 0 && back.Cmp(to) <= 0
		return above && below
	}
}

// sideOf tells on which side of an end, read without its '(', a score lies.
func sideOf(end string, score int64) int {
	switch end = strings.TrimPrefix(end, "("); end {
	case "-inf":
		return 1
	case "+inf", "inf":
		return -1
	}
	n, _ := exact(end)
	return big.NewInt(score).Cmp(n)
}

// answer does what a command does with the members of its range.
func (m *model) answer(name, to, key string, set map[string]int64, found []string, scored bool) string {
	switch {
	case name == "ZRANGESTORE":
		laid := map[string]int64{}
		for _, member := range found {
			laid[member] = set[member]
		}
		m.cells[at(m.db, to)] = cell{kind: api.ValRank, scores: laid}
	case strings.HasPrefix(name, "ZREM"):
		for _, member := range found {
			delete(set, member)
		}
		m.put(key, set)
	case !strings.HasSuffix(name, "COUNT"):
		return flat(set, found, scored)
	}
	return strconv.Itoa(len(found))
}

func (m *model) pop(name string) string {
	var keys []string
	last, count, multi := name == "ZPOPMAX", big.NewInt(1), name == "ZMPOP"
	if multi {
		keys = m.counted()
		need(len(m.args) > 0, api.BadSyntax)
		w := strings.ToUpper(m.next())
		need(w == "MIN" || w == "MAX", api.BadSyntax)
		last = w == "MAX"
		if len(m.args) > 0 {
			need(strings.ToUpper(m.next()) == "COUNT" && len(m.args) > 0, api.BadSyntax)
			count = integer(m.next())
			need(count.Sign() > 0, api.BadRange)
		}
	} else {
		keys = []string{m.next()}
		if len(m.args) > 0 {
			count = integer(m.next())
			need(count.Sign() >= 0, api.BadRange)
		}
	}
	need(len(m.args) == 0, api.BadSyntax)
	first := ""
	for _, key := range slices.Backward(keys) {
		if len(m.scores(key)) > 0 {
			first = key + "!"
		}
	}
	if first == "" {
		return map[bool]string{true: "nil array", false: "[]"}[multi]
	}
	first = strings.TrimSuffix(first, "!")
	was, set := m.scores(first), m.scores(first)
	all := ordered(set)
	if last {
		slices.Reverse(all)
	}
	var gone, pairs []string
	for i, member := range all {
		if big.NewInt(int64(i)).Cmp(count) < 0 {
			gone = append(gone, member)
			pairs = append(pairs, quoted([]string{member, fmt.Sprint(set[member])}))
			delete(set, member)
		}
	}
	m.put(first, set)
	if multi {
		return "[" + strconv.Quote(first) + " [" + strings.Join(pairs, " ") + "]]"
	}
	return flat(was, gone, true)
}

// counted reads counted keys.
func (m *model) counted() []string {
	n := integer(m.next())
	need(n.Sign() > 0, api.BadRange)
	need(n.Cmp(big.NewInt(int64(len(m.args)))) <= 0, api.BadSyntax)
	keys := m.args[:n.Int64()]
	m.args = m.args[n.Int64():]
	return keys
}

// combine asks of every member of any key whether it is in each of the keys.
func (m *model) combine(name string) string {
	to := ""
	if strings.HasSuffix(name, "STORE") {
		to = m.next()
	}
	keys := m.counted()
	given := m.combineOptions(name, len(keys))
	var sets []map[string]int64
	any := map[string]int64{}
	for _, key := range keys {
		if c := m.cells[at(m.db, key)]; c.kind == api.ValSet {
			sets = append(sets, c.scores)
		} else {
			sets = append(sets, m.scores(key))
		}
		maps.Copy(any, sets[len(sets)-1])
	}
	found := map[string]int64{}
	for member := range any {
		var has []int
		for i, set := range sets {
			if _, there := set[member]; there {
				has = append(has, i)
			}
		}
		if name[1] == 'I' && len(has) < len(sets) || name[1] == 'D' && (len(has) > 1 || has[0] > 0) {
			continue
		}
		found[member] = 0
		if name != "ZINTERCARD" {
			found[member] = given.score(member, sets, has)
		}
	}
	switch {
	case name == "ZINTERCARD":
		n := big.NewInt(int64(len(found)))
		if given.limit.Sign() > 0 && given.limit.Cmp(n) < 0 {
			n = given.limit
		}
		return n.String()
	case to != "" || strings.HasSuffix(name, "STORE"):
		m.cells[at(m.db, to)] = cell{kind: api.ValRank, scores: found}
		return strconv.Itoa(len(found))
	}
	return flat(found, ordered(found), given.scored)
}

// combining is what the options of ZUNION and its kind say.
type combining struct {
	weights []*big.Int
	join    string
	limit   *big.Int
	scored  bool
}

func (m *model) combineOptions(name string, keys int) combining {
	given := combining{limit: new(big.Int), join: "SUM"}
	may := map[string]string{"ZUNION": "WEIGHTS AGGREGATE WITHSCORES", "ZINTER": "WEIGHTS AGGREGATE WITHSCORES", "ZDIFF": "WITHSCORES", "ZUNIONSTORE": "WEIGHTS AGGREGATE", "ZINTERSTORE": "WEIGHTS AGGREGATE", "ZINTERCARD": "LIMIT"}[name]
	for len(m.args) > 0 {
		w := strings.ToUpper(m.next())
		need(slices.Contains(strings.Fields(may), w), api.BadSyntax)
		may = strings.Replace(may, w, "", 1)
		need(len(m.args) >= map[string]int{"WEIGHTS": keys, "AGGREGATE": 1, "LIMIT": 1}[w], api.BadSyntax)
		switch w {
		case "WEIGHTS":
			for range keys {
				given.weights = append(given.weights, integer(m.next()))
			}
		case "AGGREGATE":
			given.join = strings.ToUpper(m.next())
			need(given.join == "SUM" || given.join == "MIN" || given.join == "MAX", api.BadSyntax)
		case "LIMIT":
			given.limit = integer(m.next())
			need(given.limit.Sign() >= 0, api.BadRange)
		case "WITHSCORES":
			given.scored = true
		}
	}
	return given
}

// score works a member's score out, exactly, from the sets that have it.
func (g combining) score(member string, sets []map[string]int64, has []int) int64 {
	var result *big.Int
	for _, i := range has {
		product := big.NewInt(sets[i][member])
		if g.weights != nil {
			product.Mul(product, g.weights[i])
		}
		need(product.IsInt64(), api.BadOver)
		switch {
		case result == nil:
			result = product
		case g.join == "SUM":
			result = new(big.Int).Add(result, product)
			need(result.IsInt64(), api.BadOver)
		case (product.Cmp(result) < 0) == (g.join == "MIN"):
			result = product
		}
	}
	return result.Int64()
}

func (m *model) scan() string {
	key := m.next()
	cursor, ok := exact(m.next())
	need(ok && cursor.IsUint64(), api.BadCursor)
	given := map[string]string{}
	count := big.NewInt(10)
	for len(m.args) > 0 {
		w := strings.ToUpper(m.next())
		_, again := given[w]
		need(!again && (w == "MATCH" || w == "COUNT") && len(m.args) > 0, api.BadSyntax)
		given[w] = m.next()
		if w == "COUNT" {
			count = integer(given[w])
			need(count.Sign() > 0, api.BadRange)
		}
	}
	set := m.scores(key)
	n := 1 << 30
	if count.Cmp(big.NewInt(int64(n))) < 0 {
		n = int(count.Int64())
	}
	next, page := paged(m.seed, cursor.Uint64(), n, ordered(set))
	if pattern, there := given["MATCH"]; there {
		page = slices.DeleteFunc(page, func(name string) bool { return !match.Glob([]byte(pattern), []byte(name)) })
	}
	return fmt.Sprintf(`["%d" %s]`, next, flat(set, page, true))
}
