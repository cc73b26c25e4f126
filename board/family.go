package board

import (
	"larder/api"
	"larder/nest"
	"larder/order"
	"larder/rows"
	"larder/space"
	"larder/text"
)

// family tells what carries out the commands of the family to which a folded name belongs; nil, if it belongs to none. It asks no table: every command comes by here.
func family(name string) func(*space.Space, uint64, int, [][]byte) api.Reply {
	switch name {
	case "APPEND", "BITCOUNT", "BITFIELD", "BITOP", "BITPOS", "DECR", "DECRBY",
		"GET", "GETBIT", "GETDEL", "GETEX", "GETRANGE", "GETSET", "INCR", "INCRBY",
		"MGET", "MSET", "MSETNX", "PSETEX",
		"SET", "SETBIT", "SETEX", "SETNX", "SETRANGE", "STRLEN":
		return text.Do
	case "LINDEX", "LINSERT", "LLEN", "LMOVE", "LMPOP", "LPOP", "LPOS", "LPUSH", "LPUSHX",
		"LRANGE", "LREM", "LSET", "LTRIM", "RPOP", "RPOPLPUSH", "RPUSH", "RPUSHX":
		return rows.Do
	case "HDEL", "HEXISTS", "HGET", "HGETALL", "HINCRBY", "HKEYS", "HLEN", "HMGET",
		"HSCAN", "HSET", "HSETNX", "HSTRLEN", "HVALS",
		"SADD", "SCARD", "SDIFF", "SDIFFSTORE", "SINTER", "SINTERCARD", "SINTERSTORE", "SISMEMBER",
		"SMEMBERS", "SMISMEMBER", "SMOVE", "SPOP", "SREM", "SSCAN", "SUNION", "SUNIONSTORE":
		return nest.Do
	case "ZADD", "ZCARD", "ZCOUNT", "ZDIFF", "ZDIFFSTORE", "ZINCRBY",
		"ZINTER", "ZINTERCARD", "ZINTERSTORE", "ZLEXCOUNT", "ZMPOP", "ZMSCORE", "ZPOPMAX", "ZPOPMIN",
		"ZRANGE", "ZRANGEBYLEX", "ZRANGEBYSCORE", "ZRANGESTORE", "ZRANK",
		"ZREM", "ZREMRANGEBYLEX", "ZREMRANGEBYRANK", "ZREMRANGEBYSCORE",
		"ZREVRANGE", "ZREVRANGEBYLEX", "ZREVRANGEBYSCORE", "ZREVRANK",
		"ZSCAN", "ZSCORE", "ZUNION", "ZUNIONSTORE":
		return order.Do
	}
	return nil
}
