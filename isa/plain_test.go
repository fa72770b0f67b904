package isa_test

import (
	"fmt"
	"math"
	"math/big"
	"regexp"
	"strings"

	"shunt/api"
)

// row is what the chapter's table says of an operation: its word, and the letters of what it names (I is Imm).
type row struct{ word, names string }

// rows are the chapter's table, at the operations' numbers.
var rows = map[int]row{
	1: {"halt", ""}, 2: {"set", "AI"}, 3: {"mov", "AB"},
	4: {"add", "ABC"}, 5: {"sub", "ABC"}, 6: {"mul", "ABC"}, 7: {"and", "ABC"}, 8: {"xor", "ABC"}, 9: {"shl", "ABC"}, 10: {"shr", "ABC"},
	11: {"load", "ABI"}, 12: {"store", "ABI"}, 13: {"jump", "I"},
	14: {"eq", "ABI"}, 15: {"ne", "ABI"}, 16: {"lt", "ABI"},
	17: {"begin", ""}, 18: {"end", ""},
}

// numbers are those of an instruction by their letters.
func numbers(i api.Instr) map[rune]int {
	return map[rune]int{'A': i.A, 'B': i.B, 'C': i.C, 'I': i.Imm}
}

// plainLegal is whether it is legal by the chapter's words.
func plainLegal(i api.Instr) bool {
	r, is := rows[i.Op]
	for letter, n := range numbers(i) {
		if letter != 'I' && strings.ContainsRune(r.names, letter) && (n < 0 || n > 7) {
			return false
		}
	}
	return is
}

// plainText is its line by the chapter's words.
func plainText(i api.Instr) string {
	line, worded := rows[i.Op].word, plainLegal(i)
	for _, letter := range "ABCI" {
		n := numbers(i)[letter]
		if strings.ContainsRune(rows[i.Op].names, letter) {
			line += fmt.Sprintf(" %d", n)
		} else if n != 0 {
			worded = false
		}
	}
	if !worded {
		return fmt.Sprintf("raw %d %d %d %d %d", i.Op, i.A, i.B, i.C, i.Imm)
	}
	return line
}

// shape is a word and numbers, a blank ahead of each.
var shape = regexp.MustCompile(`\A([a-z]+)((?: (?:0|-?[1-9][0-9]*))*)\z`)

// plainParse is the instruction whose line it is, by the chapter's words, if there is one.
func plainParse(s string) (api.Instr, bool) {
	parts := shape.FindStringSubmatch(s)
	if parts == nil {
		return api.Instr{}, false
	}
	var list []int
	for _, digits := range strings.Fields(parts[2]) {
		n, _ := new(big.Int).SetString(digits, 10)
		if !n.IsInt64() {
			return api.Instr{}, false
		}
		list = append(list, int(n.Int64()))
	}
	if parts[1] == "raw" {
		if len(list) != 5 {
			return api.Instr{}, false
		}
		i := api.Instr{Op: list[0], A: list[1], B: list[2], C: list[3], Imm: list[4]}
		return i, strings.HasPrefix(plainText(i), "raw")
	}
	for op, r := range rows {
		if r.word == parts[1] && len(r.names) == len(list) {
			i := api.Instr{Op: op}
			place := map[rune]*int{'A': &i.A, 'B': &i.B, 'C': &i.C, 'I': &i.Imm}
			for k, letter := range r.names {
				*place[letter] = list[k]
			}
			return i, plainLegal(i)
		}
	}
	return api.Instr{}, false
}

// modulus is 2^64.
var modulus = new(big.Int).Lsh(big.NewInt(1), 64)

// cut is a number modulo 2^64.
func cut(n *big.Int) uint64 { return new(big.Int).Mod(n, modulus).Uint64() }

// great is a number without a sign.
func great(n uint64) *big.Int { return new(big.Int).SetUint64(n) }

// plainValue is what register A becomes, by the chapter's words, of whole numbers.
func plainValue(op int, x, y uint64) uint64 {
	n, by := new(big.Int), uint(y%64)
	switch rows[op].word {
	case "add":
		return cut(n.Add(great(x), great(y)))
	case "sub":
		return cut(n.Sub(great(x), great(y)))
	case "mul":
		return cut(n.Mul(great(x), great(y)))
	case "and":
		return cut(n.And(great(x), great(y)))
	case "xor":
		return cut(n.Xor(great(x), great(y)))
	case "shl":
		return cut(n.Lsh(great(x), by))
	}
	return cut(n.Rsh(great(x), by))
}

// plainDo is what it asks for by the chapter's words.
func plainDo(i api.Instr, regs [8]uint64, pc int) api.Effect {
	if !plainLegal(i) || pc < 0 || pc > 1023 {
		return api.Effect{}
	}
	kinds := map[string]int{"halt": 7, "load": 3, "store": 4, "jump": 2, "eq": 2, "ne": 2, "lt": 2, "begin": 5, "end": 6}
	word := rows[i.Op].word
	kind, other := kinds[word]
	switch {
	case word == "set":
		return api.Effect{Kind: 1, Next: pc + 1, Reg: i.A, Value: cut(big.NewInt(int64(i.Imm)))}
	case word == "mov":
		return api.Effect{Kind: 1, Next: pc + 1, Reg: i.A, Value: regs[i.B]}
	case !other:
		return api.Effect{Kind: 1, Next: pc + 1, Reg: i.A, Value: plainValue(i.Op, regs[i.B], regs[i.C])}
	case kind == 3 || kind == 4:
		addr := cut(new(big.Int).Add(great(regs[i.B]), big.NewInt(int64(i.Imm))))
		if kind == 3 {
			return api.Effect{Kind: 3, Next: pc + 1, Reg: i.A, Addr: addr}
		}
		return api.Effect{Kind: 4, Next: pc + 1, Value: regs[i.A], Addr: addr}
	case kind != 2:
		return api.Effect{Kind: kind, Next: pc + 1}
	}
	goes := word == "jump"
	if !goes {
		order := great(regs[i.A]).Cmp(great(regs[i.B]))
		goes = word == "eq" && order == 0 || word == "ne" && order != 0 || word == "lt" && order < 0
	}
	if !goes {
		return api.Effect{Kind: 2, Next: pc + 1}
	}
	if i.Imm < 0 || i.Imm > 1024 {
		return api.Effect{}
	}
	return api.Effect{Kind: 2, Next: i.Imm}
}

// dice are numbers in a row that is the same each time.
type dice struct{ x uint64 }

func (d *dice) bits() uint64 {
	d.x = d.x*6364136223846793005 + 1442695040888963407
	return d.x>>33 ^ d.x<<31
}

func (d *dice) below(n int) int { return int(d.bits() % uint64(n)) }

// edges are numbers at which something ends.
var edges = []int{0, 1, -1, 2, 3, 7, 8, 9, 10, 17, 18, 19, 63, 64, 255, 256, -7, -8, 1023, 1024, 1025, math.MaxInt32, math.MaxInt32 + 1, math.MinInt32, math.MinInt32 - 1, 1 << 32, 1<<32 + 1, math.MaxInt, math.MaxInt - 1, math.MinInt, math.MinInt + 1}

// number is any, mostly one that may be a register, or an edge.
func (d *dice) number() int {
	switch d.below(8) {
	case 0:
		return int(d.bits())
	case 1, 2:
		return edges[d.below(len(edges))]
	}
	return d.below(8)
}

// instr is any instruction, mostly a legal one.
func (d *dice) instr() api.Instr {
	i := api.Instr{Op: d.below(20), A: d.number(), B: d.number(), C: d.number(), Imm: d.number()}
	if d.below(20) == 0 {
		i.Op = d.number()
	}
	if d.below(2) == 0 {
		i = bare(i)
	}
	return i
}

// bare is an instruction without what its operation does not name.
func bare(i api.Instr) api.Instr {
	names := rows[i.Op].names
	for letter, n := range map[rune]*int{'A': &i.A, 'B': &i.B, 'C': &i.C, 'I': &i.Imm} {
		if !strings.ContainsRune(names, letter) {
			*n = 0
		}
	}
	return i
}

// regs are any registers; some are alike, and some next to an edge.
func (d *dice) regs() [8]uint64 {
	var all [8]uint64
	for r := range all {
		switch d.below(4) {
		case 0:
			all[r] = d.bits()
		case 1:
			all[r] = uint64(edges[d.below(len(edges))])
		case 2:
			all[r] = all[d.below(8)]
		}
	}
	return all
}
