package bif_test

import (
	"strings"
	"testing"

	"pigeonhole/api"
)

// Written by hand, for each line of the chapter's table: a name, its arguments, what comes of them; a ! ahead of an error. badarg, badarith, system_limit stand for these errors.
const byHand = `
+: 40, 2: 42
+: -1, 1: 0
+: 9223372036854775807, 1: 9223372036854775808
+: -9223372036854775808, -1: -9223372036854775809
+: Less, 1: Most
+: Most, 1: ! system_limit
+: -Most, -1: ! system_limit
+: Most, -Most: 0
+: 1, a: ! badarith
+: a, 1: ! badarith
+: [1], 1: ! badarith
+: 5: 5
+: -5: -5
+: 0: 0
+: a: ! badarith
+: [5]: ! badarith
-: 40, 42: -2
-: -9223372036854775808, 1: -9223372036854775809
-: -Most, 1: ! system_limit
-: Most, -1: ! system_limit
-: Most, Most: 0
-: {}, 1: ! badarith
-: 5: -5
-: -5: 5
-: 0: 0
-: -9223372036854775808: 9223372036854775808
-: a: ! badarith
*: 6, -7: -42
*: -6, -7: 42
*: 4294967296, 4294967296: 18446744073709551616
*: Half, 2: ! system_limit
*: Half, -2: ! system_limit
*: Third, Third: ! system_limit
*: Most, 0: 0
*: Most, Most: ! system_limit
*: true, 1: ! badarith
*: Most, a: ! badarith
div: 7, 2: 3
div: -7, 2: -3
div: 7, -2: -3
div: -7, -2: 3
div: 1, 2: 0
div: -1, 2: 0
div: Most, -1: -Most
div: -9223372036854775808, -1: 9223372036854775808
div: 1, 0: ! badarith
div: 0, 0: ! badarith
div: a, 0: ! badarith
div: 1, a: ! badarith
rem: 7, 2: 1
rem: -7, 2: -1
rem: 7, -2: 1
rem: -7, -2: -1
rem: -6, 3: 0
rem: 1, Most: 1
rem: 1, 0: ! badarith
rem: P, 1: ! badarith
==: [1, {a}], [1, {a}]: true
==: 1, 2: false
==: G, F: false
==: [], {}: false
=:=: P, P: true
=:=: P, R: false
/=: a, a: false
/=: a, b: true
=/=: [1 | 2], [1 | 2]: false
=/=: [1 | 2], [1, 2]: true
<: 1, a: true
<: a, a: false
<: [], {}: false
<: [1 | 2], [1]: true
<: -Most, -1: true
=<: a, a: true
=<: b, a: false
=<: {b}, {a, a}: true
>: P, F: true
>: a, a: false
>: F, P: false
>=: a, a: true
>=: 1, a: false
>=: G, F: true
and: true, true: true
and: true, false: false
and: false, true: false
and: false, false: false
and: false, 1: ! badarg
and: a, false: ! badarg
or: true, true: true
or: true, false: true
or: false, true: true
or: false, false: false
or: true, 1: ! badarg
or: "true", true: ! badarg
xor: true, true: false
xor: true, false: true
xor: false, true: true
xor: false, false: false
xor: true, {}: ! badarg
not: true: false
not: false: true
not: a: ! badarg
not: 1: ! badarg
++: [1], 2: [1 | 2]
++: [1, 2], [3]: [1, 2, 3]
++: [1], [2 | 3]: [1, 2 | 3]
++: [1], []: [1]
++: [], 2: 2
++: [], []: []
++: [], [1 | 2]: [1 | 2]
++: [[]], []: [[]]
++: [1 | 2], []: ! badarg
++: [1 | 2], 3: ! badarg
++: a, []: ! badarg
++: {}, []: ! badarg
--: [1, 2, 1, 3], [1, 3, 9]: [2, 1]
--: [1, 2, 1, 2, 1], [1, 1]: [2, 2, 1]
--: [a, b, a], [a, a, a]: [b]
--: [1, 2], []: [1, 2]
--: [], [1]: []
--: [], []: []
--: [1, 2, 3], [3, 2, 1]: []
--: [{a}, [a], "a", a], [a, "a", [a]]: [{a}]
--: [1 | 2], [1]: ! badarg
--: [1], [1 | 2]: ! badarg
--: 1, [1]: ! badarg
--: [1], 1: ! badarg
max: 1, a: a
max: a, 1: a
max: 2, 1: 2
max: [1], [1]: [1]
min: 1, a: 1
min: a, 1: 1
min: {}, []: {}
min: P, P: P
abs: -5: 5
abs: 5: 5
abs: 0: 0
abs: -Most: Most
abs: -9223372036854775808: 9223372036854775808
abs: a: ! badarg
hd: [1, 2]: 1
hd: [[] | a]: []
hd: []: ! badarg
hd: {1}: ! badarg
tl: [1, 2]: [2]
tl: [1 | 2]: 2
tl: [1, 2 | 3]: [2 | 3]
tl: [1]: []
tl: []: ! badarg
tl: a: ! badarg
length: []: 0
length: [a, [], {}]: 3
length: [1 | 2]: ! badarg
length: {}: ! badarg
element: 1, {a}: a
element: 2, {a, b}: b
element: 3, {a, b}: ! badarg
element: 0, {a}: ! badarg
element: -1, {a}: ! badarg
element: 4294967297, {a}: ! badarg
element: 18446744073709551617, {a}: ! badarg
element: Most, {a}: ! badarg
element: -Most, {a}: ! badarg
element: 1, {}: ! badarg
element: 1, [a]: ! badarg
element: 1, G: ! badarg
element: a, {a}: ! badarg
setelement: 1, {a, b}, c: {c, b}
setelement: 2, {a, b}, []: {a, []}
setelement: 0, {a}, c: ! badarg
setelement: 3, {a, b}, c: ! badarg
setelement: -1, {a}, c: ! badarg
setelement: 18446744073709551617, {a}, c: ! badarg
setelement: 1, {}, c: ! badarg
setelement: 1, [a], c: ! badarg
setelement: {}, {a}, c: ! badarg
tuple_size: {}: 0
tuple_size: {a, b}: 2
tuple_size: [a]: ! badarg
tuple_size: G: ! badarg
tuple_to_list: {}: []
tuple_to_list: {a, {}}: [a, {}]
tuple_to_list: [a]: ! badarg
list_to_tuple: []: {}
list_to_tuple: [a, []]: {a, []}
list_to_tuple: [a | b]: ! badarg
list_to_tuple: {}: ! badarg
is_integer: Most: true
is_integer: a: false
is_atom: '': true
is_atom: "": false
is_tuple: {}: true
is_tuple: []: false
is_list: []: true
is_list: [1 | 2]: true
is_list: {}: false
is_pid: P: true
is_pid: R: false
is_reference: R: true
is_reference: P: false
is_function: G: true
is_function: R: false
is_boolean: true: true
is_boolean: false: true
is_boolean: ok: false
is_boolean: "true": false
is_function: F, 0: true
is_function: G, 7: true
is_function: F, Most: true
is_function: a, 2: false
is_function: a, -2: ! badarg
is_function: F, -1: ! badarg
is_function: F, -Most: ! badarg
is_function: F, a: ! badarg
is_function: a, F: ! badarg
atom_to_list: ab: [97, 98]
atom_to_list: '': []
atom_to_list: '\x00\xff': [0, 255]
atom_to_list: 1: ! badarg
atom_to_list: "a": ! badarg
list_to_atom: "ab": ab
list_to_atom: []: ''
list_to_atom: [0, 255]: '\x00\xff'
list_to_atom: [256]: ! badarg
list_to_atom: [-1]: ! badarg
list_to_atom: [a]: ! badarg
list_to_atom: [97 | 98]: ! badarg
list_to_atom: [4294967393]: ! badarg
list_to_atom: a: ! badarg
list_to_atom: "1234567890123456789012345678901234567890": '1234567890123456789012345678901234567890'
list_to_atom: "12345678901234567890123456789012345678901": ! system_limit
integer_to_list: 12: "12"
integer_to_list: -12: "-12"
integer_to_list: 0: "0"
integer_to_list: 18446744073709551616: "18446744073709551616"
integer_to_list: a: ! badarg
integer_to_list: [1]: ! badarg
list_to_integer: "-007": -7
list_to_integer: "+007": 7
list_to_integer: "12": 12
list_to_integer: "0": 0
list_to_integer: "-0": 0
list_to_integer: "+0": 0
list_to_integer: "-000": 0
list_to_integer: "-18446744073709551616": -18446744073709551616
list_to_integer: "": ! badarg
list_to_integer: "+": ! badarg
list_to_integer: "-": ! badarg
list_to_integer: "--1": ! badarg
list_to_integer: "+-1": ! badarg
list_to_integer: "-+1": ! badarg
list_to_integer: "++1": ! badarg
list_to_integer: "1-": ! badarg
list_to_integer: "1 ": ! badarg
list_to_integer: " 1": ! badarg
list_to_integer: "1a1": ! badarg
list_to_integer: "1_0": ! badarg
list_to_integer: "0x1": ! badarg
list_to_integer: "/": ! badarg
list_to_integer: "1:2": ! badarg
list_to_integer: [1]: ! badarg
list_to_integer: [49, 304]: ! badarg
list_to_integer: [49, -207]: ! badarg
list_to_integer: [49, a]: ! badarg
list_to_integer: [49 | 50]: ! badarg
list_to_integer: a: ! badarg
list_to_integer: 1: ! badarg
reverse: [1, 2, 3]: [3, 2, 1]
reverse: []: []
reverse: [1 | 2]: ! badarg
reverse: {1}: ! badarg
nth: 1, [a, b]: a
nth: 2, [a, b]: b
nth: 3, [a, b]: ! badarg
nth: 0, [a, b]: ! badarg
nth: -1, [a, b]: ! badarg
nth: 1, []: ! badarg
nth: 1, [a | b]: ! badarg
nth: 1, {a}: ! badarg
nth: a, [a]: ! badarg
nth: 4294967297, [a]: ! badarg
nth: Most, [a]: ! badarg
nthtail: 0, [a, b]: [a, b]
nthtail: 1, [a, b]: [b]
nthtail: 2, [a, b]: []
nthtail: 3, [a, b]: ! badarg
nthtail: -1, [a, b]: ! badarg
nthtail: 0, []: []
nthtail: 1, []: ! badarg
nthtail: 0, [a | b]: ! badarg
nthtail: 1, [a | b]: ! badarg
nthtail: 0, a: ! badarg
nthtail: a, [a]: ! badarg
nthtail: 18446744073709551616, [a]: ! badarg
nthtail: -Most, [a]: ! badarg
member: b, [a, b]: true
member: c, [a, b]: false
member: [], []: false
member: [], [[]]: true
member: {a, [1]}, [{a}, {a, [1]}]: true
member: a, [a | b]: ! badarg
member: b, [a | b]: ! badarg
member: a, {a}: ! badarg
sum: []: 0
sum: [1, 2, -5]: -2
sum: [Less, 1]: Most
sum: [Most, -Most]: 0
sum: [1, a]: ! badarith
sum: [a]: ! badarith
sum: [[]]: ! badarith
sum: [Most, 1]: ! system_limit
sum: [Most, 1, -1]: ! system_limit
sum: [-Most, -1, 1]: ! system_limit
sum: [Most, -1, 1]: Most
sum: [Most, 1, a]: ! system_limit
sum: [Most, a, 1]: ! badarith
sum: [a, Most, 1]: ! badarith
sum: [1, a, Most, Most]: ! badarith
sum: [1, Most, a]: ! system_limit
sum: [1 | 2]: ! badarg
sum: [a | 2]: ! badarg
sum: [Most, 1 | 2]: ! badarg
sum: 1: ! badarg
sum: {1}: ! badarg
seq: 2, 4: [2, 3, 4]
seq: 3, 3: [3]
seq: 3, 2: []
seq: 3, 1: ! badarg
seq: 0, -1: []
seq: 0, -2: ! badarg
seq: -2, 2: [-2, -1, 0, 1, 2]
seq: 4294967295, 4294967296: [4294967295, 4294967296]
seq: -9223372036854775809, -9223372036854775807: [-9223372036854775809, -9223372036854775808, -9223372036854775807]
seq: Less, Most: [Less, Most]
seq: Most, Most: [Most]
seq: Most, Less: []
seq: -Most, -Less: [-Most, -Less]
seq: -Most, -Most: [-Most]
seq: -Less, -Most: []
seq: 1, 1099511627776: ! system_limit
seq: 1, 9223372036854775808: ! system_limit
seq: -9223372036854775808, 9223372036854775807: ! system_limit
seq: -Most, Most: ! system_limit
seq: -1, Most: ! system_limit
seq: 0, Most: ! system_limit
seq: Most, -Most: ! badarg
seq: Most, 0: ! badarg
seq: Most, -1: ! badarg
seq: 18446744073709551616, 0: ! badarg
seq: 1099511627776, 1: ! badarg
seq: a, 1: ! badarg
seq: 1, a: ! badarg
seq: a, a: ! badarg
sort: [b, 2, a, 1, 2]: [1, 2, 2, a, b]
sort: [[], {}, P, F, R, a, 1]: [1, a, R, F, P, {}, []]
sort: [[1], [1 | 2], [], [1, 1], {a, a}, {b}]: [{b}, {a, a}, [], [1 | 2], [1], [1, 1]]
sort: [Q, P, S, R, H, G, F]: [R, S, F, G, H, P, Q]
sort: []: []
sort: [1 | 2]: ! badarg
sort: {2, 1}: ! badarg
usort: [2, 1, 2]: [1, 2]
usort: [[], {}, P, F, R, a, 1, a, R, G, P, {}, [], F]: [1, a, R, F, G, P, {}, []]
usort: [a, a, a]: [a]
usort: []: []
usort: [1 | 1]: ! badarg
usort: a: ! badarg
last: [1, 2]: 2
last: [[]]: []
last: []: ! badarg
last: [1 | 2]: ! badarg
last: {1}: ! badarg
throw: x: ! {throw, x}
throw: [G | P]: ! {throw, [G | P]}
error: x: ! {error, x}
error: {badmatch, []}: ! {error, {badmatch, []}}
exit: x: ! {exit, x}
exit: normal: ! {exit, normal}
`

// P10.1
func TestTableByHand(t *testing.T) {
	missing := map[signature]struct{}{}
	for _, s := range signatures() {
		missing[s] = struct{}{}
	}
	for _, line := range strings.Split(strings.Trim(byHand, "\n"), "\n") {
		parts := strings.SplitN(line, ": ", 2)
		name := parts[0]
		cut := strings.LastIndex(parts[1], ": ")
		args, want := read(t, parts[1][:cut]), parts[1][cut+2:]
		delete(missing, signature{name, len(args)})
		raised, isError := strings.CutPrefix(want, "! ")
		switch {
		case !isError:
			gives(t, read(t, want)[0], name, args...)
		case raised[0] == '{':
			fails(t, read(t, raised)[0], name, args...)
		default:
			fails(t, failure("error", atom(raised)), name, args...)
		}
	}
	if len(missing) > 0 {
		t.Errorf("nothing by hand of %v", missing)
	}
}

// P10.1: the bytes 0 to 255, alone and among others, and those beside them.
func TestEachByte(t *testing.T) {
	for n := int64(-300); n <= 600; n++ {
		args := []api.Term{list(num('a'), num(n), num('b'))}
		if n < 0 || n > 255 {
			fails(t, badArg, "list_to_atom", args...)
			fails(t, badArg, "list_to_integer", list(num(n)))
			continue
		}
		text := "a" + string([]byte{byte(n)}) + "b"
		gives(t, atom(text), "list_to_atom", args...)
		gives(t, args[0], "atom_to_list", atom(text))
		if n >= '0' && n <= '9' {
			gives(t, num(n-'0'), "list_to_integer", list(num(n)))
			gives(t, num(10+n-'0'), "list_to_integer", list(num('1'), num(n)))
		} else {
			fails(t, badArg, "list_to_integer", list(num(n)))
			fails(t, badArg, "list_to_integer", list(num('1'), num(n)))
			fails(t, badArg, "list_to_integer", list(num('-'), num(n), num('1')))
		}
	}
}
