package wire_test

import (
	"encoding/binary"
	"hash/crc32"
	"math"
	"math/rand"
	"reflect"
	"slices"
	"strings"
	"testing"

	"strongbox/api"
	"strongbox/wire"
)

// What follows is a plain model of the chapter's words: names of fields, and what is known of each name. A request and a reply are taken by the names of their parts.

// requestNames are the fields of each kind of requests, in their order.
func requestNames(kind int) []string {
	return [][]string{1: {"Tenant", "Quota"}, 2: {"Tenant"}, 3: {"Tenant"}, 4: {"Volume"}, 5: {"Volume"}, 6: {}, 7: {}, 8: {"Volume", "Block", "Digest", "Wrapped"}, 9: {"Nonce", "Sample"}, 10: {"Volume", "Block", "Wrapped", "Data"}, 11: {"Volume", "Block"}, 12: {"Volume", "Block"}}[kind]
}

// replyNames are the fields of a reply to each kind.
func replyNames(kind int) []string {
	return map[int][]string{3: {"Quota", "Charge", "Volumes"}, 6: {"Volumes"}, 7: {"Quota", "Charge"}, 8: {"Nonce", "Places"}, 11: {"Wrapped", "Data"}}[kind]
}

// sizeOf is how many bytes a field has.
func sizeOf(name string) int {
	return map[string]int{"Tenant": 1, "Quota": 2, "Charge": 2, "Volume": 1, "Block": 1, "Nonce": 4, "Digest": 32, "Wrapped": 48, "Sample": 8, "Data": 256, "Places": 8, "Volumes": 9}[name]
}

// rangeOf is the least and the most that a number may be.
func rangeOf(name string) (int, int) {
	r := map[string][2]int{"Tenant": {1, 8}, "Quota": {0, 65535}, "Charge": {0, 65535}, "Volume": {1, 99}, "Block": {0, 255}, "Nonce": {0, 4294967295}}[name]
	return r[0], r[1]
}

// sizesOf is how many bytes fields have together.
func sizesOf(names []string) int {
	n := 0
	for _, name := range names {
		n += sizeOf(name)
	}
	return n
}

// isFull tells whether a reply has its fields.
func isFull(kind int, status api.Status) bool {
	return kind != 8 && status == 0 || kind == 8 && status == 1
}

// areRising tells whether all are volumes' numbers, each above the one ahead of it.
func areRising(l []int) bool {
	return slices.IsSorted(l) && len(slices.Compact(slices.Clone(l))) == len(l) && !slices.ContainsFunc(l, func(n int) bool { return n < 1 || n > 99 })
}

// mayBe tells whether a field may be that.
func mayBe(name string, value any) bool {
	switch v := value.(type) {
	case int:
		least, most := rangeOf(name)
		return least <= v && v <= most
	case string:
		return len(v) == sizeOf(name)
	case []int:
		if name == "Volumes" {
			return len(v) <= 8 && areRising(v)
		}
		return len(v) == 8 && !slices.ContainsFunc(v, func(n int) bool { return n < 0 || n > 255 })
	}
	panic("no value of a field")
}

// bytesOf is a field as bytes, which may be that.
func bytesOf(name string, value any) string {
	var b []byte
	switch v := value.(type) {
	case int:
		b = binary.BigEndian.AppendUint64(nil, uint64(v))[8-sizeOf(name):]
	case string:
		return v
	case []int:
		if name == "Volumes" {
			b = append(b, byte(len(v)))
		}
		for _, n := range v {
			b = append(b, byte(n))
		}
		b = append(b, make([]byte, sizeOf(name)-len(b))...)
	}
	return string(b)
}

// valueOf is what bytes tell of a field; false, if no value of it has these bytes.
func valueOf(name, s string) (any, bool) {
	var value any
	switch name {
	case "Volumes":
		l := []int{}
		for k := range min(int(s[0]), 8) {
			l = append(l, int(s[1+k]))
		}
		value = l
	case "Places":
		l := []int{}
		for k := range 8 {
			l = append(l, int(s[k]))
		}
		value = l
	case "Digest", "Wrapped", "Sample", "Data":
		value = s
	default:
		value = int(binary.BigEndian.Uint64([]byte(strings.Repeat("\x00", 8-len(s)) + s)))
	}
	return value, mayBe(name, value) && bytesOf(name, value) == s
}

// get is the part of a request or a reply that has a name.
func get(of any, name string) any {
	return reflect.ValueOf(of).FieldByName(name).Interface()
}

// with is a request or a reply with another part of that name.
func with[T any](of T, name string, value any) T {
	reflect.ValueOf(&of).Elem().FieldByName(name).Set(reflect.ValueOf(value))
	return of
}

// namesOf are the names of all parts of a request or a reply, but for its kind and its status.
func namesOf(of any) []string {
	var l []string
	for _, f := range reflect.VisibleFields(reflect.TypeOf(of)) {
		if f.Name != "Kind" && f.Name != "Status" {
			l = append(l, f.Name)
		}
	}
	return l
}

// isEmpty tells whether a part is zero or empty.
func isEmpty(value any) bool {
	v := reflect.ValueOf(value)
	return v.IsZero() || v.Kind() == reflect.Slice && v.Len() == 0
}

// body is the fields of these names of a request or a reply; false, if one may not be what it is, or another one is not empty.
func body(of any, names []string) (string, bool) {
	s := ""
	for _, name := range names {
		if !mayBe(name, get(of, name)) {
			return "", false
		}
		s += bytesOf(name, get(of, name))
	}
	for _, name := range namesOf(of) {
		if !slices.Contains(names, name) && !isEmpty(get(of, name)) {
			return "", false
		}
	}
	return s, true
}

// filled is a request or a reply with the fields of these names, as bytes tell them.
func filled[T any](of T, names []string, s string) (T, bool) {
	for _, name := range names {
		n := sizeOf(name)
		value, ok := valueOf(name, s[:n])
		if !ok {
			return *new(T), false
		}
		of, s = with(of, name, value), s[n:]
	}
	return of, true
}

// sum is the check of a text, as the library makes it, the lowest byte first.
func sum(s string) string {
	return string(binary.LittleEndian.AppendUint32(nil, crc32.ChecksumIEEE([]byte(s))))
}

// one is a byte as a text.
func one(n int) string { return string([]byte{byte(n)}) }

// noughts are so many bytes 0.
func noughts(n int) string { return strings.Repeat("\x00", n) }

// requestFrame is a frame as a request: bytes with their check.
func requestFrame(s string) string { return s + sum(s) }

// replyFrame is a frame as a reply to a kind.
func replyFrame(kind int, s string) string { return s + sum(one(kind)+s) }

// wantRequest is what EncodeRequest is to answer.
func wantRequest(r api.Request) (string, api.Errno) {
	if r.Kind < 1 || r.Kind > 12 {
		return "", api.ErrWireKind
	}
	s, ok := body(r, requestNames(r.Kind))
	if !ok {
		return "", api.ErrWireField
	}
	return requestFrame(one(r.Kind) + s), api.OK
}

// readRequest is what DecodeRequest is to answer.
func readRequest(s string) (api.Request, api.Errno) {
	if s == "" || s[0] < 1 || s[0] > 12 {
		return api.Request{}, api.ErrWireKind
	}
	kind := int(s[0])
	n := 1 + sizesOf(requestNames(kind))
	if len(s) != n+4 || requestFrame(s[:n]) != s {
		return api.Request{}, api.ErrWireForm
	}
	r, ok := filled(api.Request{Kind: kind}, requestNames(kind), s[1:n])
	if !ok {
		return api.Request{}, api.ErrWireField
	}
	return r, api.OK
}

// wantReply is what EncodeReply is to answer.
func wantReply(kind int, r api.Reply) (string, api.Errno) {
	if kind < 0 || kind > 12 {
		return "", api.ErrWireKind
	}
	if r.Status < 0 || r.Status > 13 {
		return "", api.ErrWireField
	}
	names := replyNames(kind)
	if !isFull(kind, r.Status) {
		if _, ok := body(r, nil); !ok {
			return "", api.ErrWireField
		}
		return replyFrame(kind, one(int(r.Status))+noughts(sizesOf(names))), api.OK
	}
	s, ok := body(r, names)
	if !ok {
		return "", api.ErrWireField
	}
	return replyFrame(kind, one(int(r.Status))+s), api.OK
}

// readReply is what DecodeReply is to answer.
func readReply(kind int, s string) (api.Reply, api.Errno) {
	if kind < 0 || kind > 12 {
		return api.Reply{}, api.ErrWireKind
	}
	names := replyNames(kind)
	n := 1 + sizesOf(names)
	if len(s) != n+4 || replyFrame(kind, s[:n]) != s {
		return api.Reply{}, api.ErrWireForm
	}
	r := api.Reply{Status: api.Status(s[0])}
	if r.Status > 13 {
		return api.Reply{}, api.ErrWireField
	}
	if !isFull(kind, r.Status) {
		if s[1:n] != noughts(n-1) {
			return api.Reply{}, api.ErrWireField
		}
		return r, api.OK
	}
	r, ok := filled(r, names, s[1:n])
	if !ok {
		return api.Reply{}, api.ErrWireField
	}
	return r, api.OK
}

// plain is a reply whose lists without elements are nil.
func plain(r api.Reply) api.Reply {
	if len(r.Volumes) == 0 {
		r.Volumes = nil
	}
	if len(r.Places) == 0 {
		r.Places = nil
	}
	return r
}

// sameReply tells whether two replies say the same.
func sameReply(a, b api.Reply) bool { return reflect.DeepEqual(plain(a), plain(b)) }

// encodesRequest holds EncodeRequest to an answer.
func encodesRequest(t *testing.T, r api.Request, want string, errno api.Errno) {
	t.Helper()
	if got, e := wire.EncodeRequest(r); got != want || e != errno {
		t.Errorf("EncodeRequest(%+v) = %x, %d, want %x, %d", r, got, e, want, errno)
	}
}

// decodesRequest holds DecodeRequest to an answer.
func decodesRequest(t *testing.T, s string, want api.Request, errno api.Errno) {
	t.Helper()
	if got, e := wire.DecodeRequest(s); got != want || e != errno {
		t.Errorf("DecodeRequest(%x) = %+v, %d, want %+v, %d", s, got, e, want, errno)
	}
}

// encodesReply holds EncodeReply to an answer.
func encodesReply(t *testing.T, kind int, r api.Reply, want string, errno api.Errno) {
	t.Helper()
	if got, e := wire.EncodeReply(kind, r); got != want || e != errno {
		t.Errorf("EncodeReply(%d, %+v) = %x, %d, want %x, %d", kind, r, got, e, want, errno)
	}
}

// decodesReply holds DecodeReply to an answer; with an error the lists are to be empty, too.
func decodesReply(t *testing.T, kind int, s string, want api.Reply, errno api.Errno) {
	t.Helper()
	if got, e := wire.DecodeReply(kind, s); !sameReply(got, want) || e != errno {
		t.Errorf("DecodeReply(%d, %x) = %+v, %d, want %+v, %d", kind, s, got, e, want, errno)
	}
}

// otherBytes are bytes to try at a place of a frame: all of them where numbers may stand, some of them further behind.
func otherBytes(at int) []int {
	if at >= 20 {
		return []int{0, 1, 99, 128, 255}
	}
	l := make([]int, 256)
	for b := range l {
		l[b] = b
	}
	return l
}

// letters are so many bytes, no two of them side by side the same; other numbers begin elsewhere.
func letters(n, number int) string {
	b := make([]byte, n)
	for i := range b {
		b[i] = byte(number + 7*i)
	}
	return string(b)
}

// noNumbers are numbers that no field may be, or hardly one.
func noNumbers() []int {
	return []int{math.MinInt, math.MinInt + 1, -1 << 32, -65536, -256, -1, 1 << 32, 1<<32 + 1, 1<<40 + 3, 1<<56 + 5, math.MaxInt - 1, math.MaxInt}
}

// rightOnes are values that a field may be, those at its edges among them.
func rightOnes(name string) []any {
	switch name {
	case "Volumes":
		return []any{[]int(nil), []int{}, []int{1}, []int{99}, []int{1, 99}, []int{5, 6, 7}, []int{2, 3, 5, 7, 11, 13, 17}, []int{1, 2, 3, 4, 5, 6, 7, 8}, []int{92, 93, 94, 95, 96, 97, 98, 99}}
	case "Places":
		return []any{[]int{0, 0, 0, 0, 0, 0, 0, 0}, []int{255, 255, 255, 255, 255, 255, 255, 255}, []int{0, 1, 2, 3, 4, 5, 6, 255}, []int{255, 9, 8, 9, 7, 128, 127, 0}}
	case "Digest", "Wrapped", "Sample", "Data":
		n := sizeOf(name)
		return []any{noughts(n), letters(n, 1), letters(n, 200), strings.Repeat("\xff", n), noughts(n-1) + "\x01", "\x80" + noughts(n-1)}
	}
	least, most := rangeOf(name)
	return []any{least, least + 1, (least + most) / 2, most - 1, most}
}

// wrongOnes are values that a field may not be, those at its edges among them; none of them is zero or empty, unless such a field must be there.
func wrongOnes(name string) []any {
	var l []any
	switch name {
	case "Volumes":
		for _, v := range [][]int{{0}, {100}, {-1}, {256}, {257}, {0, 1}, {98, 100}, {98, 99, 100}, {2, 1}, {7, 7}, {1, 3, 2}, {1, 2, 3, 3}, {1, 2, 3, 4, 5, 6, 7, 7}, {1, 2, 3, 4, 5, 6, 7, 6}, {1, 2, 3, 4, 5, 6, 7, 8, 9}, {1, 2, 3, 4, 5, 6, 7, 8, 0}, {9, 8, 7, 6, 5, 4, 3, 2, 1}, {2, 257}, {0, 0}, make([]int, 8), make([]int, 9), make([]int, 256), make([]int, 257)} {
			l = append(l, v)
		}
		for _, n := range noNumbers() {
			l = append(l, []int{n}, []int{5, n}, []int{n, 5})
		}
	case "Places":
		for _, v := range [][]int{nil, {}, {0}, make([]int, 7), make([]int, 9), make([]int, 16), make([]int, 264), {1, 2, 3, 4, 5, 6, 7}, {1, 2, 3, 4, 5, 6, 7, 8, 9}} {
			l = append(l, v)
		}
		for k := range 8 {
			for _, n := range append(noNumbers(), 256, 257, 65536) {
				v := []int{0, 1, 2, 3, 4, 5, 6, 255}
				v[k] = n
				l = append(l, v)
			}
		}
	case "Digest", "Wrapped", "Sample", "Data":
		n := sizeOf(name)
		l = append(l, "", letters(1, 1), letters(n-1, 1), letters(n+1, 1), noughts(n-1), noughts(n+1), letters(n+256, 1), letters(n+65536, 1))
	default:
		least, most := rangeOf(name)
		l = append(l, least-1, most+1, most+256, most+65536)
		for _, n := range noNumbers() {
			if n < least || n > most {
				l = append(l, n)
			}
		}
	}
	return l
}

// rightRequest is a request of a kind, with the k-th value that each of its fields may be (round and round).
func rightRequest(kind, k int) api.Request {
	r := api.Request{Kind: kind}
	for i, name := range requestNames(kind) {
		l := rightOnes(name)
		r = with(r, name, l[(k+i)%len(l)])
	}
	return r
}

// fullReply is a full reply to a kind, likewise.
func fullReply(kind, k int) api.Reply {
	r := api.Reply{}
	if kind == 8 {
		r.Status = api.Challenge
	}
	for i, name := range replyNames(kind) {
		l := rightOnes(name)
		r = with(r, name, l[(k+i)%len(l)])
	}
	return r
}

// repliesTo are the replies to a kind: full ones, and one of each other status.
func repliesTo(kind int) []api.Reply {
	var l []api.Reply
	for k := range 9 {
		l = append(l, fullReply(kind, k))
	}
	for status := range api.Status(14) {
		if !isFull(kind, status) {
			l = append(l, api.Reply{Status: status})
		}
	}
	return l
}

// chanceOf is a value that a field may be, by chance.
func chanceOf(r *rand.Rand, name string) any {
	switch name {
	case "Volumes":
		l := r.Perm(99)[:r.Intn(9)]
		for k := range l {
			l[k]++
		}
		slices.Sort(l)
		return l
	case "Places":
		l := make([]int, 8)
		for k := range l {
			l[k] = r.Intn(256)
		}
		return l
	case "Digest", "Wrapped", "Sample", "Data":
		b := make([]byte, sizeOf(name))
		r.Read(b)
		return string(b)
	}
	least, most := rangeOf(name)
	return least + r.Intn(most-least+1)
}
