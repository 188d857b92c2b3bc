package client_test

import (
	"strings"
	"testing"

	"strongbox/api"
)

// chunkAndWrapped are those of a block of the clients that waiting makes.
func chunkAndWrapped(volume, block, n int) (string, string) {
	chunk, key := sealed(keyOf("domain"), plainOf(n))
	return chunk, wrap(keyOf("master"), volume, block, key)
}

func Test15_3Example(t *testing.T) {
	b := begun(t, "domain", "master")
	chunk, wrapped := chunkAndWrapped(1, 0, 4)
	sample := ""
	for i := range len(somePlaces) {
		sample += chunk[somePlaces[i] : int(somePlaces[i])+1]
	}
	b.begins(8, 1, 0, plainOf(4))
	b.answers(challenge(5, somePlaces), api.Step{Status: api.Challenge, Frame: prove(5, sample)}, api.OK)
	b.answers(bare(9, api.Need), api.Step{Status: api.Need, Frame: upload(1, 0, wrapped, chunk)}, api.OK)
	b.answers(bare(10, api.Done), api.Step{Over: true, Status: api.Done}, api.OK)
	b.answers(bare(10, api.Done), api.Step{}, api.ErrClientIdle)
	b.begins(11, 1, 0, "")
	b.answers(found(zeros(48), zeros(256)), api.Step{}, api.ErrClientLost)
	b.answers(found(zeros(48), zeros(256)), api.Step{}, api.ErrClientIdle)
}

// wantStatus is what Take answers of a status, by the promise's words: a list of what is refused and of what goes on, all else is over.
func wantStatus(kind int, status api.Status) (isRefused, goesOn bool) {
	switch [2]int{kind, int(status)} {
	case [2]int{8, 0}, [2]int{8, 2}, [2]int{9, 1}, [2]int{10, 1}, [2]int{10, 2}, [2]int{11, 1}, [2]int{11, 2}, [2]int{12, 1}, [2]int{12, 2}:
		return true, false
	case [2]int{8, 1}, [2]int{9, 2}, [2]int{9, 13}:
		return false, true
	}
	return status > 13, false
}

// Each status to each kind; then it waits on what it must, or for nothing.
func Test15_3EachStatusToEachKind(t *testing.T) {
	for _, kind := range []int{8, 9, 10, 11, 12} {
		for status := range api.Status(256) {
			b := waiting(t, kind, 5, 6, 7)
			s, e := b.takes(bare(kind, status))
			isRefused, goesOn := wantStatus(kind, status)
			switch {
			case kind == 11 && status == 0:
				if s != (api.Step{}) || e != api.ErrClientLost || b.m.kind != 0 {
					t.Errorf("a Read, Done with noughts: %s, %d", told(s), e)
				}
			case isRefused:
				if s != (api.Step{}) || e != api.ErrClientReply || b.m.kind != kind {
					t.Errorf("kind %d, status %d: %s, %d", kind, status, told(s), e)
				}
			case goesOn:
				if s.Over || s.Status != status || s.Frame == "" || s.Plain != "" || e != api.OK || b.m.kind <= kind {
					t.Errorf("kind %d, status %d: %s, %d", kind, status, told(s), e)
				}
			default:
				if s != (api.Step{Over: true, Status: status}) || e != api.OK || b.m.kind != 0 {
					t.Errorf("kind %d, status %d: %s, %d", kind, status, told(s), e)
				}
			}
			b.ends()
		}
	}
}

// A reply to another kind is none, whatever it says; it is waited on.
func Test15_3RepliesToOtherKinds(t *testing.T) {
	chunk, wrapped := chunkAndWrapped(5, 6, 7)
	for _, kind := range []int{8, 9, 10, 11, 12} {
		b := waiting(t, kind, 5, 6, 7)
		for other := range 14 {
			if other == kind {
				continue
			}
			for status := range api.Status(15) {
				b.answers(bare(other, status), api.Step{}, api.ErrClientReply)
			}
			b.answers(reply(other, 1, number(5, 4)+somePlaces), api.Step{}, api.ErrClientReply)
			b.answers(reply(other, 0, wrapped+chunk), api.Step{}, api.ErrClientReply)
		}
		b.ends()
	}
}

// rightReplies are some to a kind that would be taken.
func rightReplies(kind int) []string {
	chunk, wrapped := chunkAndWrapped(5, 6, 7)
	l := map[int][]string{8: {challenge(1, somePlaces)}, 9: {bare(9, api.Done), bare(9, api.Need)}, 10: {bare(10, api.Done)}, 11: {found(wrapped, chunk)}, 12: {bare(12, api.Done)}}[kind]
	return append(l, bare(kind, api.NoVolume), bare(kind, api.Unmapped))
}

func Test15_3TextsThatAreNoReply(t *testing.T) {
	for _, kind := range []int{8, 9, 10, 11, 12} {
		b := waiting(t, kind, 5, 6, 7)
		texts := []string{"", "x", zeros(4), zeros(5), zeros(6), zeros(17), zeros(309), strings.Repeat("\xff", 5), "no reply", strings.Repeat("long ", 10000)}
		for _, r := range rightReplies(kind) {
			texts = append(texts, r[1:], r[:len(r)-1], r+"\x00", "\x00"+r, r+r, r[:len(r)-4], r[:len(r)-4]+zeros(4), r[:len(r)-4]+r[len(r)-3:]+"x")
		}
		for k := 1; k <= 12; k++ {
			texts = append(texts, request(k, ""), request(k, place(5, 6)), number(k, 1))
		}
		texts = append(texts, upload(5, 6, zeros(48), zeros(256)), offer(5, 6, zeros(32), zeros(48)), prove(1, zeros(8)))
		for _, s := range texts {
			b.answers(s, api.Step{}, api.ErrClientReply)
		}
		b.ends()
	}
}

// One byte of a right reply is turned: it is none, and the right one is taken behind that.
func Test15_3OneByteTurned(t *testing.T) {
	for _, kind := range []int{8, 9, 10, 11, 12} {
		for _, r := range rightReplies(kind) {
			b := waiting(t, kind, 5, 6, 7)
			for at := range len(r) {
				for _, mask := range []byte{1, 2, 16, 128, 255} {
					b.answers(turned(r, at, mask), api.Step{}, api.ErrClientReply)
				}
			}
			if _, e := b.takes(r); e != api.OK {
				t.Errorf("kind %d: the right reply: %d", kind, e)
			}
			b.ends()
		}
	}
}

// Fields of a reply that has none must be noughts, its check right or not.
func Test15_3FieldsOfARefusal(t *testing.T) {
	for _, kind := range []int{8, 11} {
		for _, status := range []api.Status{0, 1, 5, 9, 12, 13} {
			if kind == 8 && status == 1 || kind == 11 && status == 0 {
				continue
			}
			b := waiting(t, kind, 5, 6, 7)
			for at := range fieldsSize(kind) {
				b.answers(reply(kind, status, turned(zeros(fieldsSize(kind)), at, 1)), api.Step{}, api.ErrClientReply)
			}
			b.ends()
		}
	}
}

// The Prove has the reply's nonce, and the chunk's bytes at its places, in their order, whatever they are.
func Test15_3NoncesAndPlaces(t *testing.T) {
	chunk, _ := chunkAndWrapped(99, 59, 3)
	for _, nonce := range []int{0, 1, 5, 255, 256, 65536, 1 << 24, 1<<31 - 1, 1 << 31, 4294967295} {
		for _, places := range []string{somePlaces, zeros(8), strings.Repeat("\xff", 8), "\x08\x07\x06\x05\x04\x03\x02\x01", "\x01\x01\x02\x02\xff\xff\x00\x00", plainOf(5)[:8], plainOf(6)[:8]} {
			sample := ""
			for _, place := range []byte(places) {
				sample += chunk[place : int(place)+1]
			}
			b := waiting(t, 8, 99, 59, 3)
			b.answers(challenge(nonce, places), api.Step{Status: api.Challenge, Frame: prove(nonce, sample)}, api.OK)
			b.ends()
		}
	}
}

// Each place of a chunk can be asked for.
func Test15_3EachPlaceOfAChunk(t *testing.T) {
	chunk, _ := chunkAndWrapped(1, 2, 3)
	for from := 0; from < 256; from += 8 {
		places := ""
		for i := range 8 {
			places += number(from+i, 1)
		}
		b := waiting(t, 8, 1, 2, 3)
		b.answers(challenge(1, places), api.Step{Status: api.Challenge, Frame: prove(1, chunk[from:from+8])}, api.OK)
	}
}

// Behind a challenge: Need and Unmapped ask for an upload, which each status of its own ends.
func Test15_3BehindTheProve(t *testing.T) {
	chunk, wrapped := chunkAndWrapped(98, 1, 5)
	for _, first := range []api.Status{api.Need, api.Unmapped} {
		for status := range api.Status(14) {
			b := waiting(t, 9, 98, 1, 5)
			b.answers(bare(9, first), api.Step{Status: first, Frame: upload(98, 1, wrapped, chunk)}, api.OK)
			b.answers(bare(9, first), api.Step{}, api.ErrClientReply)
			if status == 1 || status == 2 {
				b.answers(bare(10, status), api.Step{}, api.ErrClientReply)
				b.ends()
				continue
			}
			b.answers(bare(10, status), api.Step{Over: true, Status: status}, api.OK)
			b.ends()
		}
	}
	for _, status := range []api.Status{0, 3, 4, 5, 6, 7, 8, 9, 10, 11, 12} {
		b := waiting(t, 9, 98, 1, 5)
		b.answers(bare(9, status), api.Step{Over: true, Status: status}, api.OK)
		b.answers(bare(9, status), api.Step{}, api.ErrClientIdle)
	}
}

// What was refused, also many times, is as if it had not come.
func Test15_3RefusedRepliesChangeNothing(t *testing.T) {
	for _, kind := range []int{8, 9, 10, 11, 12} {
		b := waiting(t, kind, 5, 6, 7)
		for range 3 {
			b.answers("", api.Step{}, api.ErrClientReply)
			b.answers(bare(0, api.BadFrame), api.Step{}, api.ErrClientReply)
			if kind != 8 {
				b.answers(bare(kind, api.Challenge), api.Step{}, api.ErrClientReply)
			}
			if kind != 9 {
				b.answers(bare(kind, api.Need), api.Step{}, api.ErrClientReply)
			}
			if f, e := b.begins(8, 5, 6, plainOf(7)); f != "" || e != api.ErrClientBusy {
				t.Errorf("kind %d: Write = %x, %d", kind, f, e)
			}
		}
		b.ends()
	}
}

// A status that cannot be is told behind a reply that is none, of an idle client neither.
func Test15_3TheFirstErrorIsTold(t *testing.T) {
	b := begun(t, "domain", "master")
	for _, s := range []string{"", bare(8, api.Done), bare(11, api.Challenge), found(zeros(48), zeros(256))} {
		b.answers(s, api.Step{}, api.ErrClientIdle)
	}
	b.begins(11, 1, 1, "")
	// With a wrong check, what would be lost is no reply, and may come again.
	b.answers(turned(found(zeros(48), zeros(256)), 308, 1), api.Step{}, api.ErrClientReply)
	b.answers(bare(11, api.Challenge), api.Step{}, api.ErrClientReply)
	b.ends()
}

func Test15_3ReadGivesTheBlock(t *testing.T) {
	for n, at := range [][2]int{{1, 0}, {1, 59}, {99, 0}, {99, 59}, {42, 17}} {
		for _, plain := range []string{plainOf(n), zeros(256), strings.Repeat("\xff", 256)} {
			chunk, key := sealed(keyOf("domain"), plain)
			b := waiting(t, 11, at[0], at[1], 0)
			b.answers(found(wrap(keyOf("master"), at[0], at[1], key), chunk), api.Step{Over: true, Status: api.Done, Plain: plain}, api.OK)
			b.ends()
		}
	}
}

// lost reads volume 5, block 6 and takes what is not what was written there: then it waits for nothing.
func lost(t *testing.T, what, wrapped, data string) {
	t.Helper()
	b := waiting(t, 11, 5, 6, 0)
	if s, e := b.takes(found(wrapped, data)); s != (api.Step{}) || e != api.ErrClientLost {
		t.Errorf("%s: %s, %d", what, told(s), e)
	}
	b.answers(found(wrapped, data), api.Step{}, api.ErrClientIdle)
	b.begins(8, 5, 6, plainOf(1))
	b.ends()
}

func Test15_3ReadOfWhatIsAnothers(t *testing.T) {
	chunk, key := sealed(keyOf("domain"), plainOf(1))
	other, otherKey := sealed(keyOf("another"), plainOf(1))
	right := wrap(keyOf("master"), 5, 6, key)
	for volume := range 100 {
		if volume != 5 {
			lost(t, "a key of another volume", wrap(keyOf("master"), volume, 6, key), chunk)
		}
	}
	for block := range 60 {
		if block != 6 {
			lost(t, "a key of another block", wrap(keyOf("master"), 5, block, key), chunk)
		}
	}
	lost(t, "a key of both the other way round", wrap(keyOf("master"), 6, 5, key), chunk)
	lost(t, "a key of another master", wrap(keyOf("another"), 5, 6, key), chunk)
	lost(t, "a key by the domain", wrap(keyOf("domain"), 5, 6, key), chunk)
	lost(t, "of another domain", wrap(keyOf("master"), 5, 6, otherKey), other)
	lost(t, "a chunk of another domain", right, other)
	lost(t, "a key of another domain", wrap(keyOf("master"), 5, 6, otherKey), chunk)
	unlike, _ := sealed(keyOf("domain"), plainOf(2))
	lost(t, "another chunk of the domain", right, unlike)
	lost(t, "the block itself", right, plainOf(1))
	lost(t, "noughts", zeros(48), zeros(256))
	lost(t, "a key of noughts", zeros(48), chunk)
	lost(t, "data of noughts", right, zeros(256))
	// A key that was wrapped rightly, but that is not the block's own, opens nothing.
	strange := keyOf("strange")
	lost(t, "a key that is not the block's", wrap(keyOf("master"), 5, 6, strange), laid(strange, plainOf(1)))
}

func Test15_3ReadOfWhatWasTurned(t *testing.T) {
	chunk, key := sealed(keyOf("domain"), plainOf(1))
	right := wrap(keyOf("master"), 5, 6, key)
	for at := range 256 {
		lost(t, "a byte of the data", right, turned(chunk, at, 1<<(at%8)))
	}
	for at := range 48 {
		for bit := range 8 {
			lost(t, "a byte of the wrapped key", turned(right, at, 1<<bit), chunk)
		}
	}
}

// Fields that are not named are zero or empty: of each step that there is.
func Test15_3FieldsThatAreNotNamed(t *testing.T) {
	for _, kind := range []int{8, 9, 10, 11, 12} {
		for _, r := range rightReplies(kind) {
			b := waiting(t, kind, 5, 6, 7)
			s, e := b.takes(r)
			isRead := kind == 11 && s.Over && s.Status == api.Done
			if e != api.OK || (s.Frame == "") != s.Over || (s.Plain != "") != isRead {
				t.Errorf("kind %d: %s, %d", kind, told(s), e)
			}
		}
	}
}
