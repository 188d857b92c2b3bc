package wire

import (
	"reflect"
	"strings"
	"testing"

	"strongbox/api"
	"strongbox/pack"
)

// eachField is each field with a part that it may be.
func eachField() map[field]part {
	f := allFields()
	return map[field]part{
		f.tenant:  {number: 8},
		f.quota:   {number: 258},
		f.charge:  {number: 65535},
		f.volume:  {number: 99},
		f.block:   {number: 255},
		f.nonce:   {number: 4294967295},
		f.digest:  {text: strings.Repeat("d", 32)},
		f.wrapped: {text: strings.Repeat("w", 48)},
		f.sample:  {text: strings.Repeat("s", 8)},
		f.data:    {text: strings.Repeat("x", 256)},
		f.places:  {list: []int{9, 8, 7, 6, 5, 4, 3, 255}},
		f.volumes: {list: []int{5, 7, 98}},
	}
}

func TestWaysEachFieldIsATypeOfItsOwn(t *testing.T) {
	types := map[reflect.Type]bool{}
	for f := range eachField() {
		types[reflect.TypeOf(f)] = true
	}
	if len(types) != 12 {
		t.Errorf("the fields have %d types, want 12", len(types))
	}
}

// A field has as many bytes as it says, and takes what it laid down, and nothing behind it.
func TestWaysEachFieldIsLaidDownAndTaken(t *testing.T) {
	for f, p := range eachField() {
		w := pack.NewWriter()
		if !f.lay(w, p) {
			t.Errorf("%T is not laid down", f)
		}
		s, errno := w.Done()
		if len(s) != f.size() || errno != api.OK {
			t.Errorf("%T: %x, %d, want %d bytes", f, s, errno, f.size())
		}
		r := pack.NewReader(s + "more")
		got, isRight := f.take(r)
		if errno, taken := r.Done(); !isRight || !reflect.DeepEqual(got, p) || errno != api.ErrPackMore || taken != f.size() {
			t.Errorf("%T: took %+v, %v, %d bytes", f, got, isRight, taken)
		}
	}
}

func TestWaysAFieldThatMayNotBeIsNotLaidDown(t *testing.T) {
	wrong := part{number: -1, text: "x", list: []int{0}}
	for f := range eachField() {
		w := pack.NewWriter()
		if f.lay(w, wrong) {
			t.Errorf("%T is laid down", f)
		}
		if s, errno := w.Done(); s != "" || errno != api.OK {
			t.Errorf("%T laid down %x, %d", f, s, errno)
		}
	}
}

// Each field has its part in a request or a reply: what is put there comes out again, and nothing else is touched.
func TestWaysEachFieldHasItsPart(t *testing.T) {
	inRequests, inReplies := 0, 0
	for f, p := range eachField() {
		request, was := exchangeInRequest(api.Request{Kind: 7}, f, p)
		if !reflect.DeepEqual(was, part{}) {
			t.Errorf("%T: an empty request had %+v", f, was)
		}
		if request != (api.Request{Kind: 7}) {
			inRequests++
			if back, was := exchangeInRequest(request, f, part{}); back != (api.Request{Kind: 7}) || !reflect.DeepEqual(was, p) {
				t.Errorf("%T: %+v, %+v", f, back, was)
			}
		}
		reply, was := exchangeInReply(api.Reply{Status: 7}, f, p)
		if !reflect.DeepEqual(was, part{}) {
			t.Errorf("%T: an empty reply had %+v", f, was)
		}
		if !isBare(reply) {
			inReplies++
			if back, was := exchangeInReply(reply, f, part{}); !reflect.DeepEqual(back, api.Reply{Status: 7}) || !reflect.DeepEqual(was, p) {
				t.Errorf("%T: %+v, %+v", f, back, was)
			}
		}
	}
	if inRequests != 9 || inReplies != 7 {
		t.Errorf("%d fields have a part in a request, %d in a reply, want 9 and 7", inRequests, inReplies)
	}
}
