package disk

import (
	"strings"
	"testing"
	"unsafe"

	"strongbox/api"
)

// within tells whether a text lies in the memory of another one.
func within(s, whole string) bool {
	at, first := uintptr(unsafe.Pointer(unsafe.StringData(s))), uintptr(unsafe.Pointer(unsafe.StringData(whole)))
	return first <= at && at < first+uintptr(len(whole))
}

func TestR2ATextThatIsHandedInIsNotKept(t *testing.T) {
	whole := strings.Repeat("x", 1024*api.SectorSize)
	image := make([]string, 128)
	for i := range image {
		image[i] = whole[i*256 : i*256+256]
	}
	d, _ := Load(image)
	if d.Write(1, whole[7:263]) != api.OK || d.Flush() != api.OK {
		t.Fatal("no disk")
	}
	for i := range image {
		if s, _ := d.Read(i); s != image[i] || within(s, whole) || within(d.Image()[i], whole) {
			t.Fatalf("sector %d keeps the text that it was cut from", i)
		}
	}
}

func TestWhatLastsIsNotKeptAsAWrite(t *testing.T) {
	d, _ := New(128)
	for range 2 {
		d.Write(1, strings.Repeat("x", 256))
		d.Flush()
		if cap(d.pending) != 0 {
			t.Fatal("a flush keeps the writes")
		}
		d.Write(1, strings.Repeat("x", 256))
		d.Crash([]int{0})
		if cap(d.pending) != 0 {
			t.Fatal("a crash keeps the writes")
		}
	}
}
