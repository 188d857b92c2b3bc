package play

import (
	"strconv"
	"strings"

	"strongbox/api"
)

// statusWords are the words for what became of a request.
var statusWords = [...]string{
	api.Done:       "done",
	api.Challenge:  "challenge",
	api.Need:       "need",
	api.BadFrame:   "badframe",
	api.NotAllowed: "notallowed",
	api.NoTenant:   "notenant",
	api.Exists:     "exists",
	api.NoRoom:     "noroom",
	api.NotEmpty:   "notempty",
	api.NoVolume:   "novolume",
	api.TooMany:    "toomany",
	api.OutOfRange: "outofrange",
	api.OverQuota:  "overquota",
	api.Unmapped:   "unmapped",
}

// Status is the word for what became of a request.
func Status(s api.Status) string { return statusWords[s] }

// outcome is what is told of a request of a kind that was answered so. (Of a Read Data is the block, not the chunk.)
func outcome(kind int, r api.Reply) string {
	told := Status(r.Status)
	if r.Status != api.Done {
		return told
	}
	more := ""
	switch kind {
	case api.AskTenant:
		more = " volumes " + listText(r.Volumes)
		// Ahead of its volumes stands what a tenant's Stat tells.
		fallthrough
	case api.AskStat:
		more = " quota " + strconv.Itoa(r.Quota) + " charge " + strconv.Itoa(r.Charge) + more
	case api.AskVolumes:
		more = " " + listText(r.Volumes)
	case api.AskProve:
		more = " proved"
	case api.AskUpload:
		more = " uploaded"
	case api.AskRead:
		more = " " + wordText(r.Data)
	}
	return told + more
}

// listText is numbers with commas between, as they come.
func listText(numbers []int) string {
	texts := make([]string, len(numbers))
	for i, n := range numbers {
		texts[i] = strconv.Itoa(n)
	}
	return List(texts)
}

// List is texts with commas between, as they come.
func List(texts []string) string {
	if len(texts) == 0 {
		return "-"
	}
	return strings.Join(texts, ",")
}

// wordText is the word that a block is, ahead of the noughts at its end.
func wordText(block string) string {
	word := strings.TrimRight(block, "\x00")
	if !isWord(word) {
		return "?"
	}
	return word
}

// totalsText is what is told of totals.
func totalsText(t api.Totals) string {
	return "chunks " + strconv.Itoa(t.Chunks) +
		" pages " + strconv.Itoa(t.Pages) +
		" mapped " + strconv.Itoa(t.Mapped) +
		" charged " + strconv.Itoa(t.Charged) +
		" promised " + strconv.Itoa(t.Promised) +
		" capacity " + strconv.Itoa(t.Capacity)
}
