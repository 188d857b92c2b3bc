package town

import (
	"strongbox/api"
	"strongbox/play"
)

// The bounds of words that no world has.
const (
	letters   = "abcdefghijklmnopqrstuvwxyz"
	maxName   = 8
	maxShips  = 20
	maxSays   = 8
	shipSigns = "01234"
	saySigns  = "0124x"
)

// row is of the table of lines: what a line looks like, and what does it and tells what came of it.
type row struct {
	form  string
	serve func(l play.Line) string
}

// languageOf is what may be said in a script by a table.
func languageOf(table []row) play.Language {
	g := play.Language{
		Places: []play.Place{
			{Name: "NAME", Signs: letters, Low: 1, High: maxName},
			{Name: "K", Low: 1, High: api.MaxData},
			{Name: "M", Low: 0, High: api.MaxParity},
			{Name: "I", Low: 0, High: api.MaxData + api.MaxParity - 1},
			{Name: "SHIPS", Signs: shipSigns, Low: 1, High: maxShips},
			{Name: "SAYS", Signs: saySigns, Low: 1, High: maxSays},
		},
		Most: api.MaxLines,
	}
	for _, r := range table {
		g.Forms = append(g.Forms, r.form)
	}
	return g
}

// table are all lines that a town's script may have.
func (t *town) table() []row {
	return append(t.ofStore(), t.ofParts()...)
}

// ofStore are those that a world's script has as well; the first one begins.
func (t *town) ofStore() []row {
	return []row{
		{"disk S", func(l play.Line) string { return t.Begin(l.Num("S")) }},
		{"admin add T Q", func(l play.Line) string {
			return t.Ask(play.Admin, api.Request{Kind: api.AskAddTenant, Tenant: l.Num("T"), Quota: l.Num("Q")})
		}},
		{"T vol V", func(l play.Line) string {
			return t.Ask(l.Num("T"), api.Request{Kind: api.AskAddVolume, Volume: l.Num("V")})
		}},
		{"T unvol V", func(l play.Line) string {
			return t.Ask(l.Num("T"), api.Request{Kind: api.AskRemoveVolume, Volume: l.Num("V")})
		}},
		{"T stat", func(l play.Line) string {
			return t.Ask(l.Num("T"), api.Request{Kind: api.AskStat})
		}},
		{"T write V B WORD", func(l play.Line) string {
			return t.Write(l.Num("T"), l.Num("V"), l.Num("B"), l.Text("WORD"))
		}},
		{"T read V B", func(l play.Line) string { return t.Read(l.Num("T"), l.Num("V"), l.Num("B")) }},
		{"T trim V B", func(l play.Line) string { return t.Trim(l.Num("T"), l.Num("V"), l.Num("B")) }},
		{"audit", func(play.Line) string { return t.Audit() }},
		{"totals", func(play.Line) string { return t.Totals() }},
		{"power", func(play.Line) string {
			t.power()
			return "up"
		}},
	}
}

// ofParts are those in which archives, replicas and links have a part.
func (t *town) ofParts() []row {
	return []row{
		{"T save NAME V", func(l play.Line) string { return t.save(l.Text("NAME"), l.Num("T"), l.Num("V")) }},
		{"T more NAME V", func(l play.Line) string { return t.more(l.Text("NAME"), l.Num("T"), l.Num("V")) }},
		{"split NAME K M", func(l play.Line) string { return t.split(l.Text("NAME"), l.Num("K"), l.Num("M")) }},
		{"lose NAME I", func(l play.Line) string { return t.under(l.Text("NAME")).lose(l.Num("I")) }},
		{"T load NAME V", func(l play.Line) string { return t.load(l.Text("NAME"), l.Num("T"), l.Num("V")) }},
		{"note", func(play.Line) string {
			t.shipped = t.shipped.note(t.Disk.Image())
			return "noted"
		}},
		{"ship SHIPS", func(l play.Line) string { return t.shipped.ship(l.Text("SHIPS")) }},
		{"promote", func(play.Line) string { return t.promote() }},
		{"T link", func(l play.Line) string {
			t.talks[l.Num("T")] = t.newTalk(l.Num("T"))
			return "linked"
		}},
		{"T say WORD SAYS", func(l play.Line) string {
			return t.talks[l.Num("T")].say(l.Text("WORD"), l.Text("SAYS"))
		}},
	}
}
