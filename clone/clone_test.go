package clone

import (
	"testing"

	"cardnet/api"
)

func TestCopiesShareNoMemory(t *testing.T) {
	x := api.Expr{Op: api.XNot, Args: []api.Expr{{Op: api.XName, Name: "a"}}}
	rules, fees := Rules([]api.Rule{{When: x}}), FeeRules([]api.FeeRule{{When: x}})
	m := api.Message{Elements: []api.Element{{Number: 2}}}
	reasons := []api.Reason{{Claim: []string{"a"}, Defence: []string{"b"}}}
	entries := []api.Entry{{Postings: []api.Posting{{Account: "a"}}}}
	n, r, e := Message(m), Reasons(reasons), Entries(entries)
	x.Args[0].Name, m.Elements[0].Number, reasons[0].Claim[0], reasons[0].Defence[0], entries[0].Postings[0].Account = "b", 3, "c", "d", "z"
	if rules[0].When.Args[0].Name != "a" || fees[0].When.Args[0].Name != "a" || n.Elements[0].Number != 2 || r[0].Claim[0] != "a" || r[0].Defence[0] != "b" || e[0].Postings[0].Account != "a" {
		t.Error(rules, fees, n, r, e)
	}
}
