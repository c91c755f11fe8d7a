package schema

import "souk/api"

// newest is the last one of the versions, which begin with 1.
const newest = 3

// events are the kinds of events: what each is called, the letters of its
// numbers' classes in each version (none where there is no such kind: each one
// has a number), and whether it has a name.
var events = [...]struct {
	name   string
	fields [newest]string
	text   bool
}{
	api.Opened:      {"opened", [newest]string{"a", "a", "a"}, true},
	api.Closed:      {"closed", [newest]string{"a", "a", "a"}, false},
	api.Listed:      {"listed", [newest]string{"i", "ik", "ik"}, true},
	api.Halted:      {"halted", [newest]string{"i", "i", "i"}, false},
	api.Resumed:     {"resumed", [newest]string{"i", "i", "i"}, false},
	api.Deposited:   {"deposited", [newest]string{"am", "am", "am"}, false},
	api.Withdrawn:   {"withdrawn", [newest]string{"am", "am", "am"}, false},
	api.Issued:      {"issued", [newest]string{"aiq", "aiq", "aiq"}, false},
	api.Redeemed:    {"redeemed", [newest]string{"aiq", "aiq", "aiq"}, false},
	api.FeeSet:      {"fee set", [newest]string{"b", "b", "b"}, false},
	api.Placed:      {"placed", [newest]string{"oaispq", "oaispq", "oaispq"}, false},
	api.Cancelled:   {"cancelled", [newest]string{"o", "o", "o"}, false},
	api.Traded:      {"traded", [newest]string{"oopq", "oopqz", "oopqz"}, false},
	api.English:     {"english", [newest]string{"caiqmt", "caiqmmt", "caiqmmt"}, false},
	api.Raised:      {"raised", [newest]string{"cam", "cam", "cam"}, false},
	api.Sealed:      {"sealed", [newest]string{"caiqmt", "caiqmt", "caiqmt"}, false},
	api.BidTaken:    {"bid", [newest]string{"cam", "cam", "cam"}, false},
	api.Sold:        {"sold", [newest]string{"cam", "camz", "camz"}, false},
	api.Unsold:      {"unsold", [newest]string{"c", "c", "c"}, false},
	api.Moved:       {"moved", [newest]string{"t", "t", "t"}, false},
	api.Transferred: {"transferred", [newest]string{"", "aam", "aam"}, false},
	api.Renamed:     {"renamed", [newest]string{"", "", "a"}, true},
	api.Ticked:      {"ticked", [newest]string{"", "", "ik"}, false},
}

// bounds are the least and the greatest number of each class, from a version
// on, up to the one from which another row of the class holds. (No kind of
// version 1 has a tick: its limit is the one that the document does not divide.)
var bounds = [...]struct {
	class     Class
	since     uint8
	low, high int64
}{
	{Acct, 1, 1, api.MaxAccts},
	{Inst, 1, 1, api.MaxInsts},
	{Order, 1, 1, api.MaxCount},
	{Auction, 1, 1, api.MaxCount},
	{Money, 1, 1, api.MaxAmount / 100},
	{Money, 2, 1, api.MaxAmount},
	{Some, 1, 0, api.MaxAmount / 100},
	{Some, 2, 0, api.MaxAmount},
	{Price, 1, 1, api.MaxPrice / 100},
	{Price, 2, 1, api.MaxPrice},
	{Tick, 1, 1, api.MaxPrice},
	{Qty, 1, 1, api.MaxQty},
	{Side, 1, 0, 1},
	{Side, 3, 1, 2},
	{Part, 1, 0, 10},
	{Part, 2, 0, 1000},
	{Time, 1, 1, api.MaxClock / 10},
	{Time, 3, 1, api.MaxClock},
}

// commands are the kinds of commands: what each is called, the letters of its
// numbers' classes, and whether it asks a name.
var commands = [...]struct {
	word, fields string
	text         bool
}{
	api.COpen:     {"open", "", true},
	api.CClose:    {"close", "a", false},
	api.CList:     {"list", "k", true},
	api.CHalt:     {"halt", "i", false},
	api.CResume:   {"resume", "i", false},
	api.CDeposit:  {"deposit", "am", false},
	api.CWithdraw: {"withdraw", "am", false},
	api.CIssue:    {"issue", "aiq", false},
	api.CRedeem:   {"redeem", "aiq", false},
	api.CFee:      {"fee", "b", false},
	api.CPlace:    {"place", "aispq", false},
	api.CCancel:   {"cancel", "ao", false},
	api.CEnglish:  {"english", "aiqmmt", false},
	api.CRaise:    {"raise", "acm", false},
	api.CSealed:   {"sealed", "aiqmt", false},
	api.CBid:      {"bid", "acm", false},
	api.CMove:     {"move", "t", false},
	api.CTransfer: {"transfer", "aam", false},
	api.CRename:   {"rename", "a", true},
	api.CTick:     {"tick", "ik", false},
}
