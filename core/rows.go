package core

import "culprit/api"

// row of the table of kinds: how many kids a node has, and what tells its type: it asks what stands ahead of the kids, has them told in order, and asks what stands behind them.
type row struct {
	kids  int
	typed func(c *checker, at int) string
}

// many: as many kids as the node itself says.
const many = -1

func (r row) takes(kids int) bool {
	if r.kids == many {
		return kids >= 0
	}
	return kids == r.kids
}

func rows() map[int8]row {
	return map[int8]row{
		api.Num:    {0, (*checker).number},
		api.Str:    {0, (*checker).text},
		api.Truth:  {0, (*checker).truth},
		api.Var:    {0, (*checker).variable},
		api.Fn:     {1, (*checker).function},
		api.Rec:    {1, (*checker).recursive},
		api.Call:   {2, (*checker).call},
		api.Let:    {2, (*checker).let},
		api.If:     {3, (*checker).choice},
		api.Add:    {2, (*checker).reckoning},
		api.Sub:    {2, (*checker).reckoning},
		api.Mul:    {2, (*checker).reckoning},
		api.Join:   {2, (*checker).join},
		api.Eq:     {2, (*checker).comparison},
		api.Less:   {2, (*checker).comparison},
		api.Neg:    {1, (*checker).reckoning},
		api.Size:   {1, (*checker).size},
		api.Pair:   {2, (*checker).pair},
		api.First:  {1, (*checker).first},
		api.Second: {1, (*checker).second},
		api.List:   {many, (*checker).list},
		api.Head:   {1, (*checker).head},
		api.Tail:   {1, (*checker).tail},
		api.Empty:  {1, (*checker).empty},
		api.Cons:   {2, (*checker).cons},
		api.Box:    {1, (*checker).box},
		api.Get:    {1, (*checker).get},
		api.Set:    {2, (*checker).set},
		api.Cast:   {1, (*checker).cast},
	}
}
