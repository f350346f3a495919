package machine

import (
	"culprit/api"
	"culprit/code"
)

// instruction: what is asked of an instruction, and what it does then.
type instruction struct {
	takes int                     // how many values it takes, where its numbers do not say it
	asks  func(*machine, api.Ins) // what else is asked ahead of all that it does, if anything
	steps bool                    // whether it makes a step
	do    func(*machine, api.Ins)
}

// table answers the instructions by their ops.
func table() [code.Pend + 1]instruction {
	return [...]instruction{
		code.Push:   {do: (*machine).push},
		code.Text:   {do: (*machine).text},
		code.Truth:  {do: (*machine).truth},
		code.Local:  {do: (*machine).local},
		code.Fn:     {do: (*machine).close},
		code.Rec:    {do: (*machine).closeOverItself},
		code.Call:   {takes: 2, steps: true, do: (*machine).call},
		code.Tail:   {takes: 2, steps: true, do: (*machine).tail},
		code.Ret:    {takes: 1, do: (*machine).ret},
		code.Jump:   {do: (*machine).jump},
		code.Unless: {takes: 1, steps: true, do: (*machine).unless},
		code.Let:    {takes: 1, do: (*machine).let},
		code.End:    {asks: (*machine).hasRow, do: (*machine).end},
		code.Op:     {steps: true, do: (*machine).operation},
		code.Pair:   {takes: 2, steps: true, do: (*machine).pair},
		code.Part:   {takes: 1, steps: true, do: (*machine).part},
		code.List:   {steps: true, do: (*machine).list},
		code.Cons:   {takes: 2, steps: true, do: (*machine).cons},
		code.Box:    {takes: 1, steps: true, do: (*machine).box},
		code.Get:    {takes: 1, steps: true, do: (*machine).get},
		code.Set:    {takes: 2, steps: true, do: (*machine).set},
		code.Cast:   {takes: 1, asks: (*machine).mayCoerce, do: (*machine).cast},
		code.Pend:   {asks: (*machine).mayCoerce, do: (*machine).pend},
	}
}
