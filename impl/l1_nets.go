package impl

import "slices"

// MaxNodes is the maximum number of nodes of a net, MaxPipes that of pipes, MaxHold the greatest amount that a pipe may hold, MaxCost the greatest cost, without its sign, and MaxFlow the greatest amount of a flow.
const (
	MaxNodes = 5
	MaxPipes = 7
	MaxHold  = 4
	MaxCost  = 9
	MaxFlow  = 40
)

// Pipe leads from one node to another one (From, To), may hold at least and at most so much (Least, Most), and has a cost (Cost); nodes are numbers, from 0 on.
type Pipe struct {
	From  int
	To    int
	Least int
	Most  int
	Cost  int
}

// Net has so many nodes (Nodes), and pipes (Pipes).
type Net struct {
	Nodes int
	Pipes []Pipe
}

// NetOk reports whether a net has 2..MaxNodes nodes, and at most MaxPipes pipes, each with two different nodes in 0..Nodes less 1, with 0 <= Least <= Most <= MaxHold, and Cost in -MaxCost..MaxCost.
func NetOk(net Net) bool {
	if !within(net.Nodes, 2, MaxNodes) || len(net.Pipes) > MaxPipes {
		return false
	}
	for _, p := range net.Pipes {
		if !pipeOk(net.Nodes, p) {
			return false
		}
	}
	return true
}

// FlowOk reports whether a flow has an amount for each pipe of a net (NetOk), each in 0..MaxFlow.
func FlowOk(net Net, flow []int) bool {
	return NetOk(net) && rowOk(flow, len(net.Pipes), 0, MaxFlow)
}

// ExcessAt returns the amounts of a flow (FlowOk) in all pipes to a node of the net, less those in all pipes from it, and true; 0 and false for others.
func ExcessAt(net Net, flow []int, node int) (int, bool) {
	if !FlowOk(net, flow) || !nodeOk(net.Nodes, node) {
		return 0, false
	}
	return excessOf(net.Pipes, flow, node), true
}

// BalancedOk reports whether no node has an excess in a flow (FlowOk, ExcessAt); false for others.
func BalancedOk(net Net, flow []int) bool {
	if !FlowOk(net, flow) {
		return false
	}
	for node := range net.Nodes {
		if excessOf(net.Pipes, flow, node) != 0 {
			return false
		}
	}
	return true
}

// HoldsOk reports whether in a flow (FlowOk) each pipe has an amount of at least Least and at most Most; false for others.
func HoldsOk(net Net, flow []int) bool {
	if !FlowOk(net, flow) {
		return false
	}
	for at, p := range net.Pipes {
		if !within(flow[at], p.Least, p.Most) {
			return false
		}
	}
	return true
}

// BothFlows returns the sums of the amounts of two flows (FlowOk), pipe by pipe, and true; nil and false if that is none (FlowOk), and for others.
func BothFlows(net Net, a []int, b []int) ([]int, bool) {
	if !FlowOk(net, a) || !FlowOk(net, b) {
		return nil, false
	}
	sums := joinedRows(a, b, func(x, y int) int { return x + y })
	if !FlowOk(net, sums) {
		return nil, false
	}
	return sums, true
}

// TurnedNet returns a net (NetOk) with From and To of each pipe exchanged; the zero value for others.
func TurnedNet(net Net) Net {
	if !NetOk(net) {
		return Net{}
	}
	return remade(net, func(_ int, p Pipe) Pipe {
		p.From, p.To = p.To, p.From
		return p
	})
}

func within(n, least, most int) bool {
	return least <= n && n <= most
}

func rowOk(row []int, count, least, most int) bool {
	return len(row) == count && !slices.ContainsFunc(row, func(n int) bool { return !within(n, least, most) })
}

// nodeOk takes only the number of nodes, as a pipe is checked before its net is known to be one.
func nodeOk(nodes, node int) bool {
	return within(node, 0, nodes-1)
}

func pipeOk(nodes int, p Pipe) bool {
	return nodeOk(nodes, p.From) && nodeOk(nodes, p.To) && p.From != p.To &&
		0 <= p.Least && p.Least <= p.Most && p.Most <= MaxHold &&
		within(p.Cost, -MaxCost, MaxCost)
}

// excessOf trusts its arguments: whoever asks for many nodes has checked the flow once.
func excessOf(pipes []Pipe, flow []int, node int) int {
	return sumOver(pipes, func(at int, p Pipe) int {
		switch node {
		case p.To:
			return flow[at]
		case p.From:
			return -flow[at]
		}
		return 0
	})
}

func sumOver(pipes []Pipe, amount func(at int, p Pipe) int) int {
	sum := 0
	for at, p := range pipes {
		sum += amount(at, p)
	}
	return sum
}

func remade(net Net, remake func(at int, p Pipe) Pipe) Net {
	other := Net{Nodes: net.Nodes, Pipes: make([]Pipe, len(net.Pipes))}
	for at, p := range net.Pipes {
		other.Pipes[at] = remake(at, p)
	}
	return other
}

// joinedRows expects rows of the same length.
func joinedRows[T any](a, b []T, join func(x, y T) T) []T {
	joined := make([]T, len(a))
	for i := range joined {
		joined[i] = join(a[i], b[i])
	}
	return joined
}
