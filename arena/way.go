package arena

import "heddle/api"

// isWay tells whether a layer may be reckoned in a way.
func isWay(p api.Pack, way int) bool {
	if p.Kind == api.LConv {
		return api.WayDirect <= way && way <= api.WayBlock
	}
	return way == 0
}

// mayBeAsked tells whether the layers may be asked for in these ways, of which there are no more than layers: 0 leaves the way open.
func mayBeAsked(packs []api.Pack, ways []int) bool {
	for i, way := range ways {
		if way != 0 && !isWay(packs[i], way) {
			return false
		}
	}
	return true
}

// chosen is each layer's way: the one that is asked for, where the way is left open the direct one.
func chosen(packs []api.Pack, ways []int) []int {
	list := make([]int, len(packs))
	copy(list, ways)
	for i, p := range packs {
		if p.Kind == api.LConv && list[i] == 0 {
			list[i] = api.WayDirect
		}
	}
	return list
}

// mayGo tells whether these may be the ways of a plan for the layers.
func mayGo(packs []api.Pack, ways []int) bool {
	if len(ways) != len(packs) {
		return false
	}
	for i, p := range packs {
		if !isWay(p, ways[i]) {
			return false
		}
	}
	return true
}
