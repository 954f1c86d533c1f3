// Package samples tells texts and lists that tests go through: all that there are, up to a size. No layer calls it.
package samples

import "slices"

// Texts tells all texts of at most most bytes out of an alphabet's, the shorter ones first.
func Texts(alphabet string, most int) []string {
	all := []string{""}
	for from, n := 0, 0; n < most; n++ {
		upTo := len(all)
		for ; from < upTo; from++ {
			for i := range len(alphabet) {
				all = append(all, all[from]+alphabet[i:i+1])
			}
		}
	}
	return all
}

// Lists tells all lists of at most most texts out of some, the shorter ones first.
func Lists(of []string, most int) [][]string {
	all := [][]string{nil}
	for from, n := 0, 0; n < most; n++ {
		upTo := len(all)
		for ; from < upTo; from++ {
			for _, text := range of {
				all = append(all, append(slices.Clone(all[from]), text))
			}
		}
	}
	return all
}
