package pairs

import "shelf/api"

// Entries is what an index says of symbols that are numbered by their members, once these have places.
func Entries(symbols List[string, int], at []int) []api.Entry {
	entries := make([]api.Entry, len(symbols))
	for i, symbol := range symbols {
		entries[i] = api.Entry{Name: symbol.Left, At: at[symbol.Right]}
	}
	return entries
}
