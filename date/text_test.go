package date_test

import (
	"fmt"
	"strings"
	"testing"

	"octavo/api"
	"octavo/date"
)

// P7.2: days as texts.

func TestPrint(t *testing.T) {
	for _, r := range []struct {
		day  int
		want string
	}{
		{1, "1900-01-01"}, {9, "1900-01-09"}, {10, "1900-01-10"}, {31, "1900-01-31"}, {32, "1900-02-01"}, {59, "1900-02-28"}, {60, "1900-03-01"}, {at(1900, 9, 30), "1900-09-30"}, {at(1900, 10, 1), "1900-10-01"}, {365, "1900-12-31"}, {366, "1901-01-01"},
		{at(2000, 2, 29), "2000-02-29"}, {at(2024, 11, 11), "2024-11-11"}, {at(2100, 3, 1), "2100-03-01"}, {api.MaxDay - 1, "9999-12-30"}, {api.MaxDay, "9999-12-31"},
	} {
		same(t, date.Print(r.day), r.want, "Print", r.day)
		same(t, asked(date.Parse(r.want)), maybe{r.day, true}, "Parse", r.want)
	}
}

func TestPrintOfManyDays(t *testing.T) {
	for _, day := range someDays() {
		same(t, date.Print(day), calendar(day).Format("2006-01-02"), "Print", day)
	}
}

func TestParseRefuses(t *testing.T) {
	for _, s := range []string{
		// Too short, too long.
		"", "2", "2024", "2024-02", "2024-02-", "2024-02-2", "2024-2-29", "2024-2-9", "24-02-29", "024-02-29", "2024-02-290", "2024-02-029", "2024-002-29", "02024-02-29", "12024-02-29", "10000-01-01", "2024-02-29T", "2024-02-29 00:00", "2024-02-29\x00", "2024-02-29\n", strings.Repeat("2024-02-29", 2), strings.Repeat("0", 10), strings.Repeat("-", 10), strings.Repeat("9", 1<<16),
		// Other signs.
		"2024/02/29", "2024.02.29", "2024 02 29", "2024-02/29", "2024/02-29", "2024_02_29", "2024:02:29", "20240-2-29", "202-402-29", "2024-0229-", "2024-022-9", "20240229--", "2024-02-2x", "2024-0x-29", "x024-02-29", "202a-02-29", "2024-Feb-1", "2024-02-:1", "2024-02-/1", "2024-0:-01", "202:-01-01", "202/-01-01", "2024-1e-01", "0x24-02-29", "2024-02-\xff1", "2024-02-\x001", "2024‐02‐29", "2024–02–29", "2024-02-٣", "٢024-02-29", "2024-0２-1", "202４-02-1", "YYYY-MM-DD",
		// Blanks, and a sign ahead.
		" 2024-02-29", "2024-02-29 ", " 024-02-29", "2024- 2-29", "2024-02- 9", "2024-2 -29", "2024-02-9 ", "202 -02-29", "20 4-02-29", "\t024-02-29", "          ", "+2024-02-29", "-2024-02-29", "+024-02-29", "-024-02-29", "2024-+2-29", "2024--2-29", "2024-02-+9", "2024-02--9", "'2024-02-29", "=2024-02-29",
		// Dates that there are not.
		"2024-00-01", "2024-13-01", "2024-12-00", "2024-12-32", "2024-02-30", "2023-02-29", "1900-02-29", "2100-02-29", "2024-04-31", "2024-06-31", "2024-09-31", "2024-11-31", "2024-99-99", "2024-00-00", "2024-14-00", "9999-12-32", "9999-13-01",
		// Years ahead of 1900.
		"1899-12-31", "1896-02-29", "1800-01-01", "0000-01-01", "0001-01-01", "0024-02-29", "0999-12-31", "1000-01-01",
	} {
		same(t, asked(date.Parse(s)), none, "Parse", s)
	}
}

// TestParseOfNearTexts: each byte at each place of a good text; just those that are its date's are taken.
func TestParseOfNearTexts(t *testing.T) {
	taken := 0
	for _, text := range []string{"2024-02-29", "1900-01-01", "9999-12-31", "2023-11-10"} {
		for i := range len(text) {
			for b := range 256 {
				s := text[:i] + string([]byte{byte(b)}) + text[i+1:]
				want := none
				var y, m, d int
				if n, _ := fmt.Sscanf(s, "%04d-%02d-%02d", &y, &m, &d); n == 3 && fmt.Sprintf("%04d-%02d-%02d", y, m, d) == s {
					if c := ofWords(y, m, d); c.ok && calendar(c.day).Format("2006-01-02") == s {
						want = c
						taken++
					}
				}
				same(t, asked(date.Parse(s)), want, "Parse", s)
			}
		}
	}
	if taken < 60 {
		t.Fatalf("only %d were taken", taken)
	}
}
