package world_test

import "testing"

func TestW3Example(t *testing.T) {
	plays(t, `
disk 128             | sectors 128 data 85
admin add 1 10       | done
1 vol 5              | done
1 write 5 0 hello    | done uploaded
1 write 5 1 hello    | done proved
1 read 5 1           | done hello
totals               | chunks 1 pages 2 mapped 2 charged 4 promised 10 capacity 83
acts                 | acts 152
arm 18 1             | ok
1 trim 5 0           | died 1
1 read 5 0           | done hello
arm 19 1             | ok
1 trim 5 0           | died 1
1 read 5 0           | unmapped
audit                | findings 0
`)
}
