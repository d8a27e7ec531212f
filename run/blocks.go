package run

// ofBlock does a native of Block; as tell answers it.
func (r *Run) ofBlock(selector string, self item, args []item) (outcome, bool) {
	if self.block == nil {
		return failure(wrongKind), true
	}
	switch selector {
	case "numArgs":
		return answer(count(self.block.args())), true
	case "value", "value:", "value:value:":
		return r.start(self.block, args...)
	}
	other := args[0].block
	if other == nil {
		return failure(wrongKind), true
	}
	switch selector {
	case "whileTrue:":
		r.frames = append(r.frames, &loop{test: self.block, body: other})
	case "ensure:":
		r.frames = append(r.frames, &ensured{last: other})
	case "onError:":
		r.frames = append(r.frames, &guarded{rescue: other})
	}
	return r.start(self.block)
}
