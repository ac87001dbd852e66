import PyProof.Rows.All
import Wide.All
import OpenK.AllK
import Wide.FinOn
import HandS.RaiseMore
import HandS.TupMul
import HandS.ForMost
import HandS.Style
import KE.KRevSl
import KE.KEqSeq
import HandS.Wide
import HandS.WideBits
import HandS.IsInst
import HandS.Codes
import HandS.More
import HandS.CallLocal
import HandS.TupAny
import HandS.Zip
import HandS.ForExc
import HandS.ExcIs
import HandS.Deep
import HandS.TryOnly
import KE.KStateDown
import HandS.ForExc
import HandS.Defaults
import HandS.Head0
import HandS.Head1
import HandS.Head2
import HandS.HeadEnd
import HandS.HeadHook1
import HandS.HeadHook2
import HandS.HeadHook3
import HandS.HeadHook4
import PySem.Challenge.RW_chainparts_k19_nearest_of_fractions
set_option Elab.async false
set_option linter.all false
set_option maxRecDepth 100000
set_option maxHeartbeats 4000000
namespace Cp
open PySem L2
def topS (i : Nat) : Stmt := PySem.Challenge.pw_chainparts_k19_nearest_of_fractions.main.body.getD i (.Pass ⟨0, 0, 0, 0⟩)
abbrev s_wall : Stmt := topS 0
theorem sc_wall : FnScope ["k"] ["k"] (defScope s_wall) := ⟨rfl, rfl, rfl, by decide +kernel, rfl, by decide +kernel, by decide +kernel⟩
abbrev s_root_below : Stmt := topS 6
theorem sc_root_below : FnScope ["number", "guess", "better"] ["number"] (defScope s_root_below) := ⟨rfl, rfl, rfl, by decide +kernel, rfl, by decide +kernel, by decide +kernel⟩
abbrev s_Meter_init : Stmt := inClass (topS 10) 0
theorem sc_Meter_init : FnScope ["self"] ["self"] (defScope s_Meter_init) := ⟨rfl, rfl, rfl, by decide +kernel, rfl, by decide +kernel, by decide +kernel⟩
abbrev s_Meter_allow : Stmt := inClass (topS 10) 1
theorem sc_Meter_allow : FnScope ["self", "most"] ["self", "most"] (defScope s_Meter_allow) := ⟨rfl, rfl, rfl, by decide +kernel, rfl, by decide +kernel, by decide +kernel⟩
abbrev s_Meter_pay : Stmt := inClass (topS 10) 2
theorem sc_Meter_pay : FnScope ["self"] ["self"] (defScope s_Meter_pay) := ⟨rfl, rfl, rfl, by decide +kernel, rfl, by decide +kernel, by decide +kernel⟩
abbrev s_FractionChain_init : Stmt := inClass (topS 11) 0
theorem sc_FractionChain_init : FnScope ["self", "top", "below"] ["self", "top", "below"] (defScope s_FractionChain_init) := ⟨rfl, rfl, rfl, by decide +kernel, rfl, by decide +kernel, by decide +kernel⟩
abbrev s_FractionChain_has_ended : Stmt := inClass (topS 11) 1
theorem sc_FractionChain_has_ended : FnScope ["self"] ["self"] (defScope s_FractionChain_has_ended) := ⟨rfl, rfl, rfl, by decide +kernel, rfl, by decide +kernel, by decide +kernel⟩
abbrev s_FractionChain_next_part : Stmt := inClass (topS 11) 2
theorem sc_FractionChain_next_part : FnScope ["self", "part"] ["self"] (defScope s_FractionChain_next_part) := ⟨rfl, rfl, rfl, by decide +kernel, rfl, by decide +kernel, by decide +kernel⟩
abbrev s_RootChain_init : Stmt := inClass (topS 12) 0
theorem sc_RootChain_init : FnScope ["self", "top", "square", "below", "wide"] ["self", "top", "square", "below"] (defScope s_RootChain_init) := ⟨rfl, rfl, rfl, by decide +kernel, rfl, by decide +kernel, by decide +kernel⟩
abbrev s_RootChain_has_ended : Stmt := inClass (topS 12) 1
theorem sc_RootChain_has_ended : FnScope ["self"] ["self"] (defScope s_RootChain_has_ended) := ⟨rfl, rfl, rfl, by decide +kernel, rfl, by decide +kernel, by decide +kernel⟩
abbrev s_RootChain_next_part : Stmt := inClass (topS 12) 2
theorem sc_RootChain_next_part : FnScope ["self", "upward", "part"] ["self"] (defScope s_RootChain_next_part) := ⟨rfl, rfl, rfl, by decide +kernel, rfl, by decide +kernel, by decide +kernel⟩
abbrev s_RootChain_what_is_left : Stmt := inClass (topS 12) 3
theorem sc_RootChain_what_is_left : FnScope ["self"] ["self"] (defScope s_RootChain_what_is_left) := ⟨rfl, rfl, rfl, by decide +kernel, rfl, by decide +kernel, by decide +kernel⟩
abbrev s_RuledChain_init : Stmt := inClass (topS 13) 0
theorem sc_RuledChain_init : FnScope ["self", "parts", "ring", "steps"] ["self", "parts", "ring", "steps"] (defScope s_RuledChain_init) := ⟨rfl, rfl, rfl, by decide +kernel, rfl, by decide +kernel, by decide +kernel⟩
abbrev s_RuledChain_has_ended : Stmt := inClass (topS 13) 1
theorem sc_RuledChain_has_ended : FnScope ["self"] ["self"] (defScope s_RuledChain_has_ended) := ⟨rfl, rfl, rfl, by decide +kernel, rfl, by decide +kernel, by decide +kernel⟩
abbrev s_RuledChain_next_part : Stmt := inClass (topS 13) 2
theorem sc_RuledChain_next_part : FnScope ["self", "at", "turn", "place"] ["self"] (defScope s_RuledChain_next_part) := ⟨rfl, rfl, rfl, by decide +kernel, rfl, by decide +kernel, by decide +kernel⟩
abbrev s_Leaf_init : Stmt := inClass (topS 14) 0
theorem sc_Leaf_init : FnScope ["self", "chain"] ["self", "chain"] (defScope s_Leaf_init) := ⟨rfl, rfl, rfl, by decide +kernel, rfl, by decide +kernel, by decide +kernel⟩
abbrev s_Leaf_ask : Stmt := inClass (topS 14) 1
theorem sc_Leaf_ask : FnScope ["self", "meter"] ["self", "meter"] (defScope s_Leaf_ask) := ⟨rfl, rfl, rfl, by decide +kernel, rfl, by decide +kernel, by decide +kernel⟩
abbrev s_leaf_of : Stmt := topS 15
theorem sc_leaf_of : FnScope ["tree"] ["tree"] (defScope s_leaf_of) := ⟨rfl, rfl, rfl, by decide +kernel, rfl, by decide +kernel, by decide +kernel⟩
abbrev s_root_chain : Stmt := topS 16
theorem sc_root_chain : FnScope ["top", "square", "below", "root"] ["top", "square", "below"] (defScope s_root_chain) := ⟨rfl, rfl, rfl, by decide +kernel, rfl, by decide +kernel, by decide +kernel⟩
abbrev s_FractionBox_init : Stmt := inClass (topS 18) 0
theorem sc_FractionBox_init : FnScope ["self", "top", "below", "told"] ["self", "top", "below", "told"] (defScope s_FractionBox_init) := ⟨rfl, rfl, rfl, by decide +kernel, rfl, by decide +kernel, by decide +kernel⟩
abbrev s_FractionBox_ask : Stmt := inClass (topS 18) 1
theorem sc_FractionBox_ask : FnScope ["self", "meter", "part"] ["self", "meter"] (defScope s_FractionBox_ask) := ⟨rfl, rfl, rfl, by decide +kernel, rfl, by decide +kernel, by decide +kernel⟩
abbrev s_FractionBox_nothing_left : Stmt := inClass (topS 18) 2
theorem sc_FractionBox_nothing_left : FnScope ["self"] ["self"] (defScope s_FractionBox_nothing_left) := ⟨rfl, rfl, rfl, by decide +kernel, rfl, by decide +kernel, by decide +kernel⟩
abbrev s_FourBox_init : Stmt := inClass (topS 19) 0
theorem sc_FourBox_init : FnScope ["self", "numbers", "tree", "started", "told"] ["self", "numbers", "tree", "started", "told"] (defScope s_FourBox_init) := ⟨rfl, rfl, rfl, by decide +kernel, rfl, by decide +kernel, by decide +kernel⟩
abbrev s_FourBox_ask : Stmt := inClass (topS 19) 1
theorem sc_FourBox_ask : FnScope ["self", "meter", "part", "answer"] ["self", "meter"] (defScope s_FourBox_ask) := ⟨rfl, rfl, rfl, by decide +kernel, rfl, by decide +kernel, by decide +kernel⟩
abbrev s_FourBox_tell : Stmt := inClass (topS 19) 2
theorem sc_FourBox_tell : FnScope ["self", "part"] ["self", "part"] (defScope s_FourBox_tell) := ⟨rfl, rfl, rfl, by decide +kernel, rfl, by decide +kernel, by decide +kernel⟩
abbrev s_FourBox_take : Stmt := inClass (topS 19) 3
theorem sc_FourBox_take : FnScope ["self", "answer", "a", "b", "c", "d", "part"] ["self", "answer"] (defScope s_FourBox_take) := ⟨rfl, rfl, rfl, by decide +kernel, rfl, by decide +kernel, by decide +kernel⟩
abbrev s_EightBox_init : Stmt := inClass (topS 20) 0
theorem sc_EightBox_init : FnScope ["self", "numbers", "one", "other"] ["self", "numbers", "one", "other"] (defScope s_EightBox_init) := ⟨rfl, rfl, rfl, by decide +kernel, rfl, by decide +kernel, by decide +kernel⟩
abbrev s_EightBox_ask : Stmt := inClass (topS 20) 1
theorem sc_EightBox_ask : FnScope ["self", "meter", "part", "which", "answer"] ["self", "meter"] (defScope s_EightBox_ask) := ⟨rfl, rfl, rfl, by decide +kernel, rfl, by decide +kernel, by decide +kernel⟩
abbrev s_EightBox_tell : Stmt := inClass (topS 20) 2
theorem sc_EightBox_tell : FnScope ["self", "part"] ["self", "part"] (defScope s_EightBox_tell) := ⟨rfl, rfl, rfl, by decide +kernel, rfl, by decide +kernel, by decide +kernel⟩
abbrev s_EightBox_take : Stmt := inClass (topS 20) 3
theorem sc_EightBox_take : FnScope ["self", "which", "answer"] ["self", "which", "answer"] (defScope s_EightBox_take) := ⟨rfl, rfl, rfl, by decide +kernel, rfl, by decide +kernel, by decide +kernel⟩
abbrev s_EightBox_left_without : Stmt := inClass (topS 20) 4
theorem sc_EightBox_left_without : FnScope ["self", "which", "a", "b", "c", "d", "e", "f", "g", "h"] ["self", "which"] (defScope s_EightBox_left_without) := ⟨rfl, rfl, rfl, by decide +kernel, rfl, by decide +kernel, by decide +kernel⟩
abbrev s_box_of_one : Stmt := topS 21
theorem sc_box_of_one : FnScope ["numbers", "tree", "told", "a", "b", "c", "d"] ["numbers", "tree", "told"] (defScope s_box_of_one) := ⟨rfl, rfl, rfl, by decide +kernel, rfl, by decide +kernel, by decide +kernel⟩
abbrev s_with_first_part : Stmt := topS 22
theorem sc_with_first_part : FnScope ["numbers", "part", "a", "b", "c", "d", "e", "f", "g", "h"] ["numbers", "part"] (defScope s_with_first_part) := ⟨rfl, rfl, rfl, by decide +kernel, rfl, by decide +kernel, by decide +kernel⟩
abbrev s_with_second_part : Stmt := topS 23
theorem sc_with_second_part : FnScope ["numbers", "part", "a", "b", "c", "d", "e", "f", "g", "h"] ["numbers", "part"] (defScope s_with_second_part) := ⟨rfl, rfl, rfl, by decide +kernel, rfl, by decide +kernel, by decide +kernel⟩
abbrev s_turned_over : Stmt := topS 24
theorem sc_turned_over : FnScope ["numbers", "part", "half", "above", "below", "left", "top", "under"] ["numbers", "part"] (defScope s_turned_over) := ⟨rfl, rfl, rfl, by decide +kernel, rfl, by decide +kernel, by decide +kernel⟩
abbrev s_four_corners : Stmt := topS 25
theorem sc_four_corners : FnScope ["numbers", "a", "b", "c", "d"] ["numbers"] (defScope s_four_corners) := ⟨rfl, rfl, rfl, by decide +kernel, rfl, by decide +kernel, by decide +kernel⟩
abbrev s_eight_corners : Stmt := topS 26
theorem sc_eight_corners : FnScope ["numbers", "a", "b", "c", "d", "e", "f", "g", "h"] ["numbers"] (defScope s_eight_corners) := ⟨rfl, rfl, rfl, by decide +kernel, rfl, by decide +kernel, by decide +kernel⟩
abbrev s_sure_part : Stmt := topS 27
theorem sc_sure_part : FnScope ["corners", "top", "below", "part"] ["corners"] (defScope s_sure_part) := ⟨rfl, rfl, rfl, by decide +kernel, rfl, by decide +kernel, by decide +kernel⟩
abbrev s_check_tree : Stmt := topS 33
theorem sc_check_tree : FnScope ["tree"] ["tree"] (defScope s_check_tree) := ⟨rfl, rfl, rfl, by decide +kernel, rfl, by decide +kernel, by decide +kernel⟩
abbrev s_check_at_depth : Stmt := topS 34
theorem sc_check_at_depth : FnScope ["tree", "depth", "word", "check"] ["tree", "depth"] (defScope s_check_at_depth) := ⟨rfl, rfl, rfl, by decide +kernel, rfl, by decide +kernel, by decide +kernel⟩
abbrev s_require : Stmt := topS 35
theorem sc_require : FnScope ["holds", "why"] ["holds", "why"] (defScope s_require) := ⟨rfl, rfl, rfl, by decide +kernel, rfl, by decide +kernel, by decide +kernel⟩
abbrev s_check_row : Stmt := topS 36
theorem sc_check_row : FnScope ["row", "fewest", "most", "number"] ["row", "fewest", "most"] (defScope s_check_row) := ⟨rfl, rfl, rfl, by decide +kernel, rfl, by decide +kernel, by decide +kernel⟩
abbrev s_is_whole : Stmt := topS 37
theorem sc_is_whole : FnScope ["number"] ["number"] (defScope s_is_whole) := ⟨rfl, rfl, rfl, by decide +kernel, rfl, by decide +kernel, by decide +kernel⟩
abbrev s_check_fraction : Stmt := topS 38
theorem sc_check_fraction : FnScope ["tree", "depth"] ["tree", "depth"] (defScope s_check_fraction) := ⟨rfl, rfl, rfl, by decide +kernel, rfl, by decide +kernel, by decide +kernel⟩
abbrev s_check_root : Stmt := topS 39
theorem sc_check_root : FnScope ["tree", "depth"] ["tree", "depth"] (defScope s_check_root) := ⟨rfl, rfl, rfl, by decide +kernel, rfl, by decide +kernel, by decide +kernel⟩
abbrev s_check_ruled : Stmt := topS 40
theorem sc_check_ruled : FnScope ["tree", "depth", "parts", "ring", "steps", "part", "step", "ends"] ["tree", "depth"] (defScope s_check_ruled) := ⟨rfl, rfl, rfl, by decide +kernel, rfl, by decide +kernel, by decide +kernel⟩
abbrev s_check_four : Stmt := topS 41
theorem sc_check_four : FnScope ["tree", "depth"] ["tree", "depth"] (defScope s_check_four) := ⟨rfl, rfl, rfl, by decide +kernel, rfl, by decide +kernel, by decide +kernel⟩
abbrev s_check_eight : Stmt := topS 42
theorem sc_check_eight : FnScope ["tree", "depth"] ["tree", "depth"] (defScope s_check_eight) := ⟨rfl, rfl, rfl, by decide +kernel, rfl, by decide +kernel, by decide +kernel⟩
abbrev s_check_line : Stmt := topS 43
theorem sc_check_line : FnScope ["numbers", "half", "above", "below", "crossed", "i", "k"] ["numbers"] (defScope s_check_line) := ⟨rfl, rfl, rfl, by decide +kernel, rfl, by decide +kernel, by decide +kernel⟩
abbrev s_check_power : Stmt := topS 44
theorem sc_check_power : FnScope ["tree", "depth"] ["tree", "depth"] (defScope s_check_power) := ⟨rfl, rfl, rfl, by decide +kernel, rfl, by decide +kernel, by decide +kernel⟩
abbrev s_Reading_init : Stmt := inClass (topS 49) 0
theorem sc_Reading_init : FnScope ["self", "box"] ["self", "box"] (defScope s_Reading_init) := ⟨rfl, rfl, rfl, by decide +kernel, rfl, by decide +kernel, by decide +kernel⟩
abbrev s_Reading_part : Stmt := inClass (topS 49) 1
theorem sc_Reading_part : FnScope ["self", "most"] ["self", "most"] (defScope s_Reading_part) := ⟨rfl, rfl, rfl, by decide +kernel, rfl, by decide +kernel, by decide +kernel⟩
abbrev s_Reading_took : Stmt := inClass (topS 49) 2
theorem sc_Reading_took : FnScope ["self"] ["self"] (defScope s_Reading_took) := ⟨rfl, rfl, rfl, by decide +kernel, rfl, by decide +kernel, by decide +kernel⟩
abbrev s_reader : Stmt := topS 50
theorem sc_reader : FnScope ["tree"] ["tree"] (defScope s_reader) := ⟨rfl, rfl, rfl, by decide +kernel, rfl, by decide +kernel, by decide +kernel⟩
abbrev s_box_of : Stmt := topS 51
theorem sc_box_of : FnScope ["tree", "word"] ["tree"] (defScope s_box_of) := ⟨rfl, rfl, rfl, by decide +kernel, rfl, by decide +kernel, by decide +kernel⟩
abbrev s_power_box : Stmt := topS 52
theorem sc_power_box : FnScope ["tree", "times"] ["tree", "times"] (defScope s_power_box) := ⟨rfl, rfl, rfl, by decide +kernel, rfl, by decide +kernel, by decide +kernel⟩
abbrev s_order_of : Stmt := topS 54
theorem sc_order_of : FnScope ["one", "other", "most", "at", "first", "second"] ["one", "other", "most"] (defScope s_order_of) := ⟨rfl, rfl, rfl, by decide +kernel, rfl, by decide +kernel, by decide +kernel⟩
abbrev s_order_at : Stmt := topS 55
theorem sc_order_at : FnScope ["at", "first", "second", "turned"] ["at", "first", "second"] (defScope s_order_at) := ⟨rfl, rfl, rfl, by decide +kernel, rfl, by decide +kernel, by decide +kernel⟩
abbrev s_is_greater : Stmt := topS 56
theorem sc_is_greater : FnScope ["first", "second"] ["first", "second"] (defScope s_is_greater) := ⟨rfl, rfl, rfl, by decide +kernel, rfl, by decide +kernel, by decide +kernel⟩
abbrev s_nearest : Stmt := topS 58
theorem sc_nearest : FnScope ["tree", "size", "most", "sides", "low", "high", "order"] ["tree", "size", "most"] (defScope s_nearest) := ⟨rfl, rfl, rfl, by decide +kernel, rfl, by decide +kernel, by decide +kernel⟩
abbrev s_read_sides : Stmt := topS 59
theorem sc_read_sides : FnScope ["reading", "size", "most", "before", "last", "answer", "following"] ["reading", "size", "most"] (defScope s_read_sides) := ⟨rfl, rfl, rfl, by decide +kernel, rfl, by decide +kernel, by decide +kernel⟩
abbrev s_stepped : Stmt := topS 60
theorem sc_stepped : FnScope ["before", "last", "times"] ["before", "last", "times"] (defScope s_stepped) := ⟨rfl, rfl, rfl, by decide +kernel, rfl, by decide +kernel, by decide +kernel⟩
abbrev s_sides_within : Stmt := topS 61
theorem sc_sides_within : FnScope ["before", "last", "size", "other"] ["before", "last", "size"] (defScope s_sides_within) := ⟨rfl, rfl, rfl, by decide +kernel, rfl, by decide +kernel, by decide +kernel⟩
abbrev s_middle_reading : Stmt := topS 62
theorem sc_middle_reading : FnScope ["low", "high", "top"] ["low", "high"] (defScope s_middle_reading) := ⟨rfl, rfl, rfl, by decide +kernel, rfl, by decide +kernel, by decide +kernel⟩
abbrev s_nearer_side : Stmt := topS 63
theorem sc_nearer_side : FnScope ["order", "low", "high"] ["order", "low", "high"] (defScope s_nearer_side) := ⟨rfl, rfl, rfl, by decide +kernel, rfl, by decide +kernel, by decide +kernel⟩
abbrev s_law_row : Stmt := topS 65
theorem sc_law_row : FnScope ["_law_script", "_law_mixed", "_law_cell"] ["_law_script"] (defScope s_law_row) := ⟨rfl, rfl, rfl, by decide +kernel, rfl, by decide +kernel, by decide +kernel⟩
abbrev s_law_taken : Stmt := topS 66
theorem sc_law_taken : FnScope ["_law_row_here", "_law_many", "_law_found", "_law_cell"] ["_law_row_here", "_law_many"] (defScope s_law_taken) := ⟨rfl, rfl, rfl, by decide +kernel, rfl, by decide +kernel, by decide +kernel⟩
abbrev s_law_whole : Stmt := topS 67
theorem sc_law_whole : FnScope ["_law_found"] ["_law_found"] (defScope s_law_whole) := ⟨rfl, rfl, rfl, by decide +kernel, rfl, by decide +kernel, by decide +kernel⟩
abbrev s_law_pair : Stmt := topS 68
theorem sc_law_pair : FnScope ["_law_found", "_law_due_here"] ["_law_found", "_law_due_here"] (defScope s_law_pair) := ⟨rfl, rfl, rfl, by decide +kernel, rfl, by decide +kernel, by decide +kernel⟩
abbrev s_law_signed : Stmt := topS 69
theorem sc_law_signed : FnScope ["_law_row_here", "_law_most"] ["_law_row_here", "_law_most"] (defScope s_law_signed) := ⟨rfl, rfl, rfl, by decide +kernel, rfl, by decide +kernel, by decide +kernel⟩
abbrev s_law_common : Stmt := topS 70
theorem sc_law_common : FnScope ["_law_one", "_law_other"] ["_law_one", "_law_other"] (defScope s_law_common) := ⟨rfl, rfl, rfl, by decide +kernel, rfl, by decide +kernel, by decide +kernel⟩
abbrev s_law_lowest : Stmt := topS 71
theorem sc_law_lowest : FnScope ["_law_top", "_law_below", "_law_part"] ["_law_top", "_law_below"] (defScope s_law_lowest) := ⟨rfl, rfl, rfl, by decide +kernel, rfl, by decide +kernel, by decide +kernel⟩
abbrev s_law_nearer : Stmt := topS 72
theorem sc_law_nearer : FnScope ["_law_one", "_law_other", "_law_top", "_law_below", "_law_first", "_law_second"] ["_law_one", "_law_other", "_law_top", "_law_below"] (defScope s_law_nearer) := ⟨rfl, rfl, rfl, by decide +kernel, rfl, by decide +kernel, by decide +kernel⟩
abbrev s_law_due : Stmt := topS 73
theorem sc_law_due : FnScope ["_law_top", "_law_below", "_law_size", "_law_best", "_law_under", "_law_more", "_law_one"] ["_law_top", "_law_below", "_law_size"] (defScope s_law_due) := ⟨rfl, rfl, rfl, by decide +kernel, rfl, by decide +kernel, by decide +kernel⟩
abbrev s_law_chain : Stmt := topS 74
theorem sc_law_chain : FnScope ["_law_top", "_law_below", "_law_found", "_law_part"] ["_law_top", "_law_below"] (defScope s_law_chain) := ⟨rfl, rfl, rfl, by decide +kernel, rfl, by decide +kernel, by decide +kernel⟩
abbrev s_law_first_wants : Stmt := topS 75
theorem sc_law_first_wants : FnScope ["_law_chain_here", "_law_size", "_law_ahead", "_law_last", "_law_k"] ["_law_chain_here", "_law_size"] (defScope s_law_first_wants) := ⟨rfl, rfl, rfl, by decide +kernel, rfl, by decide +kernel, by decide +kernel⟩
abbrev s_law_middle : Stmt := topS 76
theorem sc_law_middle : FnScope ["_law_top", "_law_below", "_law_size", "_law_low", "_law_high", "_law_under", "_law_part"] ["_law_top", "_law_below", "_law_size"] (defScope s_law_middle) := ⟨rfl, rfl, rfl, by decide +kernel, rfl, by decide +kernel, by decide +kernel⟩
abbrev s_law_wants : Stmt := topS 77
theorem sc_law_wants : FnScope ["_law_top", "_law_below", "_law_size", "_law_chain_here", "_law_wants_here", "_law_is_end", "_law_middle_here", "_law_other", "_law_k"] ["_law_top", "_law_below", "_law_size"] (defScope s_law_wants) := ⟨rfl, rfl, rfl, by decide +kernel, rfl, by decide +kernel, by decide +kernel⟩
abbrev s_law : Stmt := topS 78
theorem sc_law : FnScope ["_law_script", "_law_row_here", "_law_wide", "_law_top", "_law_below", "_law_size", "_law_found", "_law_most", "_law_few", "_law_turned"] ["_law_script"] (defScope s_law) := ⟨rfl, rfl, rfl, by decide +kernel, rfl, by decide +kernel, by decide +kernel⟩
/-! ### the head: facts by names, the run -/
def d_wall : He.DefD := ⟨("_wall", none), "_wall", "_wall", defArgs s_wall, defBody s_wall, defScope s_wall, [], []⟩
def d_root_below : He.DefD := ⟨("root_below", none), "root_below", "root_below", defArgs s_root_below, defBody s_root_below, defScope s_root_below, [], []⟩
def d_Meter_init : He.DefD := ⟨("Meter", some "__init__"), "__init__", "Meter.__init__", defArgs s_Meter_init, defBody s_Meter_init, defScope s_Meter_init, [], []⟩
def d_Meter_allow : He.DefD := ⟨("Meter", some "allow"), "allow", "Meter.allow", defArgs s_Meter_allow, defBody s_Meter_allow, defScope s_Meter_allow, [], []⟩
def d_Meter_pay : He.DefD := ⟨("Meter", some "pay"), "pay", "Meter.pay", defArgs s_Meter_pay, defBody s_Meter_pay, defScope s_Meter_pay, [], []⟩
def d_FractionChain_init : He.DefD := ⟨("FractionChain", some "__init__"), "__init__", "FractionChain.__init__", defArgs s_FractionChain_init, defBody s_FractionChain_init, defScope s_FractionChain_init, [], []⟩
def d_FractionChain_has_ended : He.DefD := ⟨("FractionChain", some "has_ended"), "has_ended", "FractionChain.has_ended", defArgs s_FractionChain_has_ended, defBody s_FractionChain_has_ended, defScope s_FractionChain_has_ended, [], []⟩
def d_FractionChain_next_part : He.DefD := ⟨("FractionChain", some "next_part"), "next_part", "FractionChain.next_part", defArgs s_FractionChain_next_part, defBody s_FractionChain_next_part, defScope s_FractionChain_next_part, [], []⟩
def d_RootChain_init : He.DefD := ⟨("RootChain", some "__init__"), "__init__", "RootChain.__init__", defArgs s_RootChain_init, defBody s_RootChain_init, defScope s_RootChain_init, [], []⟩
def d_RootChain_has_ended : He.DefD := ⟨("RootChain", some "has_ended"), "has_ended", "RootChain.has_ended", defArgs s_RootChain_has_ended, defBody s_RootChain_has_ended, defScope s_RootChain_has_ended, [], []⟩
def d_RootChain_next_part : He.DefD := ⟨("RootChain", some "next_part"), "next_part", "RootChain.next_part", defArgs s_RootChain_next_part, defBody s_RootChain_next_part, defScope s_RootChain_next_part, [], []⟩
def d_RootChain_what_is_left : He.DefD := ⟨("RootChain", some "what_is_left"), "what_is_left", "RootChain.what_is_left", defArgs s_RootChain_what_is_left, defBody s_RootChain_what_is_left, defScope s_RootChain_what_is_left, [], []⟩
def d_RuledChain_init : He.DefD := ⟨("RuledChain", some "__init__"), "__init__", "RuledChain.__init__", defArgs s_RuledChain_init, defBody s_RuledChain_init, defScope s_RuledChain_init, [], []⟩
def d_RuledChain_has_ended : He.DefD := ⟨("RuledChain", some "has_ended"), "has_ended", "RuledChain.has_ended", defArgs s_RuledChain_has_ended, defBody s_RuledChain_has_ended, defScope s_RuledChain_has_ended, [], []⟩
def d_RuledChain_next_part : He.DefD := ⟨("RuledChain", some "next_part"), "next_part", "RuledChain.next_part", defArgs s_RuledChain_next_part, defBody s_RuledChain_next_part, defScope s_RuledChain_next_part, [], []⟩
def d_Leaf_init : He.DefD := ⟨("Leaf", some "__init__"), "__init__", "Leaf.__init__", defArgs s_Leaf_init, defBody s_Leaf_init, defScope s_Leaf_init, [], []⟩
def d_Leaf_ask : He.DefD := ⟨("Leaf", some "ask"), "ask", "Leaf.ask", defArgs s_Leaf_ask, defBody s_Leaf_ask, defScope s_Leaf_ask, [], []⟩
def d_leaf_of : He.DefD := ⟨("leaf_of", none), "leaf_of", "leaf_of", defArgs s_leaf_of, defBody s_leaf_of, defScope s_leaf_of, [], []⟩
def d_root_chain : He.DefD := ⟨("root_chain", none), "root_chain", "root_chain", defArgs s_root_chain, defBody s_root_chain, defScope s_root_chain, [], []⟩
def d_FractionBox_init : He.DefD := ⟨("FractionBox", some "__init__"), "__init__", "FractionBox.__init__", defArgs s_FractionBox_init, defBody s_FractionBox_init, defScope s_FractionBox_init, [], []⟩
def d_FractionBox_ask : He.DefD := ⟨("FractionBox", some "ask"), "ask", "FractionBox.ask", defArgs s_FractionBox_ask, defBody s_FractionBox_ask, defScope s_FractionBox_ask, [], []⟩
def d_FractionBox_nothing_left : He.DefD := ⟨("FractionBox", some "nothing_left"), "nothing_left", "FractionBox.nothing_left", defArgs s_FractionBox_nothing_left, defBody s_FractionBox_nothing_left, defScope s_FractionBox_nothing_left, [], []⟩
def d_FourBox_init : He.DefD := ⟨("FourBox", some "__init__"), "__init__", "FourBox.__init__", defArgs s_FourBox_init, defBody s_FourBox_init, defScope s_FourBox_init, [], []⟩
def d_FourBox_ask : He.DefD := ⟨("FourBox", some "ask"), "ask", "FourBox.ask", defArgs s_FourBox_ask, defBody s_FourBox_ask, defScope s_FourBox_ask, [], []⟩
def d_FourBox_tell : He.DefD := ⟨("FourBox", some "tell"), "tell", "FourBox.tell", defArgs s_FourBox_tell, defBody s_FourBox_tell, defScope s_FourBox_tell, [], []⟩
def d_FourBox_take : He.DefD := ⟨("FourBox", some "take"), "take", "FourBox.take", defArgs s_FourBox_take, defBody s_FourBox_take, defScope s_FourBox_take, [], []⟩
def d_EightBox_init : He.DefD := ⟨("EightBox", some "__init__"), "__init__", "EightBox.__init__", defArgs s_EightBox_init, defBody s_EightBox_init, defScope s_EightBox_init, [], []⟩
def d_EightBox_ask : He.DefD := ⟨("EightBox", some "ask"), "ask", "EightBox.ask", defArgs s_EightBox_ask, defBody s_EightBox_ask, defScope s_EightBox_ask, [], []⟩
def d_EightBox_tell : He.DefD := ⟨("EightBox", some "tell"), "tell", "EightBox.tell", defArgs s_EightBox_tell, defBody s_EightBox_tell, defScope s_EightBox_tell, [], []⟩
def d_EightBox_take : He.DefD := ⟨("EightBox", some "take"), "take", "EightBox.take", defArgs s_EightBox_take, defBody s_EightBox_take, defScope s_EightBox_take, [], []⟩
def d_EightBox_left_without : He.DefD := ⟨("EightBox", some "left_without"), "left_without", "EightBox.left_without", defArgs s_EightBox_left_without, defBody s_EightBox_left_without, defScope s_EightBox_left_without, [], []⟩
def d_box_of_one : He.DefD := ⟨("box_of_one", none), "box_of_one", "box_of_one", defArgs s_box_of_one, defBody s_box_of_one, defScope s_box_of_one, [], []⟩
def d_with_first_part : He.DefD := ⟨("with_first_part", none), "with_first_part", "with_first_part", defArgs s_with_first_part, defBody s_with_first_part, defScope s_with_first_part, [], []⟩
def d_with_second_part : He.DefD := ⟨("with_second_part", none), "with_second_part", "with_second_part", defArgs s_with_second_part, defBody s_with_second_part, defScope s_with_second_part, [], []⟩
def d_turned_over : He.DefD := ⟨("turned_over", none), "turned_over", "turned_over", defArgs s_turned_over, defBody s_turned_over, defScope s_turned_over, [], []⟩
def d_four_corners : He.DefD := ⟨("four_corners", none), "four_corners", "four_corners", defArgs s_four_corners, defBody s_four_corners, defScope s_four_corners, [], []⟩
def d_eight_corners : He.DefD := ⟨("eight_corners", none), "eight_corners", "eight_corners", defArgs s_eight_corners, defBody s_eight_corners, defScope s_eight_corners, [], []⟩
def d_sure_part : He.DefD := ⟨("sure_part", none), "sure_part", "sure_part", defArgs s_sure_part, defBody s_sure_part, defScope s_sure_part, [], []⟩
def d_check_tree : He.DefD := ⟨("check_tree", none), "check_tree", "check_tree", defArgs s_check_tree, defBody s_check_tree, defScope s_check_tree, [], []⟩
def d_check_at_depth : He.DefD := ⟨("check_at_depth", none), "check_at_depth", "check_at_depth", defArgs s_check_at_depth, defBody s_check_at_depth, defScope s_check_at_depth, [], []⟩
def d_require : He.DefD := ⟨("require", none), "require", "require", defArgs s_require, defBody s_require, defScope s_require, [], []⟩
def d_check_row : He.DefD := ⟨("check_row", none), "check_row", "check_row", defArgs s_check_row, defBody s_check_row, defScope s_check_row, [], []⟩
def d_is_whole : He.DefD := ⟨("is_whole", none), "is_whole", "is_whole", defArgs s_is_whole, defBody s_is_whole, defScope s_is_whole, [], []⟩
def d_check_fraction : He.DefD := ⟨("check_fraction", none), "check_fraction", "check_fraction", defArgs s_check_fraction, defBody s_check_fraction, defScope s_check_fraction, [], []⟩
def d_check_root : He.DefD := ⟨("check_root", none), "check_root", "check_root", defArgs s_check_root, defBody s_check_root, defScope s_check_root, [], []⟩
def d_check_ruled : He.DefD := ⟨("check_ruled", none), "check_ruled", "check_ruled", defArgs s_check_ruled, defBody s_check_ruled, defScope s_check_ruled, [], []⟩
def d_check_four : He.DefD := ⟨("check_four", none), "check_four", "check_four", defArgs s_check_four, defBody s_check_four, defScope s_check_four, [], []⟩
def d_check_eight : He.DefD := ⟨("check_eight", none), "check_eight", "check_eight", defArgs s_check_eight, defBody s_check_eight, defScope s_check_eight, [], []⟩
def d_check_line : He.DefD := ⟨("check_line", none), "check_line", "check_line", defArgs s_check_line, defBody s_check_line, defScope s_check_line, [], []⟩
def d_check_power : He.DefD := ⟨("check_power", none), "check_power", "check_power", defArgs s_check_power, defBody s_check_power, defScope s_check_power, [], []⟩
def d_Reading_init : He.DefD := ⟨("Reading", some "__init__"), "__init__", "Reading.__init__", defArgs s_Reading_init, defBody s_Reading_init, defScope s_Reading_init, [], []⟩
def d_Reading_part : He.DefD := ⟨("Reading", some "part"), "part", "Reading.part", defArgs s_Reading_part, defBody s_Reading_part, defScope s_Reading_part, [], []⟩
def d_Reading_took : He.DefD := ⟨("Reading", some "took"), "took", "Reading.took", defArgs s_Reading_took, defBody s_Reading_took, defScope s_Reading_took, [], []⟩
def d_reader : He.DefD := ⟨("reader", none), "reader", "reader", defArgs s_reader, defBody s_reader, defScope s_reader, [], []⟩
def d_box_of : He.DefD := ⟨("box_of", none), "box_of", "box_of", defArgs s_box_of, defBody s_box_of, defScope s_box_of, [], []⟩
def d_power_box : He.DefD := ⟨("power_box", none), "power_box", "power_box", defArgs s_power_box, defBody s_power_box, defScope s_power_box, [], []⟩
def d_order_of : He.DefD := ⟨("order_of", none), "order_of", "order_of", defArgs s_order_of, defBody s_order_of, defScope s_order_of, [], []⟩
def d_order_at : He.DefD := ⟨("order_at", none), "order_at", "order_at", defArgs s_order_at, defBody s_order_at, defScope s_order_at, [], []⟩
def d_is_greater : He.DefD := ⟨("is_greater", none), "is_greater", "is_greater", defArgs s_is_greater, defBody s_is_greater, defScope s_is_greater, [], []⟩
def d_nearest : He.DefD := ⟨("nearest", none), "nearest", "nearest", defArgs s_nearest, defBody s_nearest, defScope s_nearest, [], []⟩
def d_read_sides : He.DefD := ⟨("read_sides", none), "read_sides", "read_sides", defArgs s_read_sides, defBody s_read_sides, defScope s_read_sides, [], []⟩
def d_stepped : He.DefD := ⟨("stepped", none), "stepped", "stepped", defArgs s_stepped, defBody s_stepped, defScope s_stepped, [], []⟩
def d_sides_within : He.DefD := ⟨("sides_within", none), "sides_within", "sides_within", defArgs s_sides_within, defBody s_sides_within, defScope s_sides_within, [], []⟩
def d_middle_reading : He.DefD := ⟨("middle_reading", none), "middle_reading", "middle_reading", defArgs s_middle_reading, defBody s_middle_reading, defScope s_middle_reading, [], []⟩
def d_nearer_side : He.DefD := ⟨("nearer_side", none), "nearer_side", "nearer_side", defArgs s_nearer_side, defBody s_nearer_side, defScope s_nearer_side, [], []⟩
def d_law_row : He.DefD := ⟨("_law_row", none), "_law_row", "_law_row", defArgs s_law_row, defBody s_law_row, defScope s_law_row, [], []⟩
def d_law_taken : He.DefD := ⟨("_law_taken", none), "_law_taken", "_law_taken", defArgs s_law_taken, defBody s_law_taken, defScope s_law_taken, [], []⟩
def d_law_whole : He.DefD := ⟨("_law_whole", none), "_law_whole", "_law_whole", defArgs s_law_whole, defBody s_law_whole, defScope s_law_whole, [], []⟩
def d_law_pair : He.DefD := ⟨("_law_pair", none), "_law_pair", "_law_pair", defArgs s_law_pair, defBody s_law_pair, defScope s_law_pair, [], []⟩
def d_law_signed : He.DefD := ⟨("_law_signed", none), "_law_signed", "_law_signed", defArgs s_law_signed, defBody s_law_signed, defScope s_law_signed, [], []⟩
def d_law_common : He.DefD := ⟨("_law_common", none), "_law_common", "_law_common", defArgs s_law_common, defBody s_law_common, defScope s_law_common, [], []⟩
def d_law_lowest : He.DefD := ⟨("_law_lowest", none), "_law_lowest", "_law_lowest", defArgs s_law_lowest, defBody s_law_lowest, defScope s_law_lowest, [], []⟩
def d_law_nearer : He.DefD := ⟨("_law_nearer", none), "_law_nearer", "_law_nearer", defArgs s_law_nearer, defBody s_law_nearer, defScope s_law_nearer, [], []⟩
def d_law_due : He.DefD := ⟨("_law_due", none), "_law_due", "_law_due", defArgs s_law_due, defBody s_law_due, defScope s_law_due, [], []⟩
def d_law_chain : He.DefD := ⟨("_law_chain", none), "_law_chain", "_law_chain", defArgs s_law_chain, defBody s_law_chain, defScope s_law_chain, [], []⟩
def d_law_first_wants : He.DefD := ⟨("_law_first_wants", none), "_law_first_wants", "_law_first_wants", defArgs s_law_first_wants, defBody s_law_first_wants, defScope s_law_first_wants, [], []⟩
def d_law_middle : He.DefD := ⟨("_law_middle", none), "_law_middle", "_law_middle", defArgs s_law_middle, defBody s_law_middle, defScope s_law_middle, [], []⟩
def d_law_wants : He.DefD := ⟨("_law_wants", none), "_law_wants", "_law_wants", defArgs s_law_wants, defBody s_law_wants, defScope s_law_wants, [], []⟩
def d_law : He.DefD := ⟨("law", none), "law", "law", defArgs s_law, defBody s_law, defScope s_law, [], []⟩
def fnL : List He.DefD := ([d_wall, d_root_below, d_Meter_init, d_Meter_allow, d_Meter_pay, d_FractionChain_init, d_FractionChain_has_ended, d_FractionChain_next_part, d_RootChain_init, d_RootChain_has_ended, d_RootChain_next_part, d_RootChain_what_is_left, d_RuledChain_init, d_RuledChain_has_ended, d_RuledChain_next_part, d_Leaf_init, d_Leaf_ask, d_leaf_of, d_root_chain, d_FractionBox_init, d_FractionBox_ask, d_FractionBox_nothing_left, d_FourBox_init, d_FourBox_ask, d_FourBox_tell, d_FourBox_take, d_EightBox_init, d_EightBox_ask, d_EightBox_tell, d_EightBox_take] : List He.DefD) ++ ([d_EightBox_left_without, d_box_of_one, d_with_first_part, d_with_second_part, d_turned_over, d_four_corners, d_eight_corners, d_sure_part, d_check_tree, d_check_at_depth, d_require, d_check_row, d_is_whole, d_check_fraction, d_check_root, d_check_ruled, d_check_four, d_check_eight, d_check_line, d_check_power, d_Reading_init, d_Reading_part, d_Reading_took, d_reader, d_box_of, d_power_box, d_order_of, d_order_at, d_is_greater, d_nearest] : List He.DefD) ++ ([d_read_sides, d_stepped, d_sides_within, d_middle_reading, d_nearer_side, d_law_row, d_law_taken, d_law_whole, d_law_pair, d_law_signed, d_law_common, d_law_lowest, d_law_nearer, d_law_due, d_law_chain, d_law_first_wants, d_law_middle, d_law_wants, d_law] : List He.DefD)
def faL : List He.Fa := ([.free "len", .free "isinstance", .free "range", .free "zip", .free "abs", .free "divmod", .free "min", .free "all", .free "any", .free "list", .free "tuple", .free "str", .free "int", .free "bool", .free "sum", .free "max", .exc "NoValue", .glo "_wall", .glo "PartError", .glo "BadTree", .glo "NoValue", .glo "root_below", .glo "END", .glo "WAITS", .glo "Meter", .cls "Meter", .mkr "Meter", .meth "Meter" "allow", .meth "Meter" "pay", .noat "Meter" "left"] : List He.Fa) ++ ([.noat "Meter" "spent", .glo "FractionChain", .cls "FractionChain", .mkr "FractionChain", .meth "FractionChain" "has_ended", .meth "FractionChain" "next_part", .noat "FractionChain" "top", .noat "FractionChain" "below", .glo "RootChain", .cls "RootChain", .mkr "RootChain", .meth "RootChain" "has_ended", .meth "RootChain" "next_part", .meth "RootChain" "what_is_left", .noat "RootChain" "top", .noat "RootChain" "square", .noat "RootChain" "below", .noat "RootChain" "root", .glo "RuledChain", .cls "RuledChain", .mkr "RuledChain", .meth "RuledChain" "has_ended", .meth "RuledChain" "next_part", .noat "RuledChain" "parts", .noat "RuledChain" "ring", .noat "RuledChain" "steps", .noat "RuledChain" "at", .glo "Leaf", .cls "Leaf", .mkr "Leaf"] : List He.Fa) ++ ([.meth "Leaf" "ask", .noat "Leaf" "chain", .glo "leaf_of", .glo "root_chain", .glo "FractionBox", .cls "FractionBox", .mkr "FractionBox", .meth "FractionBox" "ask", .meth "FractionBox" "nothing_left", .noat "FractionBox" "top", .noat "FractionBox" "below", .noat "FractionBox" "told", .glo "FourBox", .cls "FourBox", .mkr "FourBox", .meth "FourBox" "ask", .meth "FourBox" "tell", .meth "FourBox" "take", .noat "FourBox" "numbers", .noat "FourBox" "tree", .noat "FourBox" "started", .noat "FourBox" "told", .noat "FourBox" "rest", .glo "EightBox", .cls "EightBox", .mkr "EightBox", .meth "EightBox" "ask", .meth "EightBox" "tell", .meth "EightBox" "take", .meth "EightBox" "left_without"] : List He.Fa) ++ ([.noat "EightBox" "numbers", .noat "EightBox" "trees", .noat "EightBox" "taken", .noat "EightBox" "told", .noat "EightBox" "rest", .glo "box_of_one", .glo "with_first_part", .glo "with_second_part", .glo "turned_over", .glo "four_corners", .glo "eight_corners", .glo "sure_part", .int "MOST_NUMBER" 1000000000000, .int "MOST_DEPTH" 5, .int "MOST_PARTS" 12, .int "MOST_POWER" 4, .glo "check_tree", .glo "check_at_depth", .glo "require", .glo "check_row", .glo "is_whole", .glo "check_fraction", .glo "check_root", .glo "check_ruled", .glo "check_four", .glo "check_eight", .glo "check_line", .glo "check_power", .glo "LENGTHS", .glo "CHECKS"] : List He.Fa) ++ ([.glo "TIMES", .glo "Reading", .cls "Reading", .mkr "Reading", .meth "Reading" "part", .meth "Reading" "took", .noat "Reading" "box", .noat "Reading" "meter", .glo "reader", .glo "box_of", .glo "power_box", .glo "order_of", .glo "order_at", .glo "is_greater", .glo "nearest", .glo "read_sides", .glo "stepped", .glo "sides_within", .glo "middle_reading", .glo "nearer_side", .glo "_law_row", .glo "_law_taken", .glo "_law_whole", .glo "_law_pair", .glo "_law_signed", .glo "_law_common", .glo "_law_lowest", .glo "_law_nearer", .glo "_law_due", .glo "_law_chain"] : List He.Fa) ++ ([.glo "_law_first_wants", .glo "_law_middle", .glo "_law_wants", .glo "law"] : List He.Fa)
def tsL : List He.Tab := [(fun K => He.ga K "LENGTHS", ["fraction", "root", "ruled", "four", "eight", "power"]), (fun K => He.ga K "CHECKS", ["fraction", "root", "ruled", "four", "eight", "power"])]
open He in
def exL (K : PySem.W.Frag) : Bool := tupB K "END" [.str "end"] && (tupB K "WAITS" [.str "waits"] && (valsB K (ga K "LENGTHS") [("fraction", .int 3), ("root", .int 4), ("ruled", .int 4), ("four", .int 3), ("eight", .int 4), ("power", .int 3)] && (valsB K (ga K "CHECKS") [("fraction", .glo "check_fraction"), ("root", .glo "check_root"), ("ruled", .glo "check_ruled"), ("four", .glo "check_four"), ("eight", .glo "check_eight"), ("power", .glo "check_power")] && (tupB K "TIMES" [.int 1, .int 0, .int 0, .int 0, .int 0, .int 0, .int 0, .int 1]))))
def looseL : List Str := (["_wall", "PartError", "BadTree", "NoValue", "root_below", "END", "WAITS", "Meter", "FractionChain", "RootChain", "RuledChain", "Leaf", "leaf_of", "root_chain", "FractionBox", "FourBox", "EightBox", "box_of_one", "with_first_part", "with_second_part", "turned_over", "four_corners", "eight_corners", "sure_part", "MOST_NUMBER", "MOST_DEPTH", "MOST_PARTS", "MOST_POWER", "check_tree", "check_at_depth"] : List Str) ++ (["require", "check_row", "is_whole", "check_fraction", "check_root", "check_ruled", "check_four", "check_eight", "check_line", "check_power", "LENGTHS", "CHECKS", "TIMES", "Reading", "reader", "box_of", "power_box", "order_of", "order_at", "is_greater", "nearest", "read_sides", "stepped", "sides_within", "middle_reading", "nearer_side", "_law_row", "_law_taken", "_law_whole", "_law_pair"] : List Str) ++ (["_law_signed", "_law_common", "_law_lowest", "_law_nearer", "_law_due", "_law_chain", "_law_first_wants", "_law_middle", "_law_wants"] : List Str)
abbrev hk : PySem.W.Hook := He.hookX 4 faL fnL tsL [] exL
def ob (s : PySem.W.SharedT) : He.AlX := He.obsX 4 faL fnL tsL [] exL (HandSHeadRun.getT s)
theorem ob_eq (s : PySem.W.SharedT) : ob s = hk.obs s.abs := He.obsX_eq (HandSHeadRun.getT_eq s)
section
open PySem PySem.W PySem.Calls PyProof.Rows HandSHeadRun
theorem map3 {α β γ δ : Type _} {o : Option α} {f : α → β} {g : α → γ} {h : α → δ} {x : β} {y : γ} {z : δ} (a : o.map f = some x) (b : o.map g = some y) (c : o.map h = some z) : o.map (fun s => (f s, g s, h s)) = some (x, y, z) := by
  cases o with
  | none => cases a
  | some s => cases a; cases b; cases c; rfl
def RunA (r : OpenRow) (M : Nat) (w : World) : Prop := ∀ os : OsState, (endF (stepQ (denQ tabQ) r.prog w) M r.prog w os).map (fun s => looksF r.prog (boot_heap w.params) s.abs) = some true
def RunB (r : OpenRow) (q : Program) (M : Nat) (loose : List PySem.Str) (w : World) : Prop := ∀ os : OsState, (endF (stepQ (denQ tabQ) r.prog w) M r.prog w os).map (fun s => seenQ q loose (importedModules r.prog.main.body) (fun s => xlAt q [] s && recOk r.toRowW.records s) s.abs) = some (openGood q loose)
def RunC (r : OpenRow) (H : Hook) (ob : SharedT → H.α) (M : Nat) (w : World) : Prop := ∀ os : OsState, (endF (stepQ (denQ tabQ) r.prog w) M r.prog w os).map (fun s => ob s) = some (H.val w)
theorem run_of {r : OpenRow} {q : Program} {H : Hook} {ob : SharedT → H.α} {M : Nat} {loose : List PySem.Str} {w : World} (a : RunA r M w) (b : RunB r q M loose w) (c : RunC r H ob M w) : RunEq r q H ob M loose w := fun os => map3 (a os) (b os) (c os)
end
set_option maxHeartbeats 0 in
theorem run0a (w : World) : RunA (PySem.W.OpenLaw.row PySem.Challenge.rw_chainparts_k19_nearest_of_fractions) 7500 (w.withFollow "special-get-raises" false) := by
  intro os
  kernel_rfl
set_option maxHeartbeats 0 in
theorem run0b (w : World) : RunB (PySem.W.OpenLaw.row PySem.Challenge.rw_chainparts_k19_nearest_of_fractions) (PySem.W.view (PySem.W.OpenLaw.row PySem.Challenge.rw_chainparts_k19_nearest_of_fractions).prog [78]) 7500 looseL (w.withFollow "special-get-raises" false) := by
  intro os
  kernel_rfl
set_option maxHeartbeats 0 in
theorem run0c (w : World) : RunC (PySem.W.OpenLaw.row PySem.Challenge.rw_chainparts_k19_nearest_of_fractions) hk ob 7500 (w.withFollow "special-get-raises" false) := by
  intro os
  kernel_rfl
theorem run0 (w : World) : HandSHeadRun.RunEq (PySem.W.OpenLaw.row PySem.Challenge.rw_chainparts_k19_nearest_of_fractions) (PySem.W.view (PySem.W.OpenLaw.row PySem.Challenge.rw_chainparts_k19_nearest_of_fractions).prog [78]) hk ob 7500 looseL (w.withFollow "special-get-raises" false) := run_of (run0a w) (run0b w) (run0c w)
set_option maxHeartbeats 0 in
theorem run1a (w : World) : RunA (PySem.W.OpenLaw.row PySem.Challenge.rw_chainparts_k19_nearest_of_fractions) 7500 (w.withFollow "special-get-raises" true) := by
  intro os
  kernel_rfl
set_option maxHeartbeats 0 in
theorem run1b (w : World) : RunB (PySem.W.OpenLaw.row PySem.Challenge.rw_chainparts_k19_nearest_of_fractions) (PySem.W.view (PySem.W.OpenLaw.row PySem.Challenge.rw_chainparts_k19_nearest_of_fractions).prog [78]) 7500 looseL (w.withFollow "special-get-raises" true) := by
  intro os
  kernel_rfl
set_option maxHeartbeats 0 in
theorem run1c (w : World) : RunC (PySem.W.OpenLaw.row PySem.Challenge.rw_chainparts_k19_nearest_of_fractions) hk ob 7500 (w.withFollow "special-get-raises" true) := by
  intro os
  kernel_rfl
theorem run1 (w : World) : HandSHeadRun.RunEq (PySem.W.OpenLaw.row PySem.Challenge.rw_chainparts_k19_nearest_of_fractions) (PySem.W.view (PySem.W.OpenLaw.row PySem.Challenge.rw_chainparts_k19_nearest_of_fractions).prog [78]) hk ob 7500 looseL (w.withFollow "special-get-raises" true) := run_of (run1a w) (run1b w) (run1c w)
theorem run (w : World) : HandSHeadRun.RunEq (PySem.W.OpenLaw.row PySem.Challenge.rw_chainparts_k19_nearest_of_fractions) (PySem.W.view (PySem.W.OpenLaw.row PySem.Challenge.rw_chainparts_k19_nearest_of_fractions).prog [78]) hk ob 7500 looseL w := PySem.W.byRow2 "special-get-raises" (P := fun w => HandSHeadRun.RunEq (PySem.W.OpenLaw.row PySem.Challenge.rw_chainparts_k19_nearest_of_fractions) (PySem.W.view (PySem.W.OpenLaw.row PySem.Challenge.rw_chainparts_k19_nearest_of_fractions).prog [78]) hk ob 7500 looseL w) run0 run1 w
/-! ### calls of defs, in short -/
/-- the def x of the text stands at f, no one else bears its name -/
structure DefAt (K : PySem.W.Frag) (mg : Str → Option Value) (x : Str) (st : Stmt) (ps : List Str) (f : Addr) (fd : FuncData) : Prop where
  fn : Fun K x x st f fd
  mgx : mg x = some (.ref f)
  bd : Binds K fd ps []
/-- the def x keeps the promise sp, at level k -/
def COk (P : Program) (w : World) (K : PySem.W.Frag) (mg : Str → Option Value) (base : Heap) (CX : CXT) (k : Nat) (x : Str) (ps : List Str) (sp : Sp) : Prop :=
  ∃ (f : Addr) (fd : FuncData), FnOk P w K mg base CX k f fd ps sp ∧ mg x = some (.ref f) ∧ PySem.W.keepIn K (.ref f) = true ∧ Binds K fd ps []
theorem COk.of {P : Program} {w : World} {K : PySem.W.Frag} {mg : Str → Option Value} {base : Heap} {CX : CXT} {k : Nat} {x : Str} {st : Stmt} {ps : List Str} {sp : Sp} {f : Addr} {fd : FuncData}
    (D : DefAt K mg x st ps f fd) (h : FnOk P w K mg base CX k f fd ps sp) : COk P w K mg base CX k x ps sp := ⟨f, fd, h, D.mgx, D.fn.kp, D.bd⟩
theorem COk.mono {P : Program} {w : World} {K : PySem.W.Frag} {mg : Str → Option Value} {base : Heap} {CX : CXT} {k j : Nat} {x : Str} {ps : List Str} {sp : Sp}
    (h : COk P w K mg base CX k x ps sp) (hk : k ≤ j) : COk P w K mg base CX j x ps sp := by
  obtain ⟨f, fd, F, a, b, c⟩ := h
  exact ⟨f, fd, F.mono hk, a, b, c⟩
section
variable {X : Cx} {k : Nat} {x : Str} {ps : List Str} {sp : Sp} {e : Expr} {es : List Expr} {t : TA} {p pos : Pos}
theorem pe_c (C : COk X.prog X.w X.K X.mg X.base CX0 k x ps sp) (hr : Room k X.A) (ha : PA X (e :: es) t) (hg : Gl X x := by rfl)
    (hdb : (x == ("__debug__" : Str)) = false := by decide) (he : starEach (e :: es) X.env = (false, eval e X.env) :: starEach es X.env := by rfl) (hpl : (backTo pos (starEach es X.env)).any (·.1) = false := by rfl) :
    PE X (.Call (.Name x p) (e :: es) [] pos) (tCall sp [] E0 t) := by
  obtain ⟨f, fd, F, a, b, c⟩ := C
  exact pe_call F hr hg a b c .nil pass0 ha hdb he hpl
/-- one of two readings -/
theorem pe_alt {e : Expr} {t u : TE} (h : PE X e t) (h' : PE X e u) : PE X e (fun σ H Q => t σ H Q ∨ u σ H Q) :=
  ⟨fun pins s σ H Q I q => q.elim (h.run pins s σ H Q I) (h'.run pins s σ H Q I)⟩
/-- // by any divisor but nought -/
def CDivS (_ j : Int) : Prop := j ≠ 0 ∧ j.natAbs < 2 ^ 8000
theorem op_fdivS : OpR X (binaryOp .FloorDiv) (rI CDivS fun i j => .int (i.fdiv j)) := opI fun _ _ _ _ _ _ _ hc q =>
  PyProof.Rows.floordiv_int hc.1 q (.inl (PyProof.noPylong_of_log2 (Nat.lt_of_lt_of_le (PySem.Flt.log2_lt_of (k := 8000) (by decide) hc.2) (by decide))))
/-- ** of great ints -/
def CPowW (i j : Int) : Prop := 0 ≤ j ∧ (Builtin.Int.intBits i : Int) * j ≤ 2 ^ 27
/-- a written power -/
theorem pe_powc {a n v : Int} {j j' : Nat} {p p' pos : Pos} (h : a ^ n.toNat = v) (hc : CPow a n) : PE X (.BinOp (.Constant (.int a) j p) .Pow (.Constant (.int n) j' p') pos) (tC (.int v)) := by
  refine ⟨fun pins s σ H Q I q => ?_⟩
  have q' : Q (.int (a ^ n.toNat)) H := by rw [h]; exact q
  exact (pe_op op_pow pe_int pe_int).run pins s σ H Q I ⟨a, n, rfl, rfl, hc, q'⟩
/-- x ** 2 -/
def CSq (i : Int) : Prop := (Builtin.Int.intBits i : Int) * 2 ≤ 2 ^ 27
theorem op_sq : OpR X (binaryOp .Pow) (fun x y H Q => ∃ i, x = .int i ∧ y = .int 2 ∧ CSq i ∧ Q (.int (i * i)) H) := by
  intro pins s σ H x y v u Q I rx ry h
  obtain ⟨i, rfl, rfl, hc, q⟩ := h
  have e : i ^ (2 : Int).toNat = i * i := by
    show i ^ 2 = i * i
    grind
  exact (opI fun _ _ _ _ _ _ _ hc q => PyProof.Rows.pow_int hc.1 hc.2 q : OpR X (binaryOp .Pow) (rI CPowW fun i j => .int (i ^ j.toNat))) pins s σ H _ _ v u Q I rx ry ⟨i, 2, rfl, rfl, ⟨by decide, hc⟩, by show Q (.int (i ^ (2 : Int).toNat)) H; rw [e]; exact q⟩
theorem op_powW : OpR X (binaryOp .Pow) (rI CPowW fun i j => .int (i ^ j.toNat)) := opI fun _ _ _ _ _ _ _ hc q => PyProof.Rows.pow_int hc.1 hc.2 q
end
theorem same_upd {H : Hp} {p : Addr} {o : HO} (h : H p = none) : Same H (upd H p o) := fun b x e => by
  rw [upd_ne (ne_of_none e h)]
  exact e
theorem defAt_mk {K : PySem.W.Frag} {mg : Str → Option Value} {h : Heap} {x : Str} {st : Stmt} {ps : List Str} {f : Addr} {oc : Value} {od an : Option Addr} {osl : Array (Option Value)} {kV doc pm cdv ct : Value}
    (X : K.In h) (G : h.Ns mainGlobals mg) (a : PySem.W.nsIn K mainGlobals x = some (some (.ref f)))
    (l : K.lookup f = some ⟨oc, od, .func (PySem.W.fnOf x x (defArgs st) (defBody st) (defScope st) .none kV doc pm an cdv ct), osl⟩) (c : PySem.W.codeIn K cdv x = true) (k : PySem.W.keepIn K (.ref f) = true)
    (hb : ∀ (kV doc pm : Value) (an : Option Addr) (cdv ct : Value) (us : List Value), us.length = ps.length → bindArgs (PySem.W.fnOf x x (defArgs st) (defBody st) (defScope st) .none kV doc pm an cdv ct) ⟨us, []⟩ = pure (ps.zip us)) :
    DefAt K mg x st ps f (PySem.W.fnOf x x (defArgs st) (defBody st) (defScope st) .none kV doc pm an cdv ct) :=
  ⟨fun_mk l c k, PySem.W.mg_of X G a, (fun_mk (st := st) l c k).binds hb⟩
/-- the built-ins' names are still their own -/
structure BT (mg : Str → Option Value) : Prop where
  b_len : mg "len" = none
  b_isinstance : mg "isinstance" = none
  b_range : mg "range" = none
  b_zip : mg "zip" = none
  b_abs : mg "abs" = none
  b_divmod : mg "divmod" = none
  b_min : mg "min" = none
  b_all : mg "all" = none
  b_any : mg "any" = none
  b_list : mg "list" = none
  b_tuple : mg "tuple" = none
  b_str : mg "str" = none
  b_int : mg "int" = none
  b_bool : mg "bool" = none
  b_sum : mg "sum" = none
  b_max : mg "max" = none
/-! ### what the laws' own helpers do: a row of numbers is drawn from the script -/
/-- the script at a: known, never written -/
def ScrAt (K : PySem.W.Frag) (H : Hp) (a : Addr) (ns : List Int) : Prop := (∃ o, H a = some (.frz o (.lst (ns.map V.int)))) ∨ ∀ H', SqL K H' a (ns.map V.int)
theorem ScrAt.seq {K : PySem.W.Frag} {H : Hp} {a : Addr} {ns : List Int} (h : ScrAt K H a ns) : SqL K H a (ns.map V.int) := by
  rcases h with ⟨o, h⟩ | h
  · exact .inl (.inr ⟨o, h⟩)
  · exact h H
theorem ScrAt.of {K : PySem.W.Frag} {H : Hp} {a : Addr} {ns : List Int} (hO : Only H) (h : SqL K H a (ns.map V.int)) : ScrAt K H a ns := by
  rcases h with (h | ⟨o, h⟩) | h
  · rcases hO a with z | ⟨o, xs, z⟩
    · rw [z] at h; cases h
    · rw [z] at h; cases h
  · exact .inl ⟨o, h⟩
  · exact .inr fun _ => .inr h
theorem ScrAt.same {K : PySem.W.Frag} {H H' : Hp} {a : Addr} {ns : List Int} (h : ScrAt K H a ns) (s : Same H H') : ScrAt K H' a ns := by
  rcases h with ⟨o, h⟩ | h
  · exact .inl ⟨o, s _ _ h⟩
  · exact .inr h
/-- what is no locked thing may be written -/
theorem ScrAt.but {K : PySem.W.Frag} {H H' : Hp} {a r : Addr} {ns : List Int} (h : ScrAt K H a ns) (hr : ∀ o u, H r ≠ some (.frz o u)) (k : ∀ b o, H b = some o → b ≠ r → H' b = some o) : ScrAt K H' a ns := by
  rcases h with ⟨o, h⟩ | h
  · exact .inl ⟨o, k _ _ h fun z => by rw [z] at h; exact hr _ _ h⟩
  · exact .inr h
theorem no_frz {H : Hp} {r : Addr} {xs : List V} (h : H r = some (.lst xs)) : ∀ o u, H r ≠ some (.frz o u) := fun o u z => by rw [h] at z; cases z
/-- the row at r: the script at a (ns), a place in it, what is left of a great number, a mixed number -/
structure RowAt (K : PySem.W.Frag) (H : Hp) (r a : Addr) (ns : List Int) : Prop where
  row : ∃ (i : Nat) (left mixed : Int), H r = some (.lst [.ref a, .int i, .int left, .int mixed]) ∧ i ≤ ns.length ∧ 0 ≤ left ∧ 0 ≤ mixed ∧ mixed < 2147483647
  scr : ScrAt K H a ns
theorem ref_ne {a : Addr} {xs : List V} (ns : List Int) : V.ref a :: xs ≠ ns.map V.int := by
  cases ns with
  | nil => intro z; cases z
  | cons n r => intro z; rw [List.map_cons] at z; cases (List.cons.inj z).1
theorem RowAt.same {K : PySem.W.Frag} {H H' : Hp} {r a : Addr} {ns : List Int} (R : RowAt K H r a ns) (s : Same H H') : RowAt K H' r a ns := by
  obtain ⟨⟨i, l, m, e, z⟩, hS⟩ := R
  exact ⟨⟨i, l, m, s _ _ e, z⟩, hS.same s⟩
/-- a list other than the row is written -/
theorem RowAt.put {K : PySem.W.Frag} {H : Hp} {r a d : Addr} {ns : List Int} {xs ys : List V} (R : RowAt K H r a ns) (hd : H d = some (.lst xs)) (ne : d ≠ r) : RowAt K (upd H d (.lst ys)) r a ns := by
  obtain ⟨⟨i, l, m, e, z⟩, hS⟩ := R
  exact ⟨⟨i, l, m, by rw [upd_ne ne.symm]; exact e, z⟩, hS.but (no_frz hd) fun b o h hb => by rw [upd_ne hb]; exact h⟩
theorem RowAt.at_ {K : PySem.W.Frag} {H : Hp} {r a : Addr} {ns : List Int} (R : RowAt K H r a ns) : ∃ x xs, H r = some (.lst (.ref x :: xs)) := by
  obtain ⟨⟨i, l, m, e, z⟩, hS⟩ := R
  exact ⟨_, _, e⟩
def sp_law_row (K : PySem.W.Frag) : Sp := fun vs H Q _ => ∃ (a : Addr) (ns : List Int), vs = [.ref a] ∧ ScrAt K H a ns ∧ ns.length ≤ 63 ∧
  ∀ r H', H r = none → Same H H' → RowAt K H' r a ns → Q (.ref r) H'
/-- a drawn number: any one below many; only the row's list changes -/
def sp_law_taken (K : PySem.W.Frag) : Sp := fun vs H Q _ => ∃ (r a : Addr) (ns : List Int) (many : Int), vs = [.ref r, .int many] ∧ RowAt K H r a ns ∧ 0 < many ∧ many < 2 ^ 8000 ∧
  ∀ v H', 0 ≤ v → v < many → RowAt K H' r a ns → (∀ b o, H b = some o → b ≠ r → H' b = some o) → Q (.int v) H'
section
variable {P : Program} {w : World} {K : PySem.W.Frag} {mg : Str → Option Value} {base : Heap}
theorem ok_law_row {f : Addr} {fd : FuncData} (F : Fun K "_law_row" "_law_row" s_law_row f fd) : FnOk P w K mg base CX0 1 f fd ["_law_script"] (sp_law_row K) := by
  refine F.ok sc_law_row (fun vs H Q E h => ?_) (fun cdv A outer s H vs Q E hr h => ?_)
  · obtain ⟨a, ns, rfl, _⟩ := h
    rfl
  · obtain ⟨a, ns, rfl, hC, hlen, k⟩ := h
    have hS := hC.seq
    refine ⟨_, (pss_cons (ps_set (i := 1) sc_law_row.nd rfl (Or.inl rfl) pe_int)
    (pss_cons (ps_for PassesOwn.never rfl (pi_list (pv 0)) (pg_name (i := 2) sc_law_row.nd rfl (Or.inl rfl))
      (pss_one (ps_set (i := 1) sc_law_row.nd rfl (Or.inl rfl) (pe_op op_mod (pe_op op_add (pe_op op_add (pe_op op_mul (pv 1) pe_int) (pv 2)) pe_int) pe_int))))
    (pss_one (ps_ret (pe_lst (pa_cons (pv 0) (pa_cons pe_int (pa_cons pe_int (pa_cons (pv 1) pa_nil))))))))), ?_⟩
    refine ⟨_, rfl, a, rfl, ⟨_, hS⟩, for_list (K := K) (a := a) (xs := ns.map V.int) (fun i σ H2 => ∃ (m : Int) (v : Option V), σ = [some (.ref a), some (.int m), v] ∧ 0 ≤ m ∧ m < 2147483647 ∧ H2 = H)
      ⟨7, none, rfl, by decide, by decide, rfl⟩ (fun i σ H2 _ ⟨_, _, _, _, _, e⟩ => by rw [e]; exact hS) ?_ ?_⟩
    · rintro i y σ H2 hi ⟨m, v, rfl, h0, h1, rfl⟩
      obtain ⟨z, rfl⟩ : ∃ z, y = V.int z := by
        rw [List.getElem?_map] at hi
        cases e : ns[i]? with
        | none => rw [e] at hi; cases hi
        | some z => rw [e] at hi; exact ⟨z, (Option.some.inj hi).symm⟩
      refine ⟨_, rfl, _, _, rfl, rfl, .inl ⟨by omega, by omega⟩, _, rfl, _, _, rfl, rfl, _, _, rfl, rfl, _, _, rfl, rfl, (by show (0 : Int) < 2147483647; decide), ?_⟩
      exact ⟨_, _, rfl, Int.emod_nonneg _ (by decide), Int.emod_lt_of_pos _ (by decide), rfl⟩
    · rintro σ H2 ⟨m, v, rfl, h0, h1, rfl⟩
      refine ⟨_, rfl, _, rfl, (by show 4 ≤ sizeLine; decide), fun p hp => ?_⟩
      exact k p _ hp (same_upd hp) ⟨⟨0, 0, m, upd_same, Nat.zero_le _, by decide, h0, h1⟩, hC.same (same_upd hp)⟩
theorem natAbs_lt_pow {z : Int} {n : Nat} (h0 : 0 ≤ z) (h : z < 2 ^ n) : z.natAbs < 2 ^ n := by
  have e : ((2 ^ n : Nat) : Int) = 2 ^ n := by norm_cast
  omega
theorem ok_law_taken {f : Addr} {fd : FuncData} (F : Fun K "_law_taken" "_law_taken" s_law_taken f fd) (T : BT mg) : FnOk P w K mg base CX0 1 f fd ["_law_row_here", "_law_many"] (sp_law_taken K) := by
  refine F.ok sc_law_taken (fun vs H Q E h => ?_) (fun cdv A outer s H vs Q E hr h => ?_)
  · obtain ⟨r, a, ns, many, rfl, _⟩ := h
    rfl
  · obtain ⟨r, a, ns, many, rfl, ⟨⟨i, left, mixed, hr0, hi, hl, hm0, hm1⟩, hC⟩, hm, hmw, k⟩ := h
    have hS := hC.seq
    have mw : ∀ z, CDivW z many := fun z => wide_div (b := 8000) hm (natAbs_lt_pow (Int.le_of_lt hm) hmw) (by decide) (by decide)
    have nra : ∀ o, ScrAt K (upd H r o) a ns := fun o => hC.but (no_frz hr0) fun b z e hb => by rw [upd_ne hb]; exact e
    have kp : ∀ o b z, H b = some z → b ≠ r → (upd H r o) b = some z := fun o b z e hb => by rw [upd_ne hb]; exact e
    refine ⟨_, (pss_cons (ps_if (pt_cmpR op_gt (pe_ix ix_list (pv 0) pe_int (fun _ _ => rfl)) pe_int (nomark _))
      (pss_cons (ps_set (i := 2) sc_law_taken.nd rfl (Or.inl rfl) (pe_op op_mod (pe_ix ix_list (pv 0) pe_int (fun _ _ => rfl)) (pv 1)))
    (pss_cons (ps_asg (pe_op op_fdivW (pe_ix ix_list (pv 0) pe_int (fun _ _ => rfl)) (pv 1)) (pg_sub (pv 0) pe_int set_list))
    (pss_one (ps_ret (pv 2))))) pss_nil)
    (pss_cons (ps_if (pt_cmpR op_lt (pe_ix ix_list (pv 0) pe_int (fun _ _ => rfl)) (pe_callB call_len_seq (by rfl) T.b_len (by decide +kernel) (pa_cons (pe_ix ix_list (pv 0) pe_int (fun _ _ => rfl)) pa_nil)) (nomark _))
      (pss_cons (ps_set (i := 3) sc_law_taken.nd rfl (Or.inl rfl) (pe_ix ix_list (pe_ix ix_list (pv 0) pe_int (fun _ _ => rfl)) (pe_ix ix_list (pv 0) pe_int (fun _ _ => rfl)) (fun _ _ => rfl)))
    (pss_cons (ps_asg (pe_op op_add (pe_ix ix_list (pv 0) pe_int (fun _ _ => rfl)) pe_int) (pg_sub (pv 0) pe_int set_list))
    (pss_cons (ps_if (pt_cmpR op_ge (pv 3) (pe_powc (v := 1000000000000000000) (by decide) ⟨by decide, by decide, by decide⟩) (nomark _))
      (pss_one (ps_asg (pe_op op_fdivW (pv 3) (pv 1)) (pg_sub (pv 0) pe_int set_list))) pss_nil)
    (pss_one (ps_ret (pe_op op_mod (pv 3) (pv 1))))))) pss_nil)
    (pss_cons (ps_asg (pe_op op_mod (pe_op op_add (pe_op op_mul (pe_ix ix_list (pv 0) pe_int (fun _ _ => rfl)) pe_int) pe_int) pe_int) (pg_sub (pv 0) pe_int set_list))
    (pss_one (ps_ret (pe_op op_mod (pe_op op_fdiv (pe_ix ix_list (pv 0) pe_int (fun _ _ => rfl)) pe_int) (pv 1))))))), ?_⟩
    refine ⟨_, rfl, r, _, 2, .int left, rfl, rfl, SqL.of hr0, atI_nat (j := 2) rfl, _, _, rfl, rfl, _, rfl, ite2 (fun c => ?_) (fun c => ?_)⟩
    · -- what is left of a great number
      refine ⟨_, rfl, r, _, 2, .int left, rfl, rfl, SqL.of hr0, atI_nat (j := 2) rfl, _, rfl, _, _, rfl, rfl, hm, ?_⟩
      refine ⟨_, rfl, r, _, 2, .int left, rfl, rfl, SqL.of hr0, atI_nat (j := 2) rfl, _, rfl, _, _, rfl, rfl, mw _, ?_⟩
      refine ⟨_, rfl, r, _, 2, 2, rfl, rfl, hr0, rfl, ?_⟩
      refine ⟨_, rfl, k _ _ (Int.emod_nonneg _ (by omega)) (Int.emod_lt_of_pos _ hm) ⟨⟨i, left / many, mixed, upd_same, hi, Int.ediv_nonneg hl (by omega), hm0, hm1⟩, nra _⟩ (kp _)⟩
    · refine ⟨_, rfl, r, _, 1, .int i, rfl, rfl, SqL.of hr0, atI_nat (j := 1) rfl, _, rfl, r, _, 0, .ref a, rfl, rfl, SqL.of hr0, atI_nat (j := 0) rfl, a, _, rfl, .inl hS, _, _, rfl, rfl, _, rfl, ite2 (fun c2 => ?_) (fun c2 => ?_)⟩
      · have hi2 : i < ns.length := by
          have := of_decide_eq_true c2
          rw [List.length_map] at this
          omega
        have hz : (ns.map V.int)[i]? = some (.int ns[i]) := by
          rw [List.getElem?_map, List.getElem?_eq_getElem hi2]
          rfl
        refine ⟨_, rfl, r, _, 0, .ref a, rfl, rfl, SqL.of hr0, atI_nat (j := 0) rfl, _, rfl, r, _, 1, .int i, rfl, rfl, SqL.of hr0, atI_nat (j := 1) rfl, a, _, i, _, rfl, rfl, hS, atI_nat hz, ?_⟩
        generalize ns[i] = cell
        refine ⟨_, rfl, r, _, 1, .int i, rfl, rfl, SqL.of hr0, atI_nat (j := 1) rfl, _, _, rfl, rfl, _, rfl, r, _, 1, 1, rfl, rfl, hr0, rfl, ?_⟩
        have h1 : (upd H r (.lst [V.ref a, .int ((i : Int) + 1), .int left, .int mixed])) r = _ := upd_same
        refine ⟨_, rfl, _, _, rfl, rfl, _, rfl, ite2 (fun c3 => ?_) (fun c3 => ?_)⟩
        · have hc : 0 ≤ cell := by
            have := of_decide_eq_true c3
            omega
          refine ⟨_, rfl, _, rfl, _, _, rfl, rfl, mw _, _, rfl, r, _, 2, 2, rfl, rfl, h1, rfl, ?_⟩
          refine ⟨_, rfl, _, rfl, _, _, rfl, rfl, hm, ?_⟩
          rw [upd_upd]
          exact k _ _ (Int.emod_nonneg _ (by omega)) (Int.emod_lt_of_pos _ hm) ⟨⟨i + 1, cell / many, mixed, upd_same, hi2, Int.ediv_nonneg hc (by omega), hm0, hm1⟩, nra _⟩ (kp _)
        · refine ⟨_, rfl, _, rfl, _, _, rfl, rfl, hm, ?_⟩
          exact k _ _ (Int.emod_nonneg _ (by omega)) (Int.emod_lt_of_pos _ hm) ⟨⟨i + 1, left, mixed, upd_same, hi2, hl, hm0, hm1⟩, nra _⟩ (kp _)
      · refine ⟨_, rfl, r, _, 3, .int mixed, rfl, rfl, SqL.of hr0, atI_nat (j := 3) rfl, _, _, rfl, rfl, .inl ⟨by omega, by omega⟩, _, _, rfl, rfl, _, _, rfl, rfl, (by show (0 : Int) < 2147483647; decide), _, rfl, r, _, 3, 3, rfl, rfl, hr0, rfl, ?_⟩
        have h1 : (upd H r (.lst [V.ref a, .int (i : Int), .int left, .int ((mixed * 48271 + 12345) % 2147483647)])) r = _ := upd_same
        refine ⟨_, rfl, r, _, 3, _, rfl, rfl, SqL.of h1, atI_nat (j := 3) rfl, _, _, rfl, rfl, ⟨by decide, by decide⟩, _, rfl, _, _, rfl, rfl, hm, ?_⟩
        exact k _ _ (Int.emod_nonneg _ (by omega)) (Int.emod_lt_of_pos _ hm) ⟨⟨i, left, _, upd_same, hi, hl, Int.emod_nonneg _ (by decide), Int.emod_lt_of_pos _ (by decide)⟩, nra _⟩ (kp _)
def sp_law_whole : Sp := fun vs H Q _ => ∃ i : Int, vs = [.int i] ∧ Q (.bl true) H
theorem ok_law_whole {f : Addr} {fd : FuncData} (F : Fun K "_law_whole" "_law_whole" s_law_whole f fd) (T : BT mg) : FnOk P w K mg base CX0 1 f fd ["_law_found"] sp_law_whole := by
  refine F.ok sc_law_whole (fun vs H Q E h => ?_) (fun cdv A outer s H vs Q E hr h => ?_)
  · obtain ⟨i, rfl, _⟩ := h
    rfl
  · obtain ⟨i, rfl, k⟩ := h
    refine ⟨_, (pss_one (ps_ret (pe_and (pe_callB call_isi (by rfl) T.b_isinstance (by decide +kernel) (pa_cons (pv 0) (pa_cons (pe_bltn (v := .ty "int") (by rfl) T.b_int (by decide +kernel) rfl) pa_nil))) (pe_one (pe_not (pe_callB call_isi (by rfl) T.b_isinstance (by decide +kernel) (pa_cons (pv 0) (pa_cons (pe_bltn (v := .ty "bool") (by rfl) T.b_bool (by decide +kernel) rfl) pa_nil)))))))), ?_⟩
    refine ⟨_, rfl, _, _, _, _, true, rfl, .ty "int", .base (.int i), kit_ty (by decide +kernel), _, rfl, iteT ?_⟩
    exact ⟨_, rfl, _, _, _, _, false, rfl, .ty "bool", .base (.int i), kit_ty (by decide +kernel), _, rfl, k⟩
def sp_law_signed (K : PySem.W.Frag) : Sp := fun vs H Q _ => ∃ (r a : Addr) (ns : List Int) (most : Int), vs = [.ref r, .int most] ∧ RowAt K H r a ns ∧ 0 ≤ most ∧ most < 2 ^ 60 ∧
  ∀ v H', -most ≤ v → v ≤ most → RowAt K H' r a ns → (∀ b o, H b = some o → b ≠ r → H' b = some o) → Q (.int v) H'
theorem ok_law_signed {f : Addr} {fd : FuncData} (F : Fun K "_law_signed" "_law_signed" s_law_signed f fd) (G_law_taken : COk P w K mg base CX0 1 "_law_taken" ["_law_row_here", "_law_many"] (sp_law_taken K)) : FnOk P w K mg base CX0 2 f fd ["_law_row_here", "_law_most"] (sp_law_signed K) := by
  refine F.ok sc_law_signed (fun vs H Q E h => ?_) (fun cdv A outer s H vs Q E hr h => ?_)
  · obtain ⟨r, a, ns, most, rfl, _⟩ := h
    rfl
  · obtain ⟨r, a, ns, most, rfl, R, h0, h1, k⟩ := h
    refine ⟨_, (pss_one (ps_ret (pe_op op_sub (pe_c G_law_taken (hr.mono (by first | decide | omega)) (pa_cons (pv 0) (pa_cons (pe_op op_add (pe_op op_mul pe_int (pv 1)) pe_int) pa_nil))) (pv 1)))), ?_⟩
    have b60 : (2 : Int) ^ 60 = 1152921504606846976 := by decide
    have b8 : (2 : Int) ^ 62 < 2 ^ 8000 := by decide +kernel
    have b62 : (2 : Int) ^ 62 = 4611686018427387904 := by decide
    refine ⟨_, rfl, _, rfl, _, _, rfl, rfl, .inl ⟨by decide, by decide⟩, _, _, rfl, rfl, r, a, ns, _, rfl, R, by omega, by omega, fun v H' v0 v1 R' kp => ?_⟩
    exact ⟨_, rfl, _, _, rfl, rfl, k _ _ (by omega) (by omega) R' kp⟩
end

/-! ### root_below -/
/-- r is the greatest whole number whose square is no greater than n -/
def IsRoot (n r : Int) : Prop := 0 ≤ r ∧ r * r ≤ n ∧ n < (r + 1) * (r + 1)
theorem sq_nonneg (x : Int) : 0 ≤ x * x := by
  rcases Int.le_total 0 x with h | h
  · exact Int.mul_nonneg h h
  · exact Int.mul_nonneg_of_nonpos_of_nonpos h h
theorem IsRoot.unique {n r s : Int} (a : IsRoot n r) (b : IsRoot n s) : r = s := by
  obtain ⟨a0, a1, a2⟩ := a
  obtain ⟨b0, b1, b2⟩ := b
  have key : ∀ x y : Int, 0 ≤ x → 0 ≤ y → x * x ≤ n → n < (y + 1) * (y + 1) → x ≤ y := fun x y hx hy h1 h2 => by
    rcases Int.lt_or_le y x with h | h
    · have := Int.mul_le_mul (show y + 1 ≤ x by omega) (show y + 1 ≤ x by omega) (by omega) hx
      omega
    · exact h
  have h1 := key r s a0 b0 a1 b2
  have h2 := key s r b0 a0 b1 a2
  omega
theorem newton {n g q b : Int} (hg : 0 < g) (hq : q = n / g) (hb : b = (g + q) / 2) : n < (b + 1) * (b + 1) := by
  have h1 : n < g * (q + 1) := by
    have := Int.lt_mul_ediv_self_add (x := n) (k := g) hg
    rw [← hq] at this
    have e : g * (q + 1) = g * q + g := by grind
    omega
  have h2 : g + q + 1 ≤ 2 * (b + 1) := by omega
  have h3 : 4 * (g * (q + 1)) ≤ (g + q + 1) * (g + q + 1) := by
    have h : (g + q + 1) * (g + q + 1) - 4 * (g * (q + 1)) = (g - q - 1) * (g - q - 1) := by grind
    have := sq_nonneg (g - q - 1)
    omega
  rcases Int.lt_or_le n 0 with hn | hn
  · have := sq_nonneg (b + 1)
    omega
  · have hq0 : 0 ≤ q := by rw [hq]; exact Int.ediv_nonneg hn (by omega)
    have h4 : (g + q + 1) * (g + q + 1) ≤ (2 * (b + 1)) * (2 * (b + 1)) := Int.mul_le_mul h2 h2 (by omega) (by omega)
    have h5 : (2 * (b + 1)) * (2 * (b + 1)) = 4 * ((b + 1) * (b + 1)) := by grind
    omega
theorem newton_end {n g : Int} (hg : 0 < g) (hn : 0 ≤ n) (h : g ≤ (g + n / g) / 2) : g * g ≤ n := by
  have h1 : g ≤ n / g := by omega
  have h2 := Int.mul_le_mul_of_nonneg_left h1 (show 0 ≤ g by omega)
  have h3 := Int.mul_ediv_self_le (x := n) (k := g) (by omega)
  omega
theorem first_guess {n : Int} (h : 0 ≤ n) : n < ((2 : Int) ^ ((Builtin.Int.intBits n + 1) / 2) + 1) * ((2 : Int) ^ ((Builtin.Int.intBits n + 1) / 2) + 1) := by
  have hb : n < (2 : Int) ^ Builtin.Int.intBits n := by
    unfold Builtin.Int.intBits
    split
    · rename_i z
      have : n = 0 := by simpa using z
      subst this
      decide
    · have := Nat.lt_log2_self (n := n.natAbs)
      have e : ((2 ^ (n.natAbs.log2 + 1) : Nat) : Int) = 2 ^ (n.natAbs.log2 + 1) := by norm_cast
      omega
  generalize Builtin.Int.intBits n = m at *
  have hp : ∀ k : Nat, (0 : Int) < 2 ^ k := fun k => Int.pow_pos (by decide)
  have h1 : (2 : Int) ^ m ≤ 2 ^ ((m + 1) / 2) * 2 ^ ((m + 1) / 2) := by
    rw [← Int.pow_add]
    have z := Nat.pow_le_pow_right (n := 2) (by decide) (show m ≤ (m + 1) / 2 + (m + 1) / 2 by omega)
    exact_mod_cast z
  have h2 := hp ((m + 1) / 2)
  generalize (2 : Int) ^ ((m + 1) / 2) = g at *
  have e : (g + 1) * (g + 1) = g * g + 2 * g + 1 := by grind
  omega
def sp_root_below : Sp := fun vs H Q _ => ∃ n : Int, vs = [.int n] ∧ 0 ≤ n ∧ n < 2 ^ 4000 ∧ ∀ r, IsRoot n r → Q (.int r) H
section
variable {P : Program} {w : World} {K : PySem.W.Frag} {mg : Str → Option Value} {base : Heap}
theorem ok_root_below {f : Addr} {fd : FuncData} (F : Fun K "root_below" "root_below" s_root_below f fd) : FnOk P w K mg base CX0 1 f fd ["number"] sp_root_below := by
  refine F.ok sc_root_below (fun vs H Q E h => ?_) (fun cdv A outer s H vs Q E hr h => ?_)
  · obtain ⟨n, rfl, _⟩ := h
    rfl
  · obtain ⟨n, rfl, h0, hw, k⟩ := h
    refine ⟨_, (pss_cons (ps_if (pt_cmpR op_eq (pv 0) pe_int (nomark _))
      (pss_one (ps_ret pe_int)) pss_nil)
    (pss_cons (ps_set (i := 1) sc_root_below.nd rfl (Or.inl rfl) (pe_op op_shl pe_int (pe_op op_fdiv (pe_op op_add (pe_bits (pv 0)) pe_int) pe_int)))
    (pss_one (ps_while PassesOwn.never (pt_val pe_bl)
      (pss_cons (ps_set (i := 2) sc_root_below.nd rfl (Or.inl rfl) (pe_op op_fdiv (pe_op op_add (pv 1) (pe_op op_fdivW (pv 0) (pv 1))) pe_int))
    (pss_cons (ps_if (pt_cmpR op_ge (pv 2) (pv 1) (nomark _))
      (pss_one (ps_ret (pv 1))) pss_nil)
    (pss_one (ps_set (i := 1) sc_root_below.nd rfl (Or.inl rfl) (pv 2))))))))), ?_⟩
    refine ⟨_, rfl, rfl, _, rfl, ite2 (fun c => ?_) (fun c => ?_)⟩
    · have e : n = 0 := V.int.inj (of_decide_eq_true c)
      subst e
      exact k 0 ⟨by decide, by decide, by decide⟩
    · have hn : 0 < n := by
        have : n ≠ 0 := fun z => c (decide_eq_true (by rw [z]))
        omega
      have hbits : Builtin.Int.intBits n ≤ 4000 := PyProof.Rows.intBits_le (natAbs_lt_pow h0 hw)
      refine ⟨_, rfl, _, rfl, _, _, rfl, rfl, _, _, rfl, rfl, ⟨by decide, by decide⟩, _, _, rfl, rfl, ⟨by omega, by omega, by decide⟩, ?_⟩
      have e0 : (((Builtin.Int.intBits n : Nat) : Int) + 1) / 2 = (((Builtin.Int.intBits n + 1) / 2 : Nat) : Int) := by omega
      have e1 : (1 : Int) * 2 ^ ((((Builtin.Int.intBits n : Nat) : Int) + 1) / 2).toNat = 2 ^ ((Builtin.Int.intBits n + 1) / 2) := by rw [e0, Int.toNat_natCast, Int.one_mul]
      show tWhile _ _ _ [some (V.int n), some (V.int ((1 : Int) * 2 ^ ((((Builtin.Int.intBits n : Nat) : Int) + 1) / 2).toNat)), none] H
      rw [e1]
      refine while_by (fun σ H2 => ∃ (g : Int) (b : Option V), σ = [some (.int n), some (.int g), b] ∧ 0 < g ∧ g < 2 ^ 4001 ∧ n < (g + 1) * (g + 1) ∧ H2 = H)
        (fun σ _ => match σ with | [_, some (.int g), _] => g.toNat | _ => 0) ⟨_, none, rfl, Int.pow_pos (by decide), ?_, first_guess h0, rfl⟩ ?_ ?_
      · exact Int.pow_lt_pow_of_lt (by decide) (by omega)
      · rintro σ H2 ⟨g, b, rfl, hg, hgw, hlt, rfl⟩
        refine ⟨_, rfl, iteT ?_⟩
        refine ⟨_, rfl, _, rfl, _, rfl, _, _, rfl, rfl, wide_div (b := 4001) hg (natAbs_lt_pow (Int.le_of_lt hg) hgw) (by decide) (by decide), _, _, rfl, rfl, _, _, rfl, rfl, ⟨by decide, by decide⟩, ?_⟩
        have hb := newton (n := n) hg rfl rfl
        refine ⟨_, rfl, _, rfl, _, _, rfl, rfl, _, rfl, ite2 (fun c2 => ?_) (fun c2 => ?_)⟩
        · exact ⟨_, rfl, k g ⟨by omega, newton_end hg h0 (of_decide_eq_true c2), hlt⟩⟩
        · have c3 : ¬ g ≤ (g + n / g) / 2 := fun z => c2 (decide_eq_true z)
          have hd : 0 ≤ n / g := Int.ediv_nonneg h0 (by omega)
          have hb0 : 0 < (g + n / g) / 2 := by
            rcases Int.lt_or_le 0 ((g + n / g) / 2) with z | z
            · exact z
            · exfalso
              have e1 : g = 1 := by omega
              subst e1
              have : n / 1 = n := Int.ediv_one n
              omega
          exact ⟨_, rfl, ⟨_, _, rfl, hb0, by omega, hb, rfl⟩, by show ((g + n / g) / 2).toNat < g.toNat; omega⟩
      · intro σ H2 Q1 Q2 im hq
        exact hq.elim fun c ⟨e, z⟩ => ⟨c, e, im _ _ z⟩
end
/-! ### chains of fractions, in plain Lean -/
theorem fmod_pos {a b : Int} (h : 0 < b) : 0 ≤ a.fmod b ∧ a.fmod b < b := ⟨Int.fmod_nonneg_of_pos a h, Int.fmod_lt_of_pos a h⟩
theorem fmod_neg {a b : Int} (h : b < 0) : b < a.fmod b ∧ a.fmod b ≤ 0 := by
  have h1 := Int.fmod_nonneg_of_pos (-a) (show 0 < -b by omega)
  have h2 := Int.fmod_lt_of_pos (-a) (show 0 < -b by omega)
  rw [Int.neg_fmod_neg] at h1 h2
  omega
theorem fmod_abs {a b : Int} (h : b ≠ 0) : (a.fmod b).natAbs < b.natAbs := by
  rcases Int.lt_or_gt_of_ne h with h | h
  · have := fmod_neg (a := a) h; omega
  · have := fmod_pos (a := a) h; omega
theorem fdm (a b : Int) : b * a.fdiv b + a.fmod b = a := Int.mul_fdiv_add_fmod a b
theorem fmod_eq (a b : Int) : a - a.fdiv b * b = a.fmod b := by
  have := fdm a b
  rw [Int.mul_comm] at this
  omega
/-- the parts of the fraction t / b -/
def chain (t b : Int) : List Int := if h : b = 0 then [] else t.fdiv b :: chain b (t.fmod b)
termination_by b.natAbs
decreasing_by exact fmod_abs h
theorem chain_zero (t : Int) : chain t 0 = [] := by rw [chain, dif_pos rfl]
theorem chain_cons {t b : Int} (h : b ≠ 0) : chain t b = t.fdiv b :: chain b (t.fmod b) := by rw [chain, dif_neg h]
theorem chain_len : ∀ (n : Nat) (t b : Int), b.natAbs < 2 ^ n → (chain t b).length ≤ 2 * n
  | 0, t, b, h => by
    have e : b = 0 := by simp at h; exact h
    rw [e, chain_zero]; simp
  | n + 1, t, b, h => by
    by_cases hb : b = 0
    · rw [hb, chain_zero]; simp
    · rw [chain_cons hb, List.length_cons]
      by_cases hr : t.fmod b = 0
      · rw [hr, chain_zero, List.length_nil]; omega
      · rw [chain_cons hr, List.length_cons]
        have key : (b.fmod (t.fmod b)).natAbs < 2 ^ n := by
          have h1 := fdm b (t.fmod b)
          have hrp : 0 < b → 0 ≤ t.fmod b ∧ t.fmod b < b := fun z => fmod_pos z
          have hrn : b < 0 → b < t.fmod b ∧ t.fmod b ≤ 0 := fun z => fmod_neg z
          generalize t.fmod b = r at *
          have hd : ∀ q s : Int, r * q + s = b → ((0 < b ∧ 0 ≤ r ∧ r < b) ∨ (b < 0 ∧ b < r ∧ r ≤ 0)) → ((0 ≤ s ∧ s < r) ∨ (r < s ∧ s ≤ 0)) → 2 * s.natAbs < b.natAbs := by
            intro q s e c1 c2
            rcases c1 with ⟨p1, p2, p3⟩ | ⟨p1, p2, p3⟩
            · rcases c2 with ⟨p4, p5⟩ | ⟨p4, p5⟩
              · have hq : 0 < q := by
                  rcases Int.lt_or_le 0 q with z | z
                  · exact z
                  · have := Int.mul_le_mul_of_nonneg_left z p2
                    rw [Int.mul_zero] at this
                    omega
                have := Int.mul_le_mul_of_nonneg_left (show 1 ≤ q from hq) p2
                omega
              · omega
            · rcases c2 with ⟨p4, p5⟩ | ⟨p4, p5⟩
              · omega
              · have hq : 0 < q := by
                  rcases Int.lt_or_le 0 q with z | z
                  · exact z
                  · have := Int.mul_nonneg_of_nonpos_of_nonpos p3 z
                    omega
                have := Int.mul_nonneg (show 0 ≤ -r by omega) (show 0 ≤ q - 1 by omega)
                have e3 : -r * (q - 1) = r - r * q := by grind
                omega
          have c1 : (0 < b ∧ 0 ≤ r ∧ r < b) ∨ (b < 0 ∧ b < r ∧ r ≤ 0) := by
            rcases Int.lt_or_gt_of_ne hb with z | z
            · exact .inr ⟨z, hrn z⟩
            · exact .inl ⟨z, hrp z⟩
          have c2 : (0 ≤ b.fmod r ∧ b.fmod r < r) ∨ (r < b.fmod r ∧ b.fmod r ≤ 0) := by
            rcases Int.lt_or_gt_of_ne hr with z | z
            · exact .inr (fmod_neg z)
            · exact .inl (fmod_pos z)
          have := hd _ _ h1 c1 c2
          have e2 : 2 ^ (n + 1) = 2 * 2 ^ n := by rw [Nat.pow_succ]; omega
          omega
        have := chain_len n (t.fmod b) (b.fmod (t.fmod b)) key
        omega
/-- what a row of parts comes to -/
def fold : List Int → Int × Int
  | [] => (1, 0)
  | p :: r => (p * (fold r).1 + (fold r).2, (fold r).1)
theorem fold_pos : ∀ r : List Int, (∀ p ∈ r, 1 ≤ p) → 1 ≤ (fold r).1 ∧ 0 ≤ (fold r).2 ∧ (r ≠ [] → 1 ≤ (fold r).2)
  | [], _ => ⟨by decide, by decide, fun h => absurd rfl h⟩
  | p :: r, h => by
    obtain ⟨h1, h2, _⟩ := fold_pos r fun q hq => h q (List.mem_cons_of_mem _ hq)
    have hp := h p List.mem_cons_self
    have := Int.mul_le_mul hp h1 (by decide) (by omega)
    show 1 ≤ p * (fold r).1 + (fold r).2 ∧ 0 ≤ (fold r).1 ∧ (_ → 1 ≤ (fold r).1)
    omega
/-- parts as a chain has them behind the first: 1 or more, the last 2 or more -/
def Tail (r : List Int) : Prop := (∀ p ∈ r, 1 ≤ p) ∧ ∀ x, r.getLast? = some x → 2 ≤ x
theorem Tail.tail {p : Int} {r : List Int} (h : Tail (p :: r)) : Tail r := by
  refine ⟨fun q hq => h.1 q (List.mem_cons_of_mem _ hq), fun x hx => h.2 x ?_⟩
  cases r with
  | nil => cases hx
  | cons y s => rw [List.getLast?_cons_cons]; exact hx
theorem fold_tail : ∀ r : List Int, r ≠ [] → Tail r → (fold r).2 < (fold r).1
  | [], h, _ => absurd rfl h
  | [p], _, h => by
    have := h.2 p rfl
    show (1 : Int) < p * 1 + 0
    omega
  | p :: q :: r, _, h => by
    obtain ⟨h1, h2, h3⟩ := fold_pos (q :: r) fun x hx => h.1 x (List.mem_cons_of_mem _ hx)
    have hp := h.1 p List.mem_cons_self
    have := Int.mul_le_mul_of_nonneg_right hp (show 0 ≤ (fold (q :: r)).1 by omega)
    have h4 := h3 (List.cons_ne_nil _ _)
    show (fold (q :: r)).1 < p * (fold (q :: r)).1 + (fold (q :: r)).2
    omega
theorem fdiv_unique {a b q r : Int} (hb : 0 < b) (h : a = q * b + r) (h0 : 0 ≤ r) (h1 : r < b) : a.fdiv b = q ∧ a.fmod b = r := by
  have e := fdm a b
  obtain ⟨m0, m1⟩ := fmod_pos (a := a) hb
  have k : a.fdiv b = q := by
    generalize a.fdiv b = x at *
    generalize a.fmod b = y at *
    rcases Int.lt_trichotomy x q with z | z | z
    · have := Int.mul_le_mul_of_nonneg_left (show x + 1 ≤ q by omega) (show 0 ≤ b by omega)
      have e1 : b * (x + 1) = b * x + b := by grind
      have e2 : b * q = q * b := Int.mul_comm _ _
      omega
    · exact z
    · have := Int.mul_le_mul_of_nonneg_left (show q + 1 ≤ x by omega) (show 0 ≤ b by omega)
      have e1 : b * (q + 1) = b * q + b := by grind
      have e2 : b * q = q * b := Int.mul_comm _ _
      omega
  refine ⟨k, ?_⟩
  rw [k, Int.mul_comm] at e
  omega
theorem chain_fold : ∀ (p : Int) (r : List Int), Tail r → chain (fold (p :: r)).1 (fold (p :: r)).2 = p :: r
  | p, [], _ => by
    show chain (p * 1 + 0) 1 = [p]
    obtain ⟨e1, e2⟩ := fdiv_unique (a := p * 1 + 0) (b := 1) (q := p) (r := 0) (by decide) (by omega) (by decide) (by decide)
    rw [chain_cons (by decide), e1, e2, chain_zero]
  | p, q :: r, h => by
    obtain ⟨h1, h2, h3⟩ := fold_pos (q :: r) h.1
    have h4 := fold_tail (q :: r) (List.cons_ne_nil _ _) h
    have ih := chain_fold q r h.tail
    show chain (p * (fold (q :: r)).1 + (fold (q :: r)).2) (fold (q :: r)).1 = p :: q :: r
    obtain ⟨e1, e2⟩ := fdiv_unique (a := p * (fold (q :: r)).1 + (fold (q :: r)).2) (b := (fold (q :: r)).1) (q := p) (r := (fold (q :: r)).2) (by omega) rfl h2 h4
    rw [chain_cons (by omega), e1, e2, ih]
theorem gcd_fold : ∀ r : List Int, Int.gcd (fold r).1 (fold r).2 = 1
  | [] => by decide
  | p :: r => by
    have ih := gcd_fold r
    show Int.gcd (p * (fold r).1 + (fold r).2) (fold r).1 = 1
    rw [Int.gcd_comm, Int.add_comm, Int.mul_comm, Int.gcd_add_mul_left_right]
    exact ih
/-- a fraction is what its chain comes to, but for a factor -/
theorem fold_chain : ∀ (n : Nat) (t b : Int), b.natAbs ≤ n → ∃ g : Int, t = g * (fold (chain t b)).1 ∧ b = g * (fold (chain t b)).2 ∧ (0 < b → 0 < g) ∧ (b < 0 → g < 0) ∧ (b = 0 → g = t)
  | n, t, b, hn => by
    by_cases hb : b = 0
    · subst hb
      rw [chain_zero]
      exact ⟨t, by show t = t * 1; omega, by show (0 : Int) = t * 0; omega, fun h => by omega, fun h => by omega, fun _ => rfl⟩
    · have hm := fmod_abs (a := t) hb
      match n, hn with
      | n + 1, hn =>
        obtain ⟨g, e1, e2, p1, p2, p3⟩ := fold_chain n b (t.fmod b) (by omega)
        rw [chain_cons hb]
        refine ⟨g, ?_, e1, fun z => ?_, fun z => ?_, fun z => absurd z hb⟩
        · have e := fdm t b
          show t = g * (t.fdiv b * (fold (chain b (t.fmod b))).1 + (fold (chain b (t.fmod b))).2)
          generalize fold (chain b (t.fmod b)) = x at *
          generalize t.fmod b = r at *
          generalize t.fdiv b = q at *
          grind
        · obtain ⟨m0, m1⟩ := fmod_pos (a := t) z
          rcases Int.lt_or_eq_of_le m0 with y | y
          · exact p1 y
          · rw [p3 y.symm]; exact z
        · obtain ⟨m0, m1⟩ := fmod_neg (a := t) z
          rcases Int.lt_or_eq_of_le m1 with y | y
          · exact p2 y
          · rw [p3 y]; exact z
      | 0, hn => omega
theorem fold_low {t b : Int} (hb : b ≠ 0) : ∃ g : Int, t = g * (fold (chain t b)).1 ∧ b = g * (fold (chain t b)).2 ∧ g ≠ 0 ∧ (0 < g ↔ 0 < b) ∧ (g.natAbs = Int.gcd t b) := by
  obtain ⟨g, e1, e2, p1, p2, p3⟩ := fold_chain b.natAbs t b (Nat.le_refl _)
  have hg : g ≠ 0 := by
    rcases Int.lt_or_gt_of_ne hb with z | z
    · have := p2 z; omega
    · have := p1 z; omega
  refine ⟨g, e1, e2, hg, ⟨fun z => ?_, p1⟩, ?_⟩
  · rcases Int.lt_or_gt_of_ne hb with y | y
    · have := p2 y; omega
    · exact y
  · have h := gcd_fold (chain t b)
    generalize fold (chain t b) = x at *
    rw [e1, e2, Int.gcd_mul_left, h, Nat.mul_one]
theorem fold_bound : ∀ (r : List Int), (∀ p ∈ r, p.natAbs ≤ 2 ^ 39) → (fold r).1.natAbs ≤ 2 ^ (40 * r.length) ∧ (fold r).2.natAbs ≤ 2 ^ (40 * r.length)
  | [], _ => ⟨by decide, by decide⟩
  | p :: r, h => by
    obtain ⟨h1, h2⟩ := fold_bound r fun q hq => h q (List.mem_cons_of_mem _ hq)
    have hp := h p List.mem_cons_self
    have e : 2 ^ (40 * (r.length + 1)) = 2 ^ 39 * 2 ^ (40 * r.length) + 2 ^ 39 * 2 ^ (40 * r.length) := by
      rw [Nat.mul_add, Nat.pow_add]
      omega
    have e3 : 2 ^ (40 * r.length) ≤ 2 ^ 39 * 2 ^ (40 * r.length) := Nat.le_mul_of_pos_left _ (by decide)
    show (p * (fold r).1 + (fold r).2).natAbs ≤ 2 ^ (40 * (r.length + 1)) ∧ (fold r).1.natAbs ≤ 2 ^ (40 * (r.length + 1))
    have e4 := Int.natAbs_add_le (p * (fold r).1) (fold r).2
    have e5 : (p * (fold r).1).natAbs ≤ 2 ^ 39 * 2 ^ (40 * r.length) := by
      rw [Int.natAbs_mul]
      exact Nat.mul_le_mul hp h1
    omega
/-! ### further helpers of the laws -/
section
variable {P : Program} {w : World} {K : PySem.W.Frag} {mg : Str → Option Value} {base : Heap}
theorem dpAll_ints {H : Hp} : ∀ ns : List Int, DpAll K H (ns.map V.int) (ns.map PyData.int)
  | [] => .nil
  | n :: r => .cons (.int n) (dpAll_ints r)
theorem shaped_ints (ns : List Int) : SeqAt.shaped (.list (ns.map PyData.int)) = true := PySem.W.ke_shaped_ints ns
def small (z : Int) : Prop := z.natAbs < 2 ^ 1000
theorem small_fdiv {z : Int} (h : small z) (h0 : z ≠ 0) (y : Int) : CDivS y z := ⟨h0, Nat.lt_of_lt_of_le h (Nat.pow_le_pow_right (by decide) (by decide))⟩
theorem small_mul {x y : Int} (h : small x) (h' : small y) : CMulW x y := wide_mul (a := 1000) (b := 1000) h h' (by decide) (by decide) (by decide)
theorem fdiv_abs {a b : Int} (hb : b ≠ 0) : (a.fdiv b).natAbs ≤ a.natAbs := by
  have key : ∀ (x y q r : Int), 0 < y → y * q + r = x → 0 ≤ r → r < y → q.natAbs ≤ x.natAbs := by
    intro x y q r hy e r0 r1
    rcases Int.lt_or_le q 0 with z | z
    · have := Int.mul_nonneg (show 0 ≤ y - 1 by omega) (show 0 ≤ -q - 1 by omega)
      have e2 : (y - 1) * (-q - 1) = -(y * q) - y + q + 1 := by grind
      omega
    · have := Int.mul_nonneg (show 0 ≤ y - 1 by omega) z
      have e2 : (y - 1) * q = y * q - q := by grind
      omega
  rcases Int.lt_or_gt_of_ne hb with z | z
  · have h1 := fdm (-a) (-b)
    rw [Int.neg_fdiv_neg] at h1
    have := fmod_pos (a := -a) (show 0 < -b by omega)
    have := key (-a) (-b) _ _ (by omega) h1 this.1 this.2
    omega
  · exact key a b _ _ z (fdm a b) (fmod_pos z).1 (fmod_pos z).2
theorem small_fd {a b : Int} (h : small a) (hb : b ≠ 0) : small (a.fdiv b) := Nat.lt_of_le_of_lt (fdiv_abs hb) h
theorem small_fm {a b : Int} (h : small b) (hb : b ≠ 0) : small (a.fmod b) := Nat.lt_trans (fmod_abs hb) h
/-- the chain of a fraction, a new list -/
def sp_law_chain : Sp := fun vs H Q _ => ∃ t b : Int, vs = [.int t, .int b] ∧ small t ∧ small b ∧ ∀ H' p, Same H H' → H p = none → H' p = some (.lst ((chain t b).map V.int)) → Q (.ref p) H'
theorem ok_law_chain {f : Addr} {fd : FuncData} (F : Fun K "_law_chain" "_law_chain" s_law_chain f fd) : FnOk P w K mg base CX0 1 f fd ["_law_top", "_law_below"] sp_law_chain := by
  refine F.ok sc_law_chain (fun vs H Q E h => ?_) (fun cdv A outer s H vs Q E hr h => ?_)
  · obtain ⟨t, b, rfl, _⟩ := h
    rfl
  · obtain ⟨t, b, rfl, ht, hb, k⟩ := h
    refine ⟨_, (pss_cons (ps_set (i := 2) sc_law_chain.nd rfl (Or.inl rfl) (pe_lst pa_nil))
    (pss_cons (ps_while PassesOwn.never (pt_cmpR op_ne (pv 1) pe_int (nomark _))
      (pss_cons (ps_set (i := 3) sc_law_chain.nd rfl (Or.inl rfl) (pe_op op_fdivS (pv 0) (pv 1)))
    (pss_cons (ps_expr (pe_bm PySem.F.plainAttrs_list PySem.F.slot_list_append PySem.F.type_list_append mt_append (pv 2) (pa_cons (pv 3) pa_nil)))
    (pss_one (ps_par (i := 0) (j := 1) (by rfl) sc_law_chain.nd rfl rfl (by decide) rfl rfl (pa_cons (pv 1) (pa_cons (pe_op op_sub (pv 0) (pe_op op_mulW (pv 3) (pv 1))) pa_nil)) (by rfl))))))
    (pss_one (ps_ret (pv 2))))), ?_⟩
    refine ⟨Nat.zero_le _, fun p np => ?_⟩
    have hlen : (chain t b).length ≤ 2000 := chain_len 1000 t b hb
    refine while_by (fun σ H2 => ∃ (t' b' : Int) (acc : List Int) (v : Option V), σ = [some (.int t'), some (.int b'), some (.ref p), v] ∧ small t' ∧ small b' ∧ acc ++ chain t' b' = chain t b ∧ Same H H2 ∧ H2 p = some (.lst (acc.map V.int)))
      (fun σ _ => match σ with | [_, some (.int b'), _, _] => b'.natAbs | _ => 0) ⟨t, b, [], none, rfl, ht, hb, rfl, same_upd np, upd_same⟩ ?_ ?_
    · rintro σ H2 ⟨t', b', acc, v, rfl, st, sb, ea, sm, eh⟩
      refine ⟨_, rfl, rfl, _, rfl, ?_⟩
      by_cases hz : b' = 0
      · subst hz
        rw [decide_eq_true rfl]
        refine iteF ⟨_, rfl, ?_⟩
        rw [chain_zero, List.append_nil] at ea
        rw [ea] at eh
        exact k _ _ sm np eh
      · rw [decide_eq_false (fun z => hz (V.int.inj z))]
        refine iteT ⟨_, rfl, _, rfl, _, _, rfl, rfl, small_fdiv sb hz _, ?_⟩
        have ea' : (acc ++ [t'.fdiv b']) ++ chain b' (t'.fmod b') = chain t b := by
          rw [← ea, chain_cons hz, List.append_assoc]
          rfl
        have hl2 : acc.length < 2000 := by
          have := congrArg List.length ea'
          simp only [List.length_append, List.length_cons, List.length_nil] at this
          omega
        refine ⟨_, rfl, .inl ⟨rfl, _, SqL.of eh⟩, _, rfl, p, _, _, rfl, rfl, eh, (by rw [List.length_map]; exact Nat.lt_trans hl2 (by decide)), ?_⟩
        refine ⟨_, rfl, _, rfl, _, rfl, _, rfl, _, _, rfl, rfl, small_mul (small_fd st hz) sb, _, _, rfl, rfl, _, _, rfl, ?_⟩
        refine ⟨⟨b', t'.fmod b', acc ++ [t'.fdiv b'], some (.int (t'.fdiv b')), ?_, sb, small_fm sb hz, ea', fun c o e => ?_, ?_⟩, ?_⟩
        · rw [← fmod_eq t' b']
          rfl
        · rw [upd_ne (ne_of_none e np)]
          exact sm c o e
        · rw [upd_same, List.map_append]
          rfl
        · show (t' - t'.fdiv b' * b').natAbs < b'.natAbs
          rw [fmod_eq]
          exact fmod_abs hz
    · intro σ H2 Q1 Q2 im hq
      obtain ⟨v, e, e2, c, e3, z⟩ := hq
      exact ⟨v, e, e2, c, e3, im _ _ z⟩
def sp_law_common : Sp := fun vs H Q _ => ∃ x y : Int, vs = [.int x, .int y] ∧ Q (.int (Int.gcd x y : Nat)) H
theorem ok_law_common {f : Addr} {fd : FuncData} (F : Fun K "_law_common" "_law_common" s_law_common f fd) (T : BT mg) : FnOk P w K mg base CX0 1 f fd ["_law_one", "_law_other"] sp_law_common := by
  refine F.ok sc_law_common (fun vs H Q E h => ?_) (fun cdv A outer s H vs Q E hr h => ?_)
  · obtain ⟨x, y, rfl, _⟩ := h
    rfl
  · obtain ⟨x, y, rfl, k⟩ := h
    refine ⟨_, (pss_cons (ps_while PassesOwn.never (pt_cmpR op_ne (pv 1) pe_int (nomark _))
      (pss_one (ps_par (i := 0) (j := 1) (by rfl) sc_law_common.nd rfl rfl (by decide) rfl rfl (pa_cons (pv 1) (pa_cons (pe_op op_modN (pv 0) (pv 1)) pa_nil)) (by rfl))))
    (pss_one (ps_ret (pe_callB call_abs (by rfl) T.b_abs (by decide +kernel) (pa_cons (pv 0) pa_nil))))), ?_⟩
    refine while_by (fun σ H2 => ∃ x' y' : Int, σ = [some (.int x'), some (.int y')] ∧ Int.gcd x' y' = Int.gcd x y ∧ H2 = H) (fun σ _ => match σ with | [_, some (.int y')] => y'.natAbs | _ => 0) ⟨x, y, rfl, rfl, rfl⟩ ?_ ?_
    · rintro σ H2 ⟨x', y', rfl, eg, rfl⟩
      refine ⟨_, rfl, rfl, _, rfl, ?_⟩
      by_cases hz : y' = 0
      · subst hz
        rw [decide_eq_true rfl]
        refine iteF ⟨_, rfl, _, rfl, ?_⟩
        have e : (if x' < 0 then -x' else x') = ((Int.gcd x y : Nat) : Int) := by
          rw [← eg, Int.gcd_zero_right]
          split <;> omega
        show Q (.int (if x' < 0 then -x' else x')) H2
        rw [e]
        exact k
      · rw [decide_eq_false (fun z => hz (V.int.inj z))]
        refine iteT ⟨_, rfl, _, rfl, _, rfl, _, _, rfl, rfl, hz, _, _, rfl, ⟨_, _, rfl, ?_, rfl⟩, fmod_abs hz⟩
        rw [← eg, Int.gcd_comm x' y']
        have e := fdm x' y'
        have e2 := Int.gcd_add_mul_left_right y' (x'.fmod y') (x'.fdiv y')
        rw [show x'.fmod y' + y' * x'.fdiv y' = x' by omega] at e2
        exact e2.symm
    · intro σ H2 Q1 Q2 im hq
      obtain ⟨v, e, e2, c, e3, z⟩ := hq
      exact ⟨v, e, e2, c, e3, im _ _ z⟩
/-- a fraction in lowest terms, below 1 or more: a new tuple -/
def sp_law_lowest : Sp := fun vs H Q _ => ∃ t b : Int, vs = [.int t, .int b] ∧ b ≠ 0 ∧ small t ∧ small b ∧ ∀ p, H p = none → Q (.ref p) (upd H p (.tup [.int (fold (chain t b)).1, .int (fold (chain t b)).2]))
theorem ok_law_lowest {f : Addr} {fd : FuncData} (F : Fun K "_law_lowest" "_law_lowest" s_law_lowest f fd) (G_law_common : COk P w K mg base CX0 1 "_law_common" ["_law_one", "_law_other"] sp_law_common) : FnOk P w K mg base CX0 2 f fd ["_law_top", "_law_below"] sp_law_lowest := by
  refine F.ok sc_law_lowest (fun vs H Q E h => ?_) (fun cdv A outer s H vs Q E hr h => ?_)
  · obtain ⟨t, b, rfl, _⟩ := h
    rfl
  · obtain ⟨t, b, rfl, hb, st, sb, k⟩ := h
    refine ⟨_, (pss_cons (ps_set (i := 2) sc_law_lowest.nd rfl (Or.inl rfl) (pe_c G_law_common (hr.mono (by first | decide | omega)) (pa_cons (pv 0) (pa_cons (pv 1) pa_nil))))
    (C8.pss_cut (ps_if (pt_cmpR op_lt (pv 1) pe_int (nomark _))
      (pss_one (ps_set (i := 2) sc_law_lowest.nd rfl (Or.inl rfl) (pe_op op_sub pe_int (pv 2)))) pss_nil)
    (pss_one (ps_ret (pe_tup (pa_cons (pe_op op_fdivS (pv 0) (pv 2)) (pa_cons (pe_op op_fdivS (pv 1) (pv 2)) pa_nil))))))), ?_⟩
    obtain ⟨g, e1, e2, hg, hs, hgcd⟩ := fold_low (t := t) hb
    generalize fold (chain t b) = x at *
    have sg : small g := by
      have h2 : x.2 ≠ 0 := fun z => hb (by rw [e2, z, Int.mul_zero])
      have := congrArg Int.natAbs e2
      rw [Int.natAbs_mul] at this
      have h3 : g.natAbs * 1 ≤ g.natAbs * x.2.natAbs := Nat.mul_le_mul_left _ (by omega)
      exact Nat.lt_of_le_of_lt (show g.natAbs ≤ b.natAbs by omega) sb
    refine ⟨_, rfl, _, rfl, t, b, rfl, ?_⟩
    have fin : ∀ y : Int, g * y = g * y → (g * y).fdiv g = y := fun y _ => by
      have := Int.mul_fdiv_cancel_left y hg
      exact this
    have q1 : t.fdiv g = x.1 := by rw [e1]; exact fin _ rfl
    have q2 : b.fdiv g = x.2 := by rw [e2]; exact fin _ rfl
    refine ⟨fun σ H2 => σ = [some (.int t), some (.int b), some (.int g)] ∧ H2 = H, ?_, ?_⟩
    · refine ⟨_, rfl, _, _, rfl, rfl, _, rfl, ite2 (fun c => ?_) (fun c => ?_)⟩
      · have c' : b < 0 := of_decide_eq_true c
        refine ⟨_, rfl, _, _, rfl, rfl, ?_, rfl⟩
        have : (0 : Int) - (Int.gcd t b : Nat) = g := by
          have : ¬ 0 < g := fun z => by have := hs.mp z; omega
          omega
        show [some (V.int t), some (V.int b), some (V.int (0 - ((Int.gcd t b : Nat) : Int)))] = _
        rw [this]
      · have c' : ¬ b < 0 := fun z => c (decide_eq_true z)
        refine ⟨?_, rfl⟩
        have : ((Int.gcd t b : Nat) : Int) = g := by
          have : 0 < g := hs.mpr (by omega)
          omega
        show [some (V.int t), some (V.int b), some (V.int ((Int.gcd t b : Nat) : Int))] = _
        rw [this]
    · rintro σ H2 ⟨rfl, rfl⟩
      refine ⟨_, rfl, _, rfl, _, _, rfl, rfl, small_fdiv sg hg _, _, rfl, _, rfl, _, _, rfl, rfl, small_fdiv sg hg _, (by show 2 ≤ sizeLine; decide), fun p hp => ?_⟩
      show Q (.ref p) (upd H2 p (.tup [.int (t.fdiv g), .int (b.fdiv g)]))
      rw [q1, q2]
      exact k p hp
end
/-! ### methods and makers, in short -/
def MOk (P : Program) (w : World) (K : PySem.W.Frag) (mg : Str → Option Value) (base : Heap) (CX : CXT) (k : Nat) (C : Addr) (m : Str) (ps : List Str) (sp : Sp) : Prop :=
  Cls K C ∧ ∃ (f : Addr) (fd : FuncData), FnOk P w K mg base CX k f fd ps sp ∧ Meth K C m f ∧ Binds K fd ps []
def IOk (P : Program) (w : World) (K : PySem.W.Frag) (mg : Str → Option Value) (base : Heap) (k : Nat) (x : Str) (C : Addr) (ps : List Str) (sp : Sp) : Prop :=
  mg x = some (.ref C) ∧ ∃ (f : Addr) (fd : FuncData), FnOk P w K mg base CX0 k f fd ps sp ∧ Mk K C f ∧ Binds K fd ps []
theorem MOk.of {P : Program} {w : World} {K : PySem.W.Frag} {mg : Str → Option Value} {base : Heap} {CX : CXT} {k : Nat} {C : Addr} {m qual : Str} {ps : List Str} {sp : Sp} {st : Stmt}
    (c : Cls K C) (D : ∃ f fd, Fun K m qual st f fd ∧ Meth K C m f ∧ Binds K fd ps []) (h : ∀ f fd, Fun K m qual st f fd → FnOk P w K mg base CX k f fd ps sp) : MOk P w K mg base CX k C m ps sp := by
  obtain ⟨f, fd, F, M, B⟩ := D
  exact ⟨c, f, fd, h f fd F, M, B⟩
theorem IOk.of {P : Program} {w : World} {K : PySem.W.Frag} {mg : Str → Option Value} {base : Heap} {k : Nat} {x : Str} {C : Addr} {m qual : Str} {ps : List Str} {sp : Sp} {st : Stmt}
    (g : mg x = some (.ref C)) (D : ∃ f fd, Fun K m qual st f fd ∧ Mk K C f ∧ Binds K fd ps []) (h : ∀ f fd, Fun K m qual st f fd → FnOk P w K mg base CX0 k f fd ps sp) : IOk P w K mg base k x C ps sp := by
  obtain ⟨f, fd, F, M, B⟩ := D
  exact ⟨g, f, fd, h f fd F, M, B⟩
theorem COk.by {P : Program} {w : World} {K : PySem.W.Frag} {mg : Str → Option Value} {base : Heap} {CX : CXT} {k : Nat} {x : Str} {st : Stmt} {ps : List Str} {sp : Sp}
    (D : ∃ f fd, DefAt K mg x st ps f fd) (h : ∀ f fd, Fun K x x st f fd → FnOk P w K mg base CX k f fd ps sp) : COk P w K mg base CX k x ps sp := by
  obtain ⟨f, fd, F⟩ := D
  exact .of F (h f fd F.fn)
section
variable {X : Cx} {k : Nat} {x m : Str} {ps : List Str} {sp : Sp} {o e : Expr} {es : List Expr} {ta : TE} {t : TA} {p pos apos : Pos} {C : Addr}
theorem pe_m {pl : Sem Bool} (M : MOk X.prog X.w X.K X.mg X.base CX0 k C m ps sp) (hr : Room k X.A) (he : PE X o ta) (ha : PA X (e :: es) t)
    (hst : starEach (e :: es) X.env = (false, eval e X.env) :: starEach es X.env := by rfl) (hpl : (backTo pos (starEach es X.env)).any (·.1) = false := by rfl)
    (ht : eval (.Call (.Attribute o m apos) (e :: es) [] pos) X.env = (do
      let ov ← eval o X.env; standAt apos.atName
      let (f, first) ← holding [ov] (getMethod ov m pl)
      callWith pos f first (backTo pos (starEach (e :: es) X.env)) (backToKw pos (keywordEach [] X.env))) := by rfl) :
    PE X (.Call (.Attribute o m apos) (e :: es) [] pos) (tMeth C m sp [] E0 ta t) := by
  obtain ⟨c, f, fd, F, M, B⟩ := M
  exact pe_meth (pl := pl) he c M F hr B .nil pass0 ha hst hpl ht
theorem pe_m0 {pl : Sem Bool} (M : MOk X.prog X.w X.K X.mg X.base CX0 k C m ps sp) (hr : Room k X.A) (he : PE X o ta)
    (ht : eval (.Call (.Attribute o m apos) [] [] pos) X.env = (do
      let ov ← eval o X.env; standAt apos.atName
      let (f, first) ← holding [ov] (getMethod ov m pl)
      callWith pos f first (backTo pos (starEach [] X.env)) (backToKw pos (keywordEach [] X.env))) := by rfl) :
    PE X (.Call (.Attribute o m apos) [] [] pos) (tMeth C m sp [] E0 ta tNil) := by
  obtain ⟨c, f, fd, F, M, B⟩ := M
  exact pe_meth0 (pl := pl) he c M F hr B .nil pass0 ht
theorem pe_mk (I : IOk X.prog X.w X.K X.mg X.base k x C ps sp) (hr : Room (k + 1) X.A) (ha : PA X (e :: es) t) (hg : Gl X x := by rfl)
    (hdb : (x == ("__debug__" : Str)) = false := by decide) (he : starEach (e :: es) X.env = (false, eval e X.env) :: starEach es X.env := by rfl) (hpl : (backTo pos (starEach es X.env)).any (·.1) = false := by rfl) :
    PE X (.Call (.Name x p) (e :: es) [] pos) (tMake C sp [] E0 t) := by
  obtain ⟨g, f, fd, F, M, B⟩ := I
  exact pe_make M F hr hg g B .nil pass0 ha hdb he hpl
theorem pe_mk0 (I : IOk X.prog X.w X.K X.mg X.base k x C ps sp) (hr : Room (k + 1) X.A) (hg : Gl X x := by rfl) (hdb : (x == ("__debug__" : Str)) = false := by decide) :
    PE X (.Call (.Name x p) [] [] pos) (tMake C sp [] E0 tNil) := by
  obtain ⟨g, f, fd, F, M, B⟩ := I
  exact pe_make0 M F hr hg g B .nil pass0 hdb
/-- what a call lets out, the def lets out -/
theorem passes_tk {E : XK} (tk : Takes X (fun cls d _ H => E cls d H)) : Passes (L2.CX X.prog X.w) X E := fun pins σ H s e s' I c => passAt (W := fun cls d _ H => E cls d H) tk σ pins H s e s' I c
theorem pe_mX {E : XK} {pl : Sem Bool} (M : MOk X.prog X.w X.K X.mg X.base (L2.CX X.prog X.w) k C m ps sp) (hr : Room k X.A) (hx : Passes (L2.CX X.prog X.w) X E) (he : PE X o ta) (ha : PA X (e :: es) t)
    (hst : starEach (e :: es) X.env = (false, eval e X.env) :: starEach es X.env := by rfl) (hpl : (backTo pos (starEach es X.env)).any (·.1) = false := by rfl)
    (ht : eval (.Call (.Attribute o m apos) (e :: es) [] pos) X.env = (do
      let ov ← eval o X.env; standAt apos.atName
      let (f, first) ← holding [ov] (getMethod ov m pl)
      callWith pos f first (backTo pos (starEach (e :: es) X.env)) (backToKw pos (keywordEach [] X.env))) := by rfl) :
    PE X (.Call (.Attribute o m apos) (e :: es) [] pos) (tMeth C m sp [] E ta t) := by
  obtain ⟨c, f, fd, F, M, B⟩ := M
  exact pe_meth (pl := pl) he c M F hr B .nil hx ha hst hpl ht
theorem pe_mX0 {E : XK} {pl : Sem Bool} (M : MOk X.prog X.w X.K X.mg X.base (L2.CX X.prog X.w) k C m ps sp) (hr : Room k X.A) (hx : Passes (L2.CX X.prog X.w) X E) (he : PE X o ta)
    (ht : eval (.Call (.Attribute o m apos) [] [] pos) X.env = (do
      let ov ← eval o X.env; standAt apos.atName
      let (f, first) ← holding [ov] (getMethod ov m pl)
      callWith pos f first (backTo pos (starEach [] X.env)) (backToKw pos (keywordEach [] X.env))) := by rfl) :
    PE X (.Call (.Attribute o m apos) [] [] pos) (tMeth C m sp [] E ta tNil) := by
  obtain ⟨c, f, fd, F, M, B⟩ := M
  exact pe_meth0 (pl := pl) he c M F hr B .nil hx ht
/-- o.f as a target -/
def gFld (K : PySem.W.Frag) (to : TE) (f : Str) : TG := fun v σ H Q => to σ H fun x H1 => ∃ a C dx fs, x = .ref a ∧ H1 a = some (.ins C dx fs) ∧ Cls K C ∧ NoAttr K C f ∧ fs.length < 1000 ∧ Q σ (upd H1 a (.ins C dx (putF f v fs)))
open PySem.Spec PyProof.Rows in
theorem pg_fld {o : Expr} {to : TE} {f : Str} {pos : Pos} (ho : PE X o to)
    (ha : ∀ v, assign (.Attribute o f pos) X.env v = (do
      let ov ← holding [v] (eval o X.env); standAt pos.atName
      holding [v, ov] (setAttr ov f v); release [v, ov] []) := by intro _; rfl) : PG X (.Attribute o f pos) (gFld X.K to f) := by
  refine ⟨fun pins s σ H v u Q I r h => ?_⟩
  rw [ha]
  refine wpAny_bind (wpAny_holding (thn (ho.run pins s σ H _ I h) fun ov sA hA => ?_))
  obtain ⟨x, HA, IA, rA, a, C, dx, fs, rfl, ea, c, n, l, q⟩ := hA
  cases rA
  refine wpAny_bind (wpAny_standAt (wpAny_bind (wpAny_holding (setattr_ok IA ea c n l r fun sB IB => ?_))))
  exact wpAny_release ⟨σ, _, IB, q⟩
end
/-- an own class over ValueError -/
structure XC (K : PySem.W.Frag) (mg : Str → Option Value) (C : Addr) (n : Str) : Prop where
  g : mg n = some (.ref C)
  x : PySem.W.excIn K C [.type "ValueError", .type "Exception", .type "BaseException", .type "object"] "ValueError.__new__" = true
  k : PySem.W.keepIn K (.ref C) = true
  b : PySem.W.subIn K (.ref C) (.type "BaseException") = some true
  t : PySem.W.typeIn K (.ref C) = some (.type "type")
/-- where the classes and the tuples of the top stand -/
structure Ad where
  c_Meter : Addr
  c_FractionChain : Addr
  c_RootChain : Addr
  c_RuledChain : Addr
  c_Leaf : Addr
  c_FractionBox : Addr
  c_FourBox : Addr
  c_EightBox : Addr
  c_Reading : Addr
  k_END : Addr
  k_WAITS : Addr
  k_TIMES : Addr
  k_LENGTHS : Addr
  k_CHECKS : Addr
  c_NoValue : Addr
structure CT (K : PySem.W.Frag) (mg : Str → Option Value) (A : Ad) : Prop extends BT mg where
  cl_Meter : Cls K A.c_Meter
  n_Meter_left : NoAttr K A.c_Meter "left"
  n_Meter_spent : NoAttr K A.c_Meter "spent"
  g_Meter : mg "Meter" = some (.ref A.c_Meter)
  cl_FractionChain : Cls K A.c_FractionChain
  n_FractionChain_top : NoAttr K A.c_FractionChain "top"
  n_FractionChain_below : NoAttr K A.c_FractionChain "below"
  g_FractionChain : mg "FractionChain" = some (.ref A.c_FractionChain)
  cl_RootChain : Cls K A.c_RootChain
  n_RootChain_top : NoAttr K A.c_RootChain "top"
  n_RootChain_square : NoAttr K A.c_RootChain "square"
  n_RootChain_below : NoAttr K A.c_RootChain "below"
  n_RootChain_root : NoAttr K A.c_RootChain "root"
  g_RootChain : mg "RootChain" = some (.ref A.c_RootChain)
  cl_RuledChain : Cls K A.c_RuledChain
  n_RuledChain_parts : NoAttr K A.c_RuledChain "parts"
  n_RuledChain_ring : NoAttr K A.c_RuledChain "ring"
  n_RuledChain_steps : NoAttr K A.c_RuledChain "steps"
  n_RuledChain_at : NoAttr K A.c_RuledChain "at"
  g_RuledChain : mg "RuledChain" = some (.ref A.c_RuledChain)
  cl_Leaf : Cls K A.c_Leaf
  n_Leaf_chain : NoAttr K A.c_Leaf "chain"
  g_Leaf : mg "Leaf" = some (.ref A.c_Leaf)
  cl_FractionBox : Cls K A.c_FractionBox
  n_FractionBox_top : NoAttr K A.c_FractionBox "top"
  n_FractionBox_below : NoAttr K A.c_FractionBox "below"
  n_FractionBox_told : NoAttr K A.c_FractionBox "told"
  g_FractionBox : mg "FractionBox" = some (.ref A.c_FractionBox)
  cl_FourBox : Cls K A.c_FourBox
  n_FourBox_numbers : NoAttr K A.c_FourBox "numbers"
  n_FourBox_tree : NoAttr K A.c_FourBox "tree"
  n_FourBox_started : NoAttr K A.c_FourBox "started"
  n_FourBox_told : NoAttr K A.c_FourBox "told"
  n_FourBox_rest : NoAttr K A.c_FourBox "rest"
  g_FourBox : mg "FourBox" = some (.ref A.c_FourBox)
  cl_EightBox : Cls K A.c_EightBox
  n_EightBox_numbers : NoAttr K A.c_EightBox "numbers"
  n_EightBox_trees : NoAttr K A.c_EightBox "trees"
  n_EightBox_taken : NoAttr K A.c_EightBox "taken"
  n_EightBox_told : NoAttr K A.c_EightBox "told"
  n_EightBox_rest : NoAttr K A.c_EightBox "rest"
  g_EightBox : mg "EightBox" = some (.ref A.c_EightBox)
  cl_Reading : Cls K A.c_Reading
  n_Reading_box : NoAttr K A.c_Reading "box"
  n_Reading_meter : NoAttr K A.c_Reading "meter"
  g_Reading : mg "Reading" = some (.ref A.c_Reading)
  g_END : mg "END" = some (.ref A.k_END)
  t_END : ∀ H, SqT K H A.k_END [.str "end"]
  g_WAITS : mg "WAITS" = some (.ref A.k_WAITS)
  t_WAITS : ∀ H, SqT K H A.k_WAITS [.str "waits"]
  g_TIMES : mg "TIMES" = some (.ref A.k_TIMES)
  t_TIMES : ∀ H, SqT K H A.k_TIMES [.int 1, .int 0, .int 0, .int 0, .int 0, .int 0, .int 0, .int 1]
  i_MOST_NUMBER : ∃ t, mg "MOST_NUMBER" = some (.int 1000000000000 t)
  i_MOST_DEPTH : ∃ t, mg "MOST_DEPTH" = some (.int 5 t)
  i_MOST_PARTS : ∃ t, mg "MOST_PARTS" = some (.int 12 t)
  i_MOST_POWER : ∃ t, mg "MOST_POWER" = some (.int 4 t)
  g_LENGTHS : mg "LENGTHS" = some (.ref A.k_LENGTHS)
  g_CHECKS : mg "CHECKS" = some (.ref A.k_CHECKS)
  x_NoValue : XC K mg A.c_NoValue "NoValue"
structure DT (K : PySem.W.Frag) (mg : Str → Option Value) (A : Ad) : Prop where
  wall : ∃ f fd, DefAt K mg "_wall" s_wall ["k"] f fd
  root_below : ∃ f fd, DefAt K mg "root_below" s_root_below ["number"] f fd
  Meter_init : ∃ f fd, Fun K "__init__" "Meter.__init__" s_Meter_init f fd ∧ Mk K A.c_Meter f ∧ Binds K fd ["self"] []
  Meter_allow : ∃ f fd, Fun K "allow" "Meter.allow" s_Meter_allow f fd ∧ Meth K A.c_Meter "allow" f ∧ Binds K fd ["self", "most"] []
  Meter_pay : ∃ f fd, Fun K "pay" "Meter.pay" s_Meter_pay f fd ∧ Meth K A.c_Meter "pay" f ∧ Binds K fd ["self"] []
  FractionChain_init : ∃ f fd, Fun K "__init__" "FractionChain.__init__" s_FractionChain_init f fd ∧ Mk K A.c_FractionChain f ∧ Binds K fd ["self", "top", "below"] []
  FractionChain_has_ended : ∃ f fd, Fun K "has_ended" "FractionChain.has_ended" s_FractionChain_has_ended f fd ∧ Meth K A.c_FractionChain "has_ended" f ∧ Binds K fd ["self"] []
  FractionChain_next_part : ∃ f fd, Fun K "next_part" "FractionChain.next_part" s_FractionChain_next_part f fd ∧ Meth K A.c_FractionChain "next_part" f ∧ Binds K fd ["self"] []
  RootChain_init : ∃ f fd, Fun K "__init__" "RootChain.__init__" s_RootChain_init f fd ∧ Mk K A.c_RootChain f ∧ Binds K fd ["self", "top", "square", "below"] []
  RootChain_has_ended : ∃ f fd, Fun K "has_ended" "RootChain.has_ended" s_RootChain_has_ended f fd ∧ Meth K A.c_RootChain "has_ended" f ∧ Binds K fd ["self"] []
  RootChain_next_part : ∃ f fd, Fun K "next_part" "RootChain.next_part" s_RootChain_next_part f fd ∧ Meth K A.c_RootChain "next_part" f ∧ Binds K fd ["self"] []
  RootChain_what_is_left : ∃ f fd, Fun K "what_is_left" "RootChain.what_is_left" s_RootChain_what_is_left f fd ∧ Meth K A.c_RootChain "what_is_left" f ∧ Binds K fd ["self"] []
  RuledChain_init : ∃ f fd, Fun K "__init__" "RuledChain.__init__" s_RuledChain_init f fd ∧ Mk K A.c_RuledChain f ∧ Binds K fd ["self", "parts", "ring", "steps"] []
  RuledChain_has_ended : ∃ f fd, Fun K "has_ended" "RuledChain.has_ended" s_RuledChain_has_ended f fd ∧ Meth K A.c_RuledChain "has_ended" f ∧ Binds K fd ["self"] []
  RuledChain_next_part : ∃ f fd, Fun K "next_part" "RuledChain.next_part" s_RuledChain_next_part f fd ∧ Meth K A.c_RuledChain "next_part" f ∧ Binds K fd ["self"] []
  Leaf_init : ∃ f fd, Fun K "__init__" "Leaf.__init__" s_Leaf_init f fd ∧ Mk K A.c_Leaf f ∧ Binds K fd ["self", "chain"] []
  Leaf_ask : ∃ f fd, Fun K "ask" "Leaf.ask" s_Leaf_ask f fd ∧ Meth K A.c_Leaf "ask" f ∧ Binds K fd ["self", "meter"] []
  leaf_of : ∃ f fd, DefAt K mg "leaf_of" s_leaf_of ["tree"] f fd
  root_chain : ∃ f fd, DefAt K mg "root_chain" s_root_chain ["top", "square", "below"] f fd
  FractionBox_init : ∃ f fd, Fun K "__init__" "FractionBox.__init__" s_FractionBox_init f fd ∧ Mk K A.c_FractionBox f ∧ Binds K fd ["self", "top", "below", "told"] []
  FractionBox_ask : ∃ f fd, Fun K "ask" "FractionBox.ask" s_FractionBox_ask f fd ∧ Meth K A.c_FractionBox "ask" f ∧ Binds K fd ["self", "meter"] []
  FractionBox_nothing_left : ∃ f fd, Fun K "nothing_left" "FractionBox.nothing_left" s_FractionBox_nothing_left f fd ∧ Meth K A.c_FractionBox "nothing_left" f ∧ Binds K fd ["self"] []
  FourBox_init : ∃ f fd, Fun K "__init__" "FourBox.__init__" s_FourBox_init f fd ∧ Mk K A.c_FourBox f ∧ Binds K fd ["self", "numbers", "tree", "started", "told"] []
  FourBox_ask : ∃ f fd, Fun K "ask" "FourBox.ask" s_FourBox_ask f fd ∧ Meth K A.c_FourBox "ask" f ∧ Binds K fd ["self", "meter"] []
  FourBox_tell : ∃ f fd, Fun K "tell" "FourBox.tell" s_FourBox_tell f fd ∧ Meth K A.c_FourBox "tell" f ∧ Binds K fd ["self", "part"] []
  FourBox_take : ∃ f fd, Fun K "take" "FourBox.take" s_FourBox_take f fd ∧ Meth K A.c_FourBox "take" f ∧ Binds K fd ["self", "answer"] []
  EightBox_init : ∃ f fd, Fun K "__init__" "EightBox.__init__" s_EightBox_init f fd ∧ Mk K A.c_EightBox f ∧ Binds K fd ["self", "numbers", "one", "other"] []
  EightBox_ask : ∃ f fd, Fun K "ask" "EightBox.ask" s_EightBox_ask f fd ∧ Meth K A.c_EightBox "ask" f ∧ Binds K fd ["self", "meter"] []
  EightBox_tell : ∃ f fd, Fun K "tell" "EightBox.tell" s_EightBox_tell f fd ∧ Meth K A.c_EightBox "tell" f ∧ Binds K fd ["self", "part"] []
  EightBox_take : ∃ f fd, Fun K "take" "EightBox.take" s_EightBox_take f fd ∧ Meth K A.c_EightBox "take" f ∧ Binds K fd ["self", "which", "answer"] []
  EightBox_left_without : ∃ f fd, Fun K "left_without" "EightBox.left_without" s_EightBox_left_without f fd ∧ Meth K A.c_EightBox "left_without" f ∧ Binds K fd ["self", "which"] []
  box_of_one : ∃ f fd, DefAt K mg "box_of_one" s_box_of_one ["numbers", "tree", "told"] f fd
  with_first_part : ∃ f fd, DefAt K mg "with_first_part" s_with_first_part ["numbers", "part"] f fd
  with_second_part : ∃ f fd, DefAt K mg "with_second_part" s_with_second_part ["numbers", "part"] f fd
  turned_over : ∃ f fd, DefAt K mg "turned_over" s_turned_over ["numbers", "part"] f fd
  four_corners : ∃ f fd, DefAt K mg "four_corners" s_four_corners ["numbers"] f fd
  eight_corners : ∃ f fd, DefAt K mg "eight_corners" s_eight_corners ["numbers"] f fd
  sure_part : ∃ f fd, DefAt K mg "sure_part" s_sure_part ["corners"] f fd
  check_tree : ∃ f fd, DefAt K mg "check_tree" s_check_tree ["tree"] f fd
  check_at_depth : ∃ f fd, DefAt K mg "check_at_depth" s_check_at_depth ["tree", "depth"] f fd
  require : ∃ f fd, DefAt K mg "require" s_require ["holds", "why"] f fd
  check_row : ∃ f fd, DefAt K mg "check_row" s_check_row ["row", "fewest", "most"] f fd
  is_whole : ∃ f fd, DefAt K mg "is_whole" s_is_whole ["number"] f fd
  check_fraction : ∃ f fd, DefAt K mg "check_fraction" s_check_fraction ["tree", "depth"] f fd
  check_root : ∃ f fd, DefAt K mg "check_root" s_check_root ["tree", "depth"] f fd
  check_ruled : ∃ f fd, DefAt K mg "check_ruled" s_check_ruled ["tree", "depth"] f fd
  check_four : ∃ f fd, DefAt K mg "check_four" s_check_four ["tree", "depth"] f fd
  check_eight : ∃ f fd, DefAt K mg "check_eight" s_check_eight ["tree", "depth"] f fd
  check_line : ∃ f fd, DefAt K mg "check_line" s_check_line ["numbers"] f fd
  check_power : ∃ f fd, DefAt K mg "check_power" s_check_power ["tree", "depth"] f fd
  Reading_init : ∃ f fd, Fun K "__init__" "Reading.__init__" s_Reading_init f fd ∧ Mk K A.c_Reading f ∧ Binds K fd ["self", "box"] []
  Reading_part : ∃ f fd, Fun K "part" "Reading.part" s_Reading_part f fd ∧ Meth K A.c_Reading "part" f ∧ Binds K fd ["self", "most"] []
  Reading_took : ∃ f fd, Fun K "took" "Reading.took" s_Reading_took f fd ∧ Meth K A.c_Reading "took" f ∧ Binds K fd ["self"] []
  reader : ∃ f fd, DefAt K mg "reader" s_reader ["tree"] f fd
  box_of : ∃ f fd, DefAt K mg "box_of" s_box_of ["tree"] f fd
  power_box : ∃ f fd, DefAt K mg "power_box" s_power_box ["tree", "times"] f fd
  order_of : ∃ f fd, DefAt K mg "order_of" s_order_of ["one", "other", "most"] f fd
  order_at : ∃ f fd, DefAt K mg "order_at" s_order_at ["at", "first", "second"] f fd
  is_greater : ∃ f fd, DefAt K mg "is_greater" s_is_greater ["first", "second"] f fd
  nearest : ∃ f fd, DefAt K mg "nearest" s_nearest ["tree", "size", "most"] f fd
  read_sides : ∃ f fd, DefAt K mg "read_sides" s_read_sides ["reading", "size", "most"] f fd
  stepped : ∃ f fd, DefAt K mg "stepped" s_stepped ["before", "last", "times"] f fd
  sides_within : ∃ f fd, DefAt K mg "sides_within" s_sides_within ["before", "last", "size"] f fd
  middle_reading : ∃ f fd, DefAt K mg "middle_reading" s_middle_reading ["low", "high"] f fd
  nearer_side : ∃ f fd, DefAt K mg "nearer_side" s_nearer_side ["order", "low", "high"] f fd
  law_row : ∃ f fd, DefAt K mg "_law_row" s_law_row ["_law_script"] f fd
  law_taken : ∃ f fd, DefAt K mg "_law_taken" s_law_taken ["_law_row_here", "_law_many"] f fd
  law_whole : ∃ f fd, DefAt K mg "_law_whole" s_law_whole ["_law_found"] f fd
  law_pair : ∃ f fd, DefAt K mg "_law_pair" s_law_pair ["_law_found", "_law_due_here"] f fd
  law_signed : ∃ f fd, DefAt K mg "_law_signed" s_law_signed ["_law_row_here", "_law_most"] f fd
  law_common : ∃ f fd, DefAt K mg "_law_common" s_law_common ["_law_one", "_law_other"] f fd
  law_lowest : ∃ f fd, DefAt K mg "_law_lowest" s_law_lowest ["_law_top", "_law_below"] f fd
  law_nearer : ∃ f fd, DefAt K mg "_law_nearer" s_law_nearer ["_law_one", "_law_other", "_law_top", "_law_below"] f fd
  law_due : ∃ f fd, DefAt K mg "_law_due" s_law_due ["_law_top", "_law_below", "_law_size"] f fd
  law_chain : ∃ f fd, DefAt K mg "_law_chain" s_law_chain ["_law_top", "_law_below"] f fd
  law_first_wants : ∃ f fd, DefAt K mg "_law_first_wants" s_law_first_wants ["_law_chain_here", "_law_size"] f fd
  law_middle : ∃ f fd, DefAt K mg "_law_middle" s_law_middle ["_law_top", "_law_below", "_law_size"] f fd
  law_wants : ∃ f fd, DefAt K mg "_law_wants" s_law_wants ["_law_top", "_law_below", "_law_size"] f fd
  law : ∃ f fd, DefAt K mg "law" s_law ["_law_script"] f fd

/-! ### the leaves: what they are, in plain Lean -/
inductive Chain where
  | frac (t b : Int)
  | root (t s b r : Int)
  | ruled (ps ring steps : List Int) (i : Nat)
def Chain.ended : Chain → Bool
  | .frac _ b => decide (b = 0)
  | .root _ _ _ _ => false
  | .ruled ps ring _ i => decide (ring = []) && decide (ps.length ≤ i)
def ruledAt (ps ring steps : List Int) (i : Nat) : Int :=
  if i < ps.length then ps.getD i 0 else ring.getD ((i - ps.length) % ring.length) 0 + (((i - ps.length) / ring.length : Nat) : Int) * steps.getD ((i - ps.length) % ring.length) 0
def rootPart (t b r : Int) : Int := (t + r + (if b < 0 then 1 else 0)).fdiv b
def Chain.part : Chain → Int
  | .frac t b => t.fdiv b
  | .root t _ b r => rootPart t b r
  | .ruled ps ring steps i => ruledAt ps ring steps i
def Chain.next : Chain → Chain
  | .frac t b => .frac b (t.fmod b)
  | .root t s b r => .root (rootPart t b r * b - t) s ((s - (rootPart t b r * b - t) * (rootPart t b r * b - t)).fdiv b) r
  | .ruled ps ring steps i => .ruled ps ring steps (i + 1)
/-- numbers of a root's chain, bounded for good -/
structure RootOk (t s b r : Int) : Prop where
  rt : IsRoot s r
  ns : r * r ≠ s
  nz : b ≠ 0
  dv : ∃ q, s - t * t = q * b
  sw : s < 2 ^ 400
  bn : b < 0 → -b ≤ 2 ^ 150
  bp : 0 < b → b ≤ 2 * r + 1 + 2 ^ 150
  tw : t.natAbs < 2 ^ 300
def tame (z : Int) : Prop := -1000000000000 ≤ z ∧ z ≤ 1000000000000
structure RuledOk (ps ring steps : List Int) : Prop where
  p1 : ps ≠ []
  p12 : ps.length ≤ 12
  r12 : ring.length ≤ 12
  same : steps.length = ring.length
  tp : ∀ z ∈ ps, tame z
  tr : ∀ z ∈ ring, tame z
  ts : ∀ z ∈ steps, tame z
def Chain.Ok : Chain → Prop
  | .frac t b => small t ∧ small b
  | .root t s b r => RootOk t s b r
  | .ruled ps ring steps _ => RuledOk ps ring steps
/-! ### what stands in the heap -/
abbrev Flds := List (Str × V)
def chF (t b : Int) : Flds := [("top", .int t), ("below", .int b)]
def rtF (t s b r : Int) : Flds := [("top", .int t), ("square", .int s), ("below", .int b), ("root", .int r)]
def ruF (p q u : Addr) (i : Nat) : Flds := [("parts", .ref p), ("ring", .ref q), ("steps", .ref u), ("at", .int i)]
def meF (l s : Int) : Flds := [("left", .int l), ("spent", .int s)]
def leF (c : Addr) : Flds := [("chain", .ref c)]
def reF (b m : Addr) : Flds := [("box", .ref b), ("meter", .ref m)]
def Chain.At (A : Ad) (K : PySem.W.Frag) (H : Hp) (a : Addr) : Chain → Prop
  | .frac t b => ∃ dx, H a = some (.ins A.c_FractionChain dx (chF t b))
  | .root t s b r => ∃ dx, H a = some (.ins A.c_RootChain dx (rtF t s b r))
  | .ruled ps ring steps i => ∃ dx p q u, H a = some (.ins A.c_RuledChain dx (ruF p q u i)) ∧ SqT K H p (ps.map V.int) ∧ SqT K H q (ring.map V.int) ∧ SqT K H u (steps.map V.int)
def MeterAt (A : Ad) (H : Hp) (m : Addr) (l s : Int) : Prop := ∃ dx, H m = some (.ins A.c_Meter dx (meF l s))
/-- a tuple stays one where all that was tracked but some instances and lists stays -/
theorem sqT_but {K : PySem.W.Frag} {H H' : Hp} {a : Addr} {xs : List V} {N : Addr → Prop} (h : SqT K H a xs) (k : ∀ b o, H b = some o → ¬ N b → H' b = some o) (hN : ∀ b o, N b → H b = some o → (∀ ys, o ≠ .tup ys) ∧ ∀ ob u, o ≠ .frz ob u) : SqT K H' a xs := by
  rcases h with (h | ⟨o, h⟩) | h
  · exact .inl (.inl (k _ _ h fun z => (hN _ _ z h).1 _ rfl))
  · exact .inl (.inr ⟨o, k _ _ h fun z => (hN _ _ z h).2 _ _ rfl⟩)
  · exact .inr h
theorem sqT_same {K : PySem.W.Frag} {H H' : Hp} {a : Addr} {xs : List V} (h : SqT K H a xs) (k : Same H H') : SqT K H' a xs := by
  rcases h with (h | ⟨o, h⟩) | h
  · exact .inl (.inl (k _ _ h))
  · exact .inl (.inr ⟨o, k _ _ h⟩)
  · exact .inr h
theorem sqT_ins {K : PySem.W.Frag} {H : Hp} {a b C dx : Addr} {xs : List V} {fs : Flds} {o : HO} (h : SqT K H a xs) (hb : H b = some (.ins C dx fs)) : SqT K (upd H b o) a xs :=
  sqT_but (N := fun c => c = b) h (fun c u e n => by rw [upd_ne n]; exact e) fun c u e z => by
    subst e
    rw [hb] at z
    cases z
    exact ⟨fun _ q => (by cases q), fun _ _ q => (by cases q)⟩
/-- a maker that lays its arguments down -/
def sp_ini (C : Addr) (n : Nat) (mk : List V → Flds) : Sp := fun vs H Q _ => ∃ (p dx : Addr) (us : List V), vs = .ref p :: us ∧ us.length = n ∧ H p = some (.ins C dx []) ∧ Q .non (upd H p (.ins C dx (mk us)))
section
variable {P : Program} {w : World} {K : PySem.W.Frag} {mg : Str → Option Value} {base : Heap} {A : Ad}
theorem ok_FractionChain_init (T : CT K mg A) (D : DT K mg A) : IOk P w K mg base 1 "FractionChain" A.c_FractionChain ["self", "top", "below"] (sp_ini A.c_FractionChain 2 fun us => [("top", us.getD 0 .non), ("below", us.getD 1 .non)]) := by
  refine IOk.of T.g_FractionChain D.FractionChain_init fun f fd F => ?_
  refine F.ok sc_FractionChain_init (fun vs H Q E h => ?_) (fun cdv Ar outer s H vs Q E hr h => ?_)
  · obtain ⟨p, dx, us, rfl, hl, _⟩ := h
    show us.length + 1 = 3
    omega
  · obtain ⟨p, dx, us, rfl, hl, hp, k⟩ := h
    match us, hl with
    | [u0, u1], _ =>
      refine ⟨_, (pss_cons (ps_fld (pv 0) (pv 1) rfl)
    (pss_one (ps_fld (pv 0) (pv 2) rfl))), ?_⟩
      refine ⟨_, rfl, _, rfl, p, _, dx, [], rfl, hp, T.cl_FractionChain, T.n_FractionChain_top, (by show 0 < 1000; decide), ?_⟩
      refine ⟨_, rfl, _, rfl, p, _, dx, _, rfl, upd_same, T.cl_FractionChain, T.n_FractionChain_below, (by show 1 < 1000; decide), ?_⟩
      refine cast (congrArg (Q V.non) ?_) k
      rw [upd_upd]
      rfl
theorem ok_FractionChain_has_ended (T : CT K mg A) (D : DT K mg A) : MOk P w K mg base CX0 1 A.c_FractionChain "has_ended" ["self"] (fun vs H Q _ => ∃ a t b, vs = [.ref a] ∧ Chain.At A K H a (.frac t b) ∧ Q (.bl (decide (b = 0))) H) := by
  refine MOk.of T.cl_FractionChain D.FractionChain_has_ended fun f fd F => ?_
  refine F.ok sc_FractionChain_has_ended (fun vs H Q E h => ?_) (fun cdv Ar outer s H vs Q E hr h => ?_)
  · obtain ⟨a, t, b, rfl, _⟩ := h
    rfl
  · obtain ⟨a, t, b, rfl, ⟨dx, ha⟩, k⟩ := h
    refine ⟨_, (pss_one (ps_ret (pe_cmpR op_eq (pe_fld (pv 0) rfl) pe_int (nomark _)))), ?_⟩
    refine ⟨_, rfl, a, _, dx, _, _, rfl, ha, T.cl_FractionChain, T.n_FractionChain_below, rfl, rfl, ?_⟩
    show Q (.bl (decide (V.int b = V.int 0))) H
    rw [dec_int]
    exact cast (congrArg (fun z => Q (V.bl z) H) (by rw [Bool.beq_eq_decide_eq])) k
theorem ok_FractionChain_next_part (T : CT K mg A) (D : DT K mg A) : MOk P w K mg base CX0 1 A.c_FractionChain "next_part" ["self"] (fun vs H Q _ => ∃ a t b, vs = [.ref a] ∧ Chain.At A K H a (.frac t b) ∧ b ≠ 0 ∧ small t ∧ small b ∧
    ∀ H', Chain.At A K H' a (.frac b (t.fmod b)) → (∀ c o, H c = some o → c ≠ a → H' c = some o) → Q (.int (t.fdiv b)) H') := by
  refine MOk.of T.cl_FractionChain D.FractionChain_next_part fun f fd F => ?_
  refine F.ok sc_FractionChain_next_part (fun vs H Q E h => ?_) (fun cdv Ar outer s H vs Q E hr h => ?_)
  · obtain ⟨a, t, b, rfl, _⟩ := h
    rfl
  · obtain ⟨a, t, b, rfl, ⟨dx, ha⟩, hb, st, sb, k⟩ := h
    refine ⟨_, (pss_cons (ps_set (i := 1) sc_FractionChain_next_part.nd rfl (Or.inl rfl) (pe_op op_fdivS (pe_fld (pv 0) rfl) (pe_fld (pv 0) rfl)))
    (pss_cons (ps_asg (pe_tup (pa_cons (pe_fld (pv 0) rfl) (pa_cons (pe_op op_sub (pe_fld (pv 0) rfl) (pe_op op_mulW (pv 1) (pe_fld (pv 0) rfl))) pa_nil))) (pg_tup rfl (pgs_cons (pg_fld (pv 0)) (pgs_cons (pg_fld (pv 0)) pgs_nil))))
    (pss_one (ps_ret (pv 1))))), ?_⟩
    have cl := T.cl_FractionChain
    refine ⟨_, rfl, a, _, dx, _, _, rfl, ha, cl, T.n_FractionChain_top, rfl, _, rfl, a, _, dx, _, _, rfl, ha, cl, T.n_FractionChain_below, rfl, _, _, rfl, rfl, small_fdiv sb hb _, ?_⟩
    refine ⟨_, rfl, a, _, dx, _, _, rfl, ha, cl, T.n_FractionChain_below, rfl, _, rfl, a, _, dx, _, _, rfl, ha, cl, T.n_FractionChain_top, rfl, _, rfl, _, rfl, a, _, dx, _, _, rfl, ha, cl, T.n_FractionChain_below, rfl, _, _, rfl, rfl, small_mul (small_fd st hb) sb, _, _, rfl, rfl, ?_⟩
    refine ⟨(by show 2 ≤ sizeLine; decide), fun q nq => ?_⟩
    have s1 := same_upd (o := .tup [V.int b, .int (t - t.fdiv b * b)]) nq
    refine ⟨q, _, rfl, SqT.of upd_same, rfl, _, _, rfl, _, rfl, a, _, dx, _, rfl, s1 _ _ ha, cl, T.n_FractionChain_top, (by show 2 < 1000; decide), ?_⟩
    refine ⟨_, _, rfl, _, rfl, a, _, dx, _, rfl, upd_same, cl, T.n_FractionChain_below, (by show 2 < 1000; decide), rfl, ?_⟩
    refine ⟨_, rfl, k _ ⟨dx, ?_⟩ fun c o e hc => ?_⟩
    · rw [upd_same, ← fmod_eq t b]
      rfl
    · rw [upd_ne hc, upd_ne hc]
      exact s1 _ _ e
end
/-! ### a root's chain stays within its bounds -/
theorem IsRoot.abs {s t : Int} (h : t * t = s) : IsRoot s t.natAbs := by
  have e : (t.natAbs : Int) * t.natAbs = s := by rw [← h]; exact Int.natAbs_mul_self
  refine ⟨by omega, by omega, ?_⟩
  have e2 : ((t.natAbs : Int) + 1) * ((t.natAbs : Int) + 1) = t.natAbs * t.natAbs + 2 * t.natAbs + 1 := by grind
  omega
theorem lt_of_sq {r n : Int} {k : Nat} (h0 : 0 ≤ r) (h : r * r ≤ n) (hn : n < 2 ^ (k + k)) : r < 2 ^ k := by
  rcases Int.lt_or_le r (2 ^ k) with z | z
  · exact z
  · exfalso
    have h1 := Int.mul_le_mul z z (Int.le_of_lt (Int.pow_pos (by decide))) h0
    rw [← Int.pow_add] at h1
    omega
/-- x b < y b, b above nought -/
theorem lt_of_mul {x y b : Int} (hb : 0 < b) (h : x * b < y * b) : x < y := by
  rcases Int.lt_or_le x y with z | z
  · exact z
  · have := Int.mul_le_mul_of_nonneg_right z (Int.le_of_lt hb)
    omega
theorem le_of_mul {x y b : Int} (hb : 0 < b) (h : x * b ≤ y * b) : x ≤ y := by
  rcases Int.lt_or_le y x with z | z
  · have := Int.mul_le_mul_of_nonneg_right (show y + 1 ≤ x from z) (Int.le_of_lt hb)
    have e : (y + 1) * b = y * b + b := by grind
    omega
  · exact z
theorem root_step {t s b r a : Int} (h : RootOk t s b r) (ha : a = rootPart t b r) :
    (0 < b → a * b - t ≤ r ∧ r + 1 ≤ a * b - t + b) ∧ (b < 0 → r + 1 ≤ a * b - t ∧ a * b - t ≤ r - b) := by
  subst ha
  refine ⟨fun hb => ?_, fun hb => ?_⟩
  · have e := fdm (t + r + 0) b
    have := fmod_pos (a := t + r + 0) hb
    unfold rootPart
    rw [if_neg (by omega), Int.mul_comm]
    omega
  · have e := fdm (t + r + 1) b
    have := fmod_neg (a := t + r + 1) hb
    unfold rootPart
    rw [if_pos hb, Int.mul_comm]
    omega
theorem root_next {t s b r : Int} (h : RootOk t s b r) : RootOk (rootPart t b r * b - t) s ((s - (rootPart t b r * b - t) * (rootPart t b r * b - t)).fdiv b) r := by
  obtain ⟨sp, sn⟩ := root_step h rfl
  obtain ⟨rt, ns, nz, ⟨q, hq⟩, sw, bn, bp, tw⟩ := h
  generalize rootPart t b r = a at *
  obtain ⟨r0, r1, r2⟩ := rt
  have hr : r < 2 ^ 200 := lt_of_sq r0 r1 sw
  have p150 : (2 : Int) ^ 150 = 1427247692705959881058285969449495136382746624 := by decide
  have p200 : (2 : Int) ^ 200 = 1606938044258990275541962092341162602522202993782792835301376 := by decide
  have p300 : (2 : Nat) ^ 300 = 2037035976334486086268445688409378161051468393665936250636140449354381299763336706183397376 := by decide
  have hd : s - (a * b - t) * (a * b - t) = (q - a * (a * b - 2 * t)) * b := by
    have e : s - (a * b - t) * (a * b - t) = (s - t * t) - (a * (a * b - 2 * t)) * b := by grind
    rw [e, hq]
    grind
  have e2 : (s - (a * b - t) * (a * b - t)).fdiv b = q - a * (a * b - 2 * t) := by
    rw [hd]
    exact Int.mul_fdiv_cancel _ nz
  rw [e2]
  generalize q - a * (a * b - 2 * t) = c at *
  generalize a * b - t = u at *
  have ex : (r + 1) * (r + 1) = r * r + 2 * r + 1 := by grind
  have c0 : c ≠ 0 := fun z => by
    rw [z, Int.zero_mul] at hd
    have e : u * u = s := by omega
    have hu := (IsRoot.abs e).unique ⟨r0, r1, r2⟩
    have : (u.natAbs : Int) * u.natAbs = u * u := Int.natAbs_mul_self
    rw [hu] at this
    omega
  refine ⟨⟨r0, r1, r2⟩, ns, c0, ⟨b, by rw [hd, Int.mul_comm]⟩, sw, ?_, ?_, ?_⟩
  · intro hc
    rcases Int.lt_or_gt_of_ne nz with hb | hb
    · exfalso
      obtain ⟨u1, u2⟩ := sn hb
      have k1 := Int.mul_nonneg_of_nonpos_of_nonpos (Int.le_of_lt hc) (Int.le_of_lt hb)
      have k2 := Int.mul_le_mul u1 u1 (by omega) (by omega)
      omega
    · obtain ⟨u1, u2⟩ := sp hb
      have hu : u ≤ -r - 1 := by
        rcases Int.lt_or_le u (-r) with z | z
        · omega
        · exfalso
          have k1 : u * u ≤ r * r := by
            have := Int.mul_nonneg (show 0 ≤ r - u by omega) (show 0 ≤ r + u by omega)
            have e : (r - u) * (r + u) = r * r - u * u := by grind
            omega
          have k2 := Int.mul_nonneg (show 0 ≤ -c - 1 by omega) (Int.le_of_lt hb)
          have e3 : (-c - 1) * b = -(c * b) - b := by grind
          omega
      have k3 : (-c) * b ≤ (-u - r) * b := by
        have k4 := Int.mul_le_mul_of_nonneg_left (show -u + r ≤ b by omega) (show 0 ≤ -u - r by omega)
        have e4 : (-u - r) * (-u + r) = u * u - r * r := by grind
        have e5 : -c * b = -(c * b) := by grind
        omega
      have k5 := le_of_mul hb k3
      have := bp hb
      omega
  · intro hc
    rcases Int.lt_or_gt_of_ne nz with hb | hb
    · obtain ⟨u1, u2⟩ := sn hb
      have k3 : c * (-b) ≤ (u + r) * (-b) := by
        have k4 := Int.mul_le_mul_of_nonneg_left (show u - r ≤ -b by omega) (show 0 ≤ u + r by omega)
        have e4 : (u + r) * (u - r) = u * u - r * r := by grind
        have e5 : c * -b = -(c * b) := by grind
        omega
      have k5 := le_of_mul (show 0 < -b by omega) k3
      have := bn hb
      omega
    · obtain ⟨u1, u2⟩ := sp hb
      have hu : -r ≤ u := by
        rcases Int.lt_or_le u (-r) with z | z
        · exfalso
          have k1 := Int.mul_le_mul (show r + 1 ≤ -u by omega) (show r + 1 ≤ -u by omega) (by omega) (by omega)
          have e : -u * -u = u * u := by grind
          have k2 := Int.mul_nonneg (Int.le_of_lt hc) (Int.le_of_lt hb)
          omega
        · exact z
      have k3 : c * b < (r + 1 + u) * b := by
        have k4 := Int.mul_le_mul_of_nonneg_left (show r + 1 - u ≤ b by omega) (show 0 ≤ r + 1 + u by omega)
        have e4 : (r + 1 + u) * (r + 1 - u) = (r + 1) * (r + 1) - u * u := by grind
        omega
      have k5 := lt_of_mul hb k3
      omega
  · rcases Int.lt_or_gt_of_ne nz with hb | hb
    · obtain ⟨u1, u2⟩ := sn hb
      have := bn hb
      omega
    · obtain ⟨u1, u2⟩ := sp hb
      have := bp hb
      omega
theorem dvd_of_sq {w r s : Int} (hw : w ≠ 0) (h : r * r = s * (w * w)) : ∃ k, r = k * w := by
  have h1 : w ^ 2 ∣ r ^ 2 := ⟨s, by
    have e1 : r ^ 2 = r * r := by grind
    have e2 : w ^ 2 = w * w := by grind
    rw [e1, e2, h, Int.mul_comm]⟩
  have h2 : w ∣ r := (Int.pow_dvd_pow_iff (by decide)).mp h1
  obtain ⟨k, hk⟩ := h2
  exact ⟨k, by rw [hk, Int.mul_comm]⟩
/-- a root's first numbers, widened -/
theorem root_first {t s b r q : Int} (ht : tame t) (hs0 : 0 ≤ s) (hs : s ≤ 1000000000000) (hb : tame b) (h0 : b ≠ 0) (hr : IsRoot s r) (hn : r * r ≠ s) (hq : IsRoot (s * (b.natAbs : Int) * (b.natAbs : Int)) q) :
    RootOk (t * (b.natAbs : Int)) (s * (b.natAbs : Int) * (b.natAbs : Int)) (b * (b.natAbs : Int)) q := by
  obtain ⟨t1, t2⟩ := ht
  obtain ⟨b1, b2⟩ := hb
  have w0 : (0 : Int) < b.natAbs := by omega
  have w1 : (b.natAbs : Int) ≤ 1000000000000 := by omega
  have hbw : b = b.natAbs ∨ b = -(b.natAbs : Int) := by omega
  generalize (b.natAbs : Int) = w at *
  have ww : w * w ≤ 1000000000000 * 1000000000000 := Int.mul_le_mul w1 w1 (by omega) (by decide)
  have ww0 : 0 < w * w := Int.mul_pos w0 w0
  have sww : s * w * w ≤ 1000000000000 * (1000000000000 * 1000000000000) := by
    rw [Int.mul_assoc]
    exact Int.mul_le_mul hs ww (by omega) (by decide)
  have p150 : (2 : Int) ^ 150 = 1427247692705959881058285969449495136382746624 := by decide
  refine ⟨hq, fun z => ?_, ?_, ?_, Int.lt_of_le_of_lt sww (by decide +kernel), ?_, ?_, ?_⟩
  · obtain ⟨k, hk⟩ := dvd_of_sq (w := w) (r := q) (s := s) (by omega) (by rw [z, Int.mul_assoc])
    have e : k * k = s := by
      have e1 : (k * k - s) * (w * w) = 0 := by
        have : q * q = s * w * w := z
        rw [hk] at this
        grind
      rcases Int.mul_eq_zero.mp e1 with y | y <;> omega
    have hk2 := (IsRoot.abs e).unique hr
    have : (k.natAbs : Int) * k.natAbs = k * k := Int.natAbs_mul_self
    rw [hk2] at this
    omega
  · rcases hbw with e | e <;> rw [e]
    · omega
    · intro z
      have : -w * w = -(w * w) := by grind
      omega
  · rcases hbw with e | e <;> rw [e]
    · exact ⟨s - t * t, by grind⟩
    · exact ⟨-(s - t * t), by grind⟩
  · intro z
    have : -(b * w) ≤ w * w := by
      rcases hbw with e | e <;> rw [e]
      · omega
      · have : -w * w = -(w * w) := by grind
        omega
    omega
  · intro z
    have : b * w ≤ w * w := by
      rcases hbw with e | e <;> rw [e]
      · exact Int.le_refl _
      · have : -w * w = -(w * w) := by grind
        omega
    have := hq.1
    omega
  · rw [Int.natAbs_mul]
    have : t.natAbs * w.natAbs ≤ 1000000000000 * 1000000000000 := Nat.mul_le_mul (by omega) (by omega)
    exact Nat.lt_of_le_of_lt this (by decide +kernel)
section
variable {P : Program} {w : World} {K : PySem.W.Frag} {mg : Str → Option Value} {base : Heap} {A : Ad}
theorem root_small {t s b r : Int} (h : RootOk t s b r) : small t ∧ small b ∧ small r ∧ small s ∧ small (t + r + (if b < 0 then 1 else 0)) ∧ small (rootPart t b r) ∧ small (rootPart t b r * b - t) := by
  have n := root_next h
  obtain ⟨⟨r0, r1, r2⟩, ns, nz, dv, sw, bn, bp, tw⟩ := h
  have hr : r < 2 ^ 200 := lt_of_sq r0 r1 sw
  have p150 : (2 : Int) ^ 150 = 1427247692705959881058285969449495136382746624 := by decide
  have p200 : (2 : Int) ^ 200 = 1606938044258990275541962092341162602522202993782792835301376 := by decide
  have p300 : (2 : Nat) ^ 300 = 2037035976334486086268445688409378161051468393665936250636140449354381299763336706183397376 := by decide
  have up : ∀ z : Int, z.natAbs < 2 ^ 302 → small z := fun z hz => Nat.lt_trans hz (Nat.pow_lt_pow_right (by decide) (by decide))
  have p302 : (2 : Nat) ^ 302 = 4 * 2 ^ 300 := by decide
  have st : (t + r + (if b < 0 then 1 else 0)).natAbs < 2 ^ 302 := by split <;> omega
  have hs0 : 0 ≤ s := Int.le_trans (sq_nonneg r) r1
  refine ⟨up _ (by omega), up _ ?_, up _ (by omega), ?_, up _ st, ?_, up _ (by have := n.tw; omega)⟩
  · rcases Int.lt_or_gt_of_ne nz with z | z
    · have := bn z; omega
    · have := bp z; omega
  · exact Nat.lt_trans (natAbs_lt_pow hs0 sw) (Nat.pow_lt_pow_right (by decide) (by decide))
  · exact Nat.lt_of_le_of_lt (fdiv_abs nz) (up _ st)
def sp_RootChain_init (A : Ad) : Sp := fun vs H Q _ => ∃ (p dx : Addr) (t s b : Int), vs = [.ref p, .int t, .int s, .int b] ∧ H p = some (.ins A.c_RootChain dx []) ∧ tame t ∧ 0 ≤ s ∧ s ≤ 1000000000000 ∧ tame b ∧ b ≠ 0 ∧ (∀ r, IsRoot s r → r * r ≠ s) ∧
  ∀ q, RootOk (t * (b.natAbs : Int)) (s * (b.natAbs : Int) * (b.natAbs : Int)) (b * (b.natAbs : Int)) q → Q .non (upd H p (.ins A.c_RootChain dx (rtF (t * (b.natAbs : Int)) (s * (b.natAbs : Int) * (b.natAbs : Int)) (b * (b.natAbs : Int)) q)))
theorem small_tame {z : Int} (h : tame z) : small z := by
  obtain ⟨h1, h2⟩ := h
  have p40 : (2 : Nat) ^ 40 = 1099511627776 := by decide
  exact Nat.lt_trans (show z.natAbs < 2 ^ 40 by omega) (Nat.pow_lt_pow_right (by decide) (by decide))
theorem ok_RootChain_init (T : CT K mg A) (D : DT K mg A) (G_root_below : COk P w K mg base CX0 1 "root_below" ["number"] sp_root_below) (hroot : ∀ s : Int, 0 ≤ s → ∃ r, IsRoot s r) : IOk P w K mg base 2 "RootChain" A.c_RootChain ["self", "top", "square", "below"] (sp_RootChain_init A) := by
  refine IOk.of T.g_RootChain D.RootChain_init fun f fd F => ?_
  refine F.ok sc_RootChain_init (fun vs H Q E h => ?_) (fun cdv Ar outer s H vs Q E hr h => ?_)
  · obtain ⟨p, dx, t, s, b, rfl, _⟩ := h
    rfl
  · obtain ⟨p, dx, t, sq, b, rfl, hp, ht, hs0, hs1, hb, hb0, hns, k⟩ := h
    refine ⟨_, (pss_cons (ps_set (i := 4) sc_RootChain_init.nd rfl (Or.inl rfl) (pe_callB call_abs (by rfl) T.b_abs (by decide +kernel) (pa_cons (pv 3) pa_nil)))
    (pss_cons (ps_fld (pv 0) (pe_op op_mul (pv 1) (pv 4)) rfl)
    (pss_cons (ps_fld (pv 0) (pe_op op_mul (pe_op op_mul (pv 2) (pv 4)) (pv 4)) rfl)
    (pss_cons (ps_fld (pv 0) (pe_op op_mul (pv 3) (pv 4)) rfl)
    (pss_one (ps_fld (pv 0) (pe_c G_root_below (hr.mono (by first | decide | omega)) (pa_cons (pe_fld (pv 0) rfl) pa_nil)) rfl)))))), ?_⟩
    have cl := T.cl_RootChain
    have ew : (if b < 0 then -b else b) = (b.natAbs : Int) := by split <;> omega
    obtain ⟨b1, b2⟩ := id hb
    obtain ⟨t1, t2⟩ := id ht
    have w64 : -(2 ^ 64) < ((b.natAbs : Int)) ∧ ((b.natAbs : Int)) < 2 ^ 64 := by
      have : (2 : Int) ^ 64 = 18446744073709551616 := by decide
      omega
    refine ⟨_, rfl, b, rfl, ?_⟩
    show tSeq _ _ _ [some (V.ref p), some (V.int t), some (V.int sq), some (V.int b), some (V.int (if b < 0 then -b else b))] H
    rw [ew]
    refine ⟨_, rfl, _, rfl, _, _, rfl, rfl, .inr w64, _, rfl, p, _, dx, [], rfl, hp, cl, T.n_RootChain_top, (by show 0 < 1000; decide), ?_⟩
    refine ⟨_, rfl, _, rfl, _, _, rfl, rfl, .inr w64, _, rfl, _, _, rfl, rfl, .inr w64, _, rfl, p, _, dx, _, rfl, upd_same, cl, T.n_RootChain_square, (by show 1 < 1000; decide), ?_⟩
    refine ⟨_, rfl, _, rfl, _, _, rfl, rfl, .inr w64, _, rfl, p, _, dx, _, rfl, upd_same, cl, T.n_RootChain_below, (by show 2 < 1000; decide), ?_⟩
    have w1 : (b.natAbs : Int) ≤ 1000000000000 := by omega
    have ww : (b.natAbs : Int) * b.natAbs ≤ 1000000000000 * 1000000000000 := Int.mul_le_mul w1 w1 (by omega) (by decide)
    have ww0 : 0 ≤ (b.natAbs : Int) * b.natAbs := Int.mul_nonneg (by omega) (by omega)
    have sww : sq * (b.natAbs : Int) * b.natAbs ≤ 1000000000000 * (1000000000000 * 1000000000000) := by
      rw [Int.mul_assoc]
      exact Int.mul_le_mul hs1 ww ww0 (by decide)
    have sw0 : 0 ≤ sq * (b.natAbs : Int) * b.natAbs := by rw [Int.mul_assoc]; exact Int.mul_nonneg hs0 ww0
    refine ⟨_, rfl, p, _, dx, _, _, rfl, upd_same, cl, T.n_RootChain_square, rfl, _, rfl, sw0, Int.lt_of_le_of_lt sww (by decide +kernel), fun q hq => ?_⟩
    refine ⟨_, rfl, p, _, dx, _, rfl, upd_same, cl, T.n_RootChain_root, (by show 3 < 1000; decide), ?_⟩
    obtain ⟨r, hr0⟩ := hroot sq hs0
    refine cast (congrArg (Q V.non) ?_) (k q (root_first ht hs0 hs1 hb hb0 hr0 (hns r hr0) hq))
    rw [upd_upd, upd_upd, upd_upd]
    rfl
theorem ok_RootChain_has_ended (T : CT K mg A) (D : DT K mg A) : MOk P w K mg base CX0 1 A.c_RootChain "has_ended" ["self"] (fun vs H Q _ => ∃ a, vs = [.ref a] ∧ Q (.bl false) H) := by
  refine MOk.of T.cl_RootChain D.RootChain_has_ended fun f fd F => ?_
  refine F.ok sc_RootChain_has_ended (fun vs H Q E h => ?_) (fun cdv Ar outer s H vs Q E hr h => ?_)
  · obtain ⟨a, rfl, _⟩ := h
    rfl
  · obtain ⟨a, rfl, k⟩ := h
    exact ⟨_, (pss_one (ps_ret pe_bl)), k⟩
theorem ok_RootChain_next_part (T : CT K mg A) (D : DT K mg A) : MOk P w K mg base CX0 1 A.c_RootChain "next_part" ["self"] (fun vs H Q _ => ∃ a t s b r, vs = [.ref a] ∧ Chain.At A K H a (.root t s b r) ∧ RootOk t s b r ∧
    ∀ H', Chain.At A K H' a (Chain.next (.root t s b r)) → (∀ c o, H c = some o → c ≠ a → H' c = some o) → Q (.int (rootPart t b r)) H') := by
  refine MOk.of T.cl_RootChain D.RootChain_next_part fun f fd F => ?_
  refine F.ok sc_RootChain_next_part (fun vs H Q E h => ?_) (fun cdv Ar outer s H vs Q E hr h => ?_)
  · obtain ⟨a, t, s, b, r, rfl, _⟩ := h
    rfl
  · obtain ⟨a, t, sq, b, r, rfl, ⟨dx, ha⟩, ok, k⟩ := h
    refine ⟨_, (pss_cons (ps_set (i := 1) sc_RootChain_next_part.nd rfl (Or.inl rfl) (pe_ifExp (pt_cmpR op_lt (pe_fld (pv 0) rfl) pe_int (nomark _)) pe_int pe_int))
    (pss_cons (ps_set (i := 2) sc_RootChain_next_part.nd rfl (Or.inl rfl) (pe_op op_fdivS (pe_op op_add (pe_op op_add (pe_fld (pv 0) rfl) (pe_fld (pv 0) rfl)) (pv 1)) (pe_fld (pv 0) rfl)))
    (pss_cons (ps_fld (pv 0) (pe_op op_sub (pe_op op_mulW (pv 2) (pe_fld (pv 0) rfl)) (pe_fld (pv 0) rfl)) rfl)
    (pss_cons (ps_fld (pv 0) (pe_op op_fdivS (pe_op op_sub (pe_fld (pv 0) rfl) (pe_op op_mulW (pe_fld (pv 0) rfl) (pe_fld (pv 0) rfl))) (pe_fld (pv 0) rfl)) rfl)
    (pss_one (ps_ret (pv 2))))))), ?_⟩
    have cl := T.cl_RootChain
    obtain ⟨st, sb, sr, ss, sx, sp, su⟩ := root_small ok
    have nz := ok.nz
    refine ⟨_, rfl, a, _, dx, _, _, rfl, ha, cl, T.n_RootChain_below, rfl, _, _, rfl, rfl, _, rfl, ?_⟩
    have up : ∀ {Z : Int → Prop}, Z (if b < 0 then 1 else 0) → (if decide (b < 0) = true then Z 1 else Z 0) := fun {Z} hz => by
      by_cases c : b < 0
      · rw [decide_eq_true c, if_pos rfl]; rw [if_pos c] at hz; exact hz
      · rw [decide_eq_false c, if_neg (by decide)]; rw [if_neg c] at hz; exact hz
    refine up (Z := fun e => tSeq _ _ _ [some (V.ref a), some (V.int e), none] H) ?_
    refine ⟨_, rfl, a, _, dx, _, _, rfl, ha, cl, T.n_RootChain_top, rfl, _, rfl, a, _, dx, _, _, rfl, ha, cl, T.n_RootChain_root, rfl, _, _, rfl, rfl, _, rfl, _, _, rfl, rfl, _, rfl, a, _, dx, _, _, rfl, ha, cl, T.n_RootChain_below, rfl, _, _, rfl, rfl, small_fdiv sb nz _, ?_⟩
    refine ⟨_, rfl, _, rfl, a, _, dx, _, _, rfl, ha, cl, T.n_RootChain_below, rfl, _, _, rfl, rfl, small_mul sp sb, _, rfl, a, _, dx, _, _, rfl, ha, cl, T.n_RootChain_top, rfl, _, _, rfl, rfl, _, rfl, a, _, dx, _, rfl, ha, cl, T.n_RootChain_top, (by show 4 < 1000; decide), ?_⟩
    refine ⟨_, rfl, a, _, dx, _, _, rfl, upd_same, cl, T.n_RootChain_square, rfl, _, rfl, a, _, dx, _, _, rfl, upd_same, cl, T.n_RootChain_top, rfl, _, rfl, a, _, dx, _, _, rfl, upd_same, cl, T.n_RootChain_top, rfl, _, _, rfl, rfl, small_mul su su, _, _, rfl, rfl, _, rfl, a, _, dx, _, _, rfl, upd_same, cl, T.n_RootChain_below, rfl, _, _, rfl, rfl, small_fdiv sb nz _, _, rfl, a, _, dx, _, rfl, upd_same, cl, T.n_RootChain_below, (by show 4 < 1000; decide), ?_⟩
    refine ⟨_, rfl, k _ ⟨dx, ?_⟩ fun c o e hc => ?_⟩
    · rw [upd_same]
      rfl
    · rw [upd_ne hc, upd_ne hc]
      exact e
/-! ruled chains -/
theorem ok_RuledChain_init (T : CT K mg A) (D : DT K mg A) : IOk P w K mg base 1 "RuledChain" A.c_RuledChain ["self", "parts", "ring", "steps"] (sp_ini A.c_RuledChain 3 fun us => [("parts", us.getD 0 .non), ("ring", us.getD 1 .non), ("steps", us.getD 2 .non), ("at", .int 0)]) := by
  refine IOk.of T.g_RuledChain D.RuledChain_init fun f fd F => ?_
  refine F.ok sc_RuledChain_init (fun vs H Q E h => ?_) (fun cdv Ar outer s H vs Q E hr h => ?_)
  · obtain ⟨p, dx, us, rfl, hl, _⟩ := h
    show us.length + 1 = 4
    omega
  · obtain ⟨p, dx, us, rfl, hl, hp, k⟩ := h
    match us, hl with
    | [u0, u1, u2], _ =>
      refine ⟨_, (pss_cons (ps_fld (pv 0) (pv 1) rfl)
    (pss_cons (ps_fld (pv 0) (pv 2) rfl)
    (pss_cons (ps_fld (pv 0) (pv 3) rfl)
    (pss_one (ps_fld (pv 0) pe_int rfl))))), ?_⟩
      have cl := T.cl_RuledChain
      refine ⟨_, rfl, _, rfl, p, _, dx, [], rfl, hp, cl, T.n_RuledChain_parts, (by show 0 < 1000; decide), ?_⟩
      refine ⟨_, rfl, _, rfl, p, _, dx, _, rfl, upd_same, cl, T.n_RuledChain_ring, (by show 1 < 1000; decide), ?_⟩
      refine ⟨_, rfl, _, rfl, p, _, dx, _, rfl, upd_same, cl, T.n_RuledChain_steps, (by show 2 < 1000; decide), ?_⟩
      refine ⟨_, rfl, p, _, dx, _, rfl, upd_same, cl, T.n_RuledChain_at, (by show 3 < 1000; decide), ?_⟩
      refine cast (congrArg (Q V.non) ?_) k
      rw [upd_upd, upd_upd, upd_upd]
      rfl
theorem len_eq_nil {l : List Int} : decide (V.int (((l.map V.int).length : Nat) : Int) = V.int 0) = decide (l = []) := by
  cases l with
  | nil => rfl
  | cons x r =>
    rw [decide_eq_false (show ¬ (x :: r) = [] from List.cons_ne_nil _ _)]
    refine decide_eq_false fun z => ?_
    have := V.int.inj z
    rw [List.length_map, List.length_cons] at this
    omega
theorem ok_RuledChain_has_ended (T : CT K mg A) (D : DT K mg A) : MOk P w K mg base CX0 1 A.c_RuledChain "has_ended" ["self"] (fun vs H Q _ => ∃ a ps ring steps i, vs = [.ref a] ∧ Chain.At A K H a (.ruled ps ring steps i) ∧ Q (.bl (decide (ring = []) && decide (ps.length ≤ i))) H) := by
  refine MOk.of T.cl_RuledChain D.RuledChain_has_ended fun f fd F => ?_
  refine F.ok sc_RuledChain_has_ended (fun vs H Q E h => ?_) (fun cdv Ar outer s H vs Q E hr h => ?_)
  · obtain ⟨a, ps, ring, steps, i, rfl, _⟩ := h
    rfl
  · obtain ⟨a, ps, ring, steps, i, rfl, ⟨dx, p, q, u, ha, hp, hq, hu⟩, k⟩ := h
    refine ⟨_, (pss_one (ps_ret (pe_and (pe_cmpR op_eq (pe_callB call_len_seq (by rfl) T.b_len (by decide +kernel) (pa_cons (pe_fld (pv 0) rfl) pa_nil)) pe_int (nomark _)) (pe_one (pe_cmpR op_ge (pe_fld (pv 0) rfl) (pe_callB call_len_seq (by rfl) T.b_len (by decide +kernel) (pa_cons (pe_fld (pv 0) rfl) pa_nil)) (nomark _)))))), ?_⟩
    have cl := T.cl_RuledChain
    refine ⟨_, rfl, a, _, dx, _, _, rfl, ha, cl, T.n_RuledChain_ring, rfl, q, _, rfl, .inr hq, rfl, _, rfl, ?_⟩
    rw [len_eq_nil]
    by_cases c : ring = []
    · rw [decide_eq_true c] at k ⊢
      refine iteT ⟨_, rfl, a, _, dx, _, _, rfl, ha, cl, T.n_RuledChain_at, rfl, _, rfl, a, _, dx, _, _, rfl, ha, cl, T.n_RuledChain_parts, rfl, p, _, rfl, .inr hp, _, _, rfl, rfl, ?_⟩
      have e : decide ((((ps.map V.int).length : Nat) : Int) ≤ (i : Int)) = decide (ps.length ≤ i) := by
        rw [List.length_map]
        exact decide_eq_decide.mpr (by omega)
      show Q (.bl (decide ((((ps.map V.int).length : Nat) : Int) ≤ (i : Int)))) H
      rw [e]
      exact k
    · rw [decide_eq_false c] at k ⊢
      exact iteF k
theorem map_at {l : List Int} {i : Nat} (h : i < l.length) : (l.map V.int)[i]? = some (.int (l.getD i 0)) := by
  rw [List.getElem?_map, List.getElem?_eq_getElem h, List.getD_eq_getElem?_getD, List.getElem?_eq_getElem h]
  rfl
theorem mem_getD {l : List Int} {i : Nat} (h : i < l.length) : l.getD i 0 ∈ l := by
  rw [List.getD_eq_getElem?_getD, List.getElem?_eq_getElem h]
  exact List.getElem_mem h
theorem ok_RuledChain_next_part (T : CT K mg A) (D : DT K mg A) : MOk P w K mg base CX0 1 A.c_RuledChain "next_part" ["self"] (fun vs H Q _ => ∃ a ps ring steps i, vs = [.ref a] ∧ Chain.At A K H a (.ruled ps ring steps i) ∧ RuledOk ps ring steps ∧ (ring = [] → i < ps.length) ∧
    ∀ H', Chain.At A K H' a (.ruled ps ring steps (i + 1)) → (∀ c o, H c = some o → c ≠ a → H' c = some o) → Q (.int (ruledAt ps ring steps i)) H') := by
  refine MOk.of T.cl_RuledChain D.RuledChain_next_part fun f fd F => ?_
  refine F.ok sc_RuledChain_next_part (fun vs H Q E h => ?_) (fun cdv Ar outer s H vs Q E hr h => ?_)
  · obtain ⟨a, ps, ring, steps, i, rfl, _⟩ := h
    rfl
  · obtain ⟨a, ps, ring, steps, i, rfl, ⟨dx, p, q, u, ha, hp, hq, hu⟩, ok, hne, k⟩ := h
    refine ⟨_, (pss_cons (ps_set (i := 1) sc_RuledChain_next_part.nd rfl (Or.inl rfl) (pe_fld (pv 0) rfl))
    (pss_cons (ps_fldaug (pv 0) pe_int in_add)
    (pss_cons (ps_if (pt_cmpR op_lt (pv 1) (pe_callB call_len_seq (by rfl) T.b_len (by decide +kernel) (pa_cons (pe_fld (pv 0) rfl) pa_nil)) (nomark _))
      (pss_one (ps_ret (pe_ix ix_tup (pe_fld (pv 0) rfl) (pv 1) (fun _ _ => rfl)))) pss_nil)
    (pss_cons (ps_asg (pe_callB call_divmod (by rfl) T.b_divmod (by decide +kernel) (pa_cons (pe_op op_sub (pv 1) (pe_callB call_len_seq (by rfl) T.b_len (by decide +kernel) (pa_cons (pe_fld (pv 0) rfl) pa_nil))) (pa_cons (pe_callB call_len_seq (by rfl) T.b_len (by decide +kernel) (pa_cons (pe_fld (pv 0) rfl) pa_nil)) pa_nil))) (pg_tup rfl (pgs_cons (pg_name (i := 2) sc_RuledChain_next_part.nd rfl (Or.inl rfl)) (pgs_cons (pg_name (i := 3) sc_RuledChain_next_part.nd rfl (Or.inl rfl)) pgs_nil))))
    (pss_one (ps_ret (pe_op op_add (pe_ix ix_tup (pe_fld (pv 0) rfl) (pv 3) (fun _ _ => rfl)) (pe_op op_mul (pv 2) (pe_ix ix_tup (pe_fld (pv 0) rfl) (pv 3) (fun _ _ => rfl)))))))))), ?_⟩
    have cl := T.cl_RuledChain
    refine ⟨_, rfl, a, _, dx, _, _, rfl, ha, cl, T.n_RuledChain_at, rfl, ?_⟩
    refine ⟨_, rfl, a, _, dx, _, _, rfl, ha, cl, T.n_RuledChain_at, rfl, _, _, rfl, rfl, dx, _, ha, (by show 4 < 1000; decide), ?_⟩
    have h1 : ∀ o, (upd H a o) a = some o := fun o => upd_same
    have hp1 := sqT_ins (o := .ins A.c_RuledChain dx (putF "at" (.int ((i : Int) + 1)) (ruF p q u i))) hp ha
    have hq1 := sqT_ins (o := .ins A.c_RuledChain dx (putF "at" (.int ((i : Int) + 1)) (ruF p q u i))) hq ha
    have hu1 := sqT_ins (o := .ins A.c_RuledChain dx (putF "at" (.int ((i : Int) + 1)) (ruF p q u i))) hu ha
    have kp : ∀ c o, H c = some o → c ≠ a → (upd H a (.ins A.c_RuledChain dx (putF "at" (.int ((i : Int) + 1)) (ruF p q u i)))) c = some o := fun c o e hc => by rw [upd_ne hc]; exact e
    have ha1 : (upd H a (.ins A.c_RuledChain dx (putF "at" (.int ((i : Int) + 1)) (ruF p q u i)))) a = some (.ins A.c_RuledChain dx (ruF p q u (i + 1))) := upd_same
    generalize upd H a (.ins A.c_RuledChain dx (putF "at" (.int ((i : Int) + 1)) (ruF p q u i))) = H1 at *
    have hlp : (ps.map V.int).length = ps.length := List.length_map _
    have hlr : (ring.map V.int).length = ring.length := List.length_map _
    refine ⟨_, rfl, _, rfl, a, _, dx, _, _, rfl, ha1, cl, T.n_RuledChain_parts, rfl, p, _, rfl, .inr hp1, _, _, rfl, rfl, _, rfl, ite2 (fun c => ?_) (fun c => ?_)⟩
    · have hi : i < ps.length := by
        have := of_decide_eq_true c
        rw [hlp] at this
        omega
      refine ⟨_, rfl, a, _, dx, _, _, rfl, ha1, cl, T.n_RuledChain_parts, rfl, _, rfl, p, _, _, _, rfl, rfl, hp1, atI_nat (map_at hi), ?_⟩
      have e : ruledAt ps ring steps i = ps.getD i 0 := by unfold ruledAt; rw [if_pos hi]
      rw [← e]
      exact k _ ⟨dx, p, q, u, ha1, hp1, hq1, hu1⟩ kp
    · have hi : ps.length ≤ i := by
        rcases Nat.lt_or_ge i ps.length with z | z
        · exact absurd (decide_eq_true (by rw [hlp]; omega)) c
        · exact z
      have hr0 : 0 < ring.length := by
        cases ring with
        | nil => have := hne rfl; omega
        | cons x r => rw [List.length_cons]; omega
      have hr12 := ok.r12
      have hs := ok.same
      refine ⟨_, rfl, _, rfl, a, _, dx, _, _, rfl, ha1, cl, T.n_RuledChain_parts, rfl, p, _, rfl, .inr hp1, _, _, rfl, rfl, _, rfl, a, _, dx, _, _, rfl, ha1, cl, T.n_RuledChain_ring, rfl, q, _, rfl, .inr hq1, _, _, rfl, ⟨by rw [hlr]; omega, by rw [hlr]; omega⟩, fun z nz => ?_⟩
      have e1 : ((i : Int) - (((ps.map V.int).length : Nat) : Int)) / (((ring.map V.int).length : Nat) : Int) = (((i - ps.length) / ring.length : Nat) : Int) := by
        rw [hlp, hlr, Int.natCast_ediv]
        congr 1
        omega
      have e2 : ((i : Int) - (((ps.map V.int).length : Nat) : Int)) % (((ring.map V.int).length : Nat) : Int) = (((i - ps.length) % ring.length : Nat) : Int) := by
        rw [hlp, hlr, Int.natCast_emod]
        congr 1
        omega
      rw [e1, e2]
      have sm := same_upd (o := .tup [V.int (((i - ps.length) / ring.length : Nat) : Int), .int (((i - ps.length) % ring.length : Nat) : Int)]) nz
      refine ⟨z, _, rfl, SqT.of upd_same, rfl, _, _, rfl, _, _, rfl, rfl, ?_⟩
      have hm : (i - ps.length) % ring.length < ring.length := Nat.mod_lt _ hr0
      have ts := ok.ts _ (mem_getD (show (i - ps.length) % ring.length < steps.length by omega))
      have w64 : -(2 ^ 64) < steps.getD ((i - ps.length) % ring.length) 0 ∧ steps.getD ((i - ps.length) % ring.length) 0 < 2 ^ 64 := by
        obtain ⟨t1, t2⟩ := ts
        have : (2 : Int) ^ 64 = 18446744073709551616 := by decide
        omega
      refine ⟨_, rfl, a, _, dx, _, _, rfl, sm _ _ ha1, cl, T.n_RuledChain_ring, rfl, _, rfl, q, _, _, _, rfl, rfl, (sqT_same hq1 sm), atI_nat (map_at hm), ?_⟩
      refine ⟨_, rfl, _, rfl, a, _, dx, _, _, rfl, sm _ _ ha1, cl, T.n_RuledChain_steps, rfl, _, rfl, u, _, _, _, rfl, rfl, (sqT_same hu1 sm), atI_nat (map_at (show (i - ps.length) % ring.length < steps.length by omega)), _, _, rfl, rfl, .inr w64, _, _, rfl, rfl, ?_⟩
      have e : ruledAt ps ring steps i = ring.getD ((i - ps.length) % ring.length) 0 + (((i - ps.length) / ring.length : Nat) : Int) * steps.getD ((i - ps.length) % ring.length) 0 := by unfold ruledAt; rw [if_neg (by omega)]
      show Q (.int (ring.getD ((i - ps.length) % ring.length) 0 + (((i - ps.length) / ring.length : Nat) : Int) * steps.getD ((i - ps.length) % ring.length) 0)) _
      rw [← e]
      exact k _ ⟨dx, p, q, u, sm _ _ ha1, (sqT_same hp1 sm), sqT_same hq1 sm, (sqT_same hu1 sm)⟩ fun c o z hc => sm _ _ (kp c o z hc)
end
/-! ### which tuples are trees: the checks let them by -/
/-- the tables of the top -/
structure TB (K : PySem.W.Frag) (w : World) (mg : Str → Option Value) (A : Ad) : Prop where
  dL : ∃ es n, KDict K w A.k_LENGTHS es n
  dC : ∃ es n, KDict K w A.k_CHECKS es n
  lens : ∀ x n, (x, n) ∈ ([("fraction", 3), ("root", 4), ("ruled", 4), ("four", 3), ("eight", 4), ("power", 3)] : List (Str × Int)) → ∃ t, PySem.W.nsIn K A.k_LENGTHS x = some (some (.int n t))
  chks : ∀ x y f, (x, y) ∈ ([("fraction", "check_fraction"), ("root", "check_root"), ("ruled", "check_ruled"), ("four", "check_four"), ("eight", "check_eight"), ("power", "check_power")] : List (Str × Str)) → mg y = some (.ref f) → PySem.W.nsIn K A.k_CHECKS x = some (some (.ref f))
section
variable {X : Cx} {k i : Nat} {x x' : Str} {ps : List Str} {sp : Sp} {e : Expr} {es : List Expr} {t : TA} {p pos : Pos}
theorem pe_cL (C : COk X.prog X.w X.K X.mg X.base CX0 k x' ps sp) (hr : Room k X.A) (hN : X.N[i]? = some x) (hv : Vis X.env.scope x) (ha : PA X (e :: es) t)
    (hdb : (x == ("__debug__" : Str)) = false := by decide) (hcd : (x == ("__classdict__" : Str)) = false := by decide)
    (he : starEach (e :: es) X.env = (false, eval e X.env) :: starEach es X.env := by rfl) (hpl : (backTo pos (starEach es X.env)).any (·.1) = false := by rfl) :
    PE X (.Call (.Name x p) (e :: es) [] pos) (fun σ H Q => (∀ f, X.mg x' = some (.ref f) → σ[i]? = some (some (.ref f))) ∧ t σ H fun vs H1 => sp (vs ++ []) H1 Q E0) := by
  obtain ⟨f, fd, F, a, b, c⟩ := C
  exact ⟨fun pins s σ H Q I h => (pe_callL (i := i) F hr hN hv b c .nil pass0 ha hdb hcd he hpl).run pins s σ H Q I ⟨h.1 f a, h.2⟩⟩
open PySem.Spec PyProof.Rows in
theorem ix_kd {d : Addr} (D : ∃ es n, KDict X.K X.w d es n) : IxR X (fun x y H Q => ∃ (z : Str) (u0 : Value) (v0 : V), x = .ref d ∧ y = .str z ∧ PySem.W.nsIn X.K d z = some (some u0) ∧ RelV v0 u0 ∧ Q v0 H) := by
  obtain ⟨es, n, D⟩ := D
  intro value slice pins s σ H x y v u Q I rx ry h hs
  have ht : s.TypeIs v "dict" := by
    obtain ⟨z, u0, v0, rfl, _⟩ := h
    cases rx
    exact kd_type D I
  exact tail_any ht PySem.F.slot_dict_getitem.lookup (op_item_kd D pins s σ H x y v u Q I rx ry h) hs
theorem op_in_kd' {d : Addr} (D : ∃ es n, KDict X.K X.w d es n) : OpR X (compareOp .In) (fun x y H Q => ∃ (z : Str) (r : Option Value), x = .str z ∧ y = .ref d ∧ PySem.W.nsIn X.K d z = some r ∧ Q (.bl r.isSome) H) := by
  obtain ⟨es, n, D⟩ := D
  exact op_in_kd D
end
theorem tyT {K : PySem.W.Frag} {H : Hp} {a : Addr} {xs : List V} (h : SqT K H a xs) : TyX K H (.ref a) (.type "tuple") := by
  rcases h with (h | ⟨o, h⟩) | ⟨o, its, n, h, c, _⟩
  · exact .base (.tup h)
  · exact .fTuple h
  · exact .kTuple h c
theorem cutV1 (x : V) (xs : List V) : cutV (x :: xs) (some 1) none = xs := by
  unfold cutV
  rw [show HT.sIx (x :: xs).length 0 (some 1) = min 1 (x :: xs).length from HT.sIx_nat _ 0 1, HT.sIx_none]
  rw [show min 1 (x :: xs).length = 1 by rw [List.length_cons]; omega]
  show List.take ((x :: xs).length - 1) xs = xs
  rw [List.length_cons, Nat.add_sub_cancel, List.take_length]
theorem cutV2 (x y : V) (xs : List V) : cutV (x :: y :: xs) (some 2) none = xs := by
  unfold cutV
  rw [show HT.sIx (x :: y :: xs).length 0 (some 2) = min 2 (x :: y :: xs).length from HT.sIx_nat _ 0 2, HT.sIx_none]
  rw [show min 2 (x :: y :: xs).length = 2 by rw [List.length_cons, List.length_cons]; omega]
  show List.take ((x :: y :: xs).length - 2) xs = xs
  rw [List.length_cons, List.length_cons, show xs.length + 1 + 1 - 2 = xs.length by omega, List.take_length]
theorem not_whole {xs : List V} {k : Nat} (hk : 0 < k) (h : k ≤ xs.length) : ¬ (HT.sIx xs.length 0 (some (k : Int)) = 0 ∧ HT.sIx xs.length xs.length none = xs.length) := fun z => by
  have := z.1
  rw [HT.sIx_nat] at this
  omega
section
variable {P : Program} {w : World} {K : PySem.W.Frag} {mg : Str → Option Value} {base : Heap} {A : Ad}
/-- require lets by what holds -/
def sp_require : Sp := fun vs H Q _ => ∃ b y, vs = [.bl b, y] ∧ b = true ∧ Q .non H
theorem ok_require (D : DT K mg A) : COk P w K mg base CX0 1 "require" ["holds", "why"] sp_require := by
  refine COk.by D.require fun f fd F => ?_
  refine F.ok sc_require (fun vs H Q E h => ?_) (fun cdv Ar outer s H vs Q E hr h => ?_)
  · obtain ⟨b, y, rfl, _⟩ := h
    rfl
  · obtain ⟨b, y, rfl, rfl, k⟩ := h
    refine ⟨_, (pss_one (ps_if (pt_not (pt_val (pv 0)))
      (pss_one ps_never) pss_nil)), ?_⟩
    exact ⟨_, rfl, true, rfl, iteF k⟩
def sp_is_whole : Sp := fun vs H Q _ => ∃ i : Int, vs = [.int i] ∧ Q (.bl true) H
theorem ok_is_whole (T : CT K mg A) (D : DT K mg A) : COk P w K mg base CX0 1 "is_whole" ["number"] sp_is_whole := by
  refine COk.by D.is_whole fun f fd F => ?_
  refine F.ok sc_is_whole (fun vs H Q E h => ?_) (fun cdv Ar outer s H vs Q E hr h => ?_)
  · obtain ⟨i, rfl, _⟩ := h
    rfl
  · obtain ⟨i, rfl, k⟩ := h
    refine ⟨_, (pss_one (ps_ret (pe_and (pe_callB call_isi (by rfl) T.b_isinstance (by decide +kernel) (pa_cons (pv 0) (pa_cons (pe_bltn (v := .ty "int") (by rfl) T.b_int (by decide +kernel) rfl) pa_nil))) (pe_one (pe_not (pe_callB call_isi (by rfl) T.b_isinstance (by decide +kernel) (pa_cons (pv 0) (pa_cons (pe_bltn (v := .ty "bool") (by rfl) T.b_bool (by decide +kernel) rfl) pa_nil)))))))), ?_⟩
    refine ⟨_, rfl, _, _, _, _, true, rfl, .ty "int", .base (.int i), kit_ty (by decide +kernel), _, rfl, iteT ?_⟩
    exact ⟨_, rfl, _, _, _, _, false, rfl, .ty "bool", .base (.int i), kit_ty (by decide +kernel), _, rfl, k⟩
/-- a row of whole numbers, so many, none beyond 10 ** 12 -/
def sp_check_row (K : PySem.W.Frag) : Sp := fun vs H Q _ => ∃ (a : Addr) (ns : List Int) (lo hi : Int), vs = [.ref a, .int lo, .int hi] ∧ SqT K H a (ns.map V.int) ∧ lo ≤ ns.length ∧ (ns.length : Int) ≤ hi ∧ (∀ z ∈ ns, tame z) ∧ Q .non H
theorem ok_check_row (T : CT K mg A) (D : DT K mg A) : COk P w K mg base CX0 2 "check_row" ["row", "fewest", "most"] (sp_check_row K) := by
  have G_require : COk P w K mg base CX0 1 "require" ["holds", "why"] sp_require := ok_require D
  have G_is_whole : COk P w K mg base CX0 1 "is_whole" ["number"] sp_is_whole := ok_is_whole T D
  refine COk.by D.check_row fun f fd F => ?_
  refine F.ok sc_check_row (fun vs H Q E h => ?_) (fun cdv Ar outer s H vs Q E hr h => ?_)
  · obtain ⟨a, ns, lo, hi, rfl, _⟩ := h
    rfl
  · obtain ⟨a, ns, lo, hi, rfl, ha, h1, h2, ht, k⟩ := h
    obtain ⟨tN, gi_MOST_NUMBER⟩ := T.i_MOST_NUMBER
    refine ⟨_, (pss_cons (ps_expr (pe_c G_require (hr.mono (by first | decide | omega)) (pa_cons (pe_callB call_isi (by rfl) T.b_isinstance (by decide +kernel) (pa_cons (pv 0) (pa_cons (pe_bltn (v := .ty "tuple") (by rfl) T.b_tuple (by decide +kernel) rfl) pa_nil))) (pa_cons pe_str pa_nil))))
    (pss_cons (ps_expr (pe_c G_require (hr.mono (by first | decide | omega)) (pa_cons (pe_chain op_le op_le (pv 1) (pe_callB call_len_seq (by rfl) T.b_len (by decide +kernel) (pa_cons (pv 0) pa_nil)) (pv 2)) (pa_cons pe_str pa_nil))))
    (pss_one (ps_for PassesOwn.never rfl (pi_tup (pv 0)) (pg_name (i := 3) sc_check_row.nd rfl (Or.inl rfl))
      (pss_cons (ps_expr (pe_c G_require (hr.mono (by first | decide | omega)) (pa_cons (pe_c G_is_whole (hr.mono (by first | decide | omega)) (pa_cons (pv 3) pa_nil)) (pa_cons pe_str pa_nil))))
    (pss_one (ps_expr (pe_c G_require (hr.mono (by first | decide | omega)) (pa_cons (pe_chain op_le op_le (pe_un un_neg (pe_glob (v := .int 1000000000000) (by rfl) gi_MOST_NUMBER ⟨_, rfl⟩)) (pv 3) (pe_glob (v := .int 1000000000000) (by rfl) gi_MOST_NUMBER ⟨_, rfl⟩)) (pa_cons pe_str pa_nil)))))))))), ?_⟩
    have hl : (ns.map V.int).length = ns.length := List.length_map _
    refine ⟨_, rfl, _, _, _, _, true, rfl, .ty "tuple", tyT ha, kit_ty (by decide +kernel), _, _, rfl, rfl, ?_⟩
    refine ⟨_, rfl, _, rfl, a, _, rfl, .inr ha, _, _, rfl, rfl, _, rfl, ?_⟩
    rw [decide_eq_true (by rw [hl]; exact h1)]
    refine iteT ⟨_, rfl, _, _, rfl, rfl, _, _, rfl, decide_eq_true (by rw [hl]; exact h2), ?_⟩
    refine ⟨_, rfl, a, rfl, ⟨_, ha⟩, for_tup (K := K) (a := a) (xs := ns.map V.int) (fun i σ H2 => ∃ v : Option V, σ = [some (.ref a), some (.int lo), some (.int hi), v] ∧ H2 = H)
      ⟨none, rfl, rfl⟩ (fun i σ H2 _ ⟨_, _, e⟩ => by rw [e]; exact ha) ?_ ?_⟩
    · rintro i y σ H2 hi ⟨v, rfl, rfl⟩
      obtain ⟨z, hz, rfl⟩ : ∃ z, z ∈ ns ∧ y = V.int z := by
        rw [List.getElem?_map] at hi
        cases e : ns[i]? with
        | none => rw [e] at hi; cases hi
        | some z => rw [e] at hi; exact ⟨z, List.mem_of_getElem? e, (Option.some.inj hi).symm⟩
      obtain ⟨z1, z2⟩ := ht z hz
      refine ⟨_, rfl, z, rfl, _, _, rfl, rfl, ?_⟩
      refine ⟨_, rfl, _, rfl, _, _, rfl, rfl, _, rfl, ?_⟩
      rw [decide_eq_true (show (-1000000000000 : Int) ≤ z from z1)]
      exact iteT ⟨_, _, rfl, rfl, _, _, rfl, decide_eq_true (show z ≤ (1000000000000 : Int) from z2), ⟨_, rfl, rfl⟩⟩
    · rintro σ H2 ⟨v, rfl, rfl⟩
      exact k
/-! the leaves -/
def sp_check_fraction (K : PySem.W.Frag) : Sp := fun vs H Q _ => ∃ (a : Addr) (t b d : Int), vs = [.ref a, .int d] ∧ SqT K H a [.str "fraction", .int t, .int b] ∧ tame t ∧ tame b ∧ b ≠ 0 ∧ ∀ H', Same H H' → Q .non H'
theorem ok_check_fraction (T : CT K mg A) (D : DT K mg A) : COk P w K mg base CX0 3 "check_fraction" ["tree", "depth"] (sp_check_fraction K) := by
  have G_require : COk P w K mg base CX0 1 "require" ["holds", "why"] sp_require := ok_require D
  have G_check_row : COk P w K mg base CX0 2 "check_row" ["row", "fewest", "most"] (sp_check_row K) := ok_check_row T D
  refine COk.by D.check_fraction fun f fd F => ?_
  refine F.ok sc_check_fraction (fun vs H Q E h => ?_) (fun cdv Ar outer s H vs Q E hr h => ?_)
  · obtain ⟨a, t, b, d, rfl, _⟩ := h
    rfl
  · obtain ⟨a, t, b, d, rfl, ha, ht, hb, h0, k⟩ := h
    refine ⟨_, (pss_cons (ps_expr (pe_c G_check_row (hr.mono (by first | decide | omega)) (pa_cons (pe_slice sl_tup (pv 0) (po_some pe_int) po_none) (pa_cons pe_int (pa_cons pe_int pa_nil)))))
    (pss_one (ps_expr (pe_c G_require (hr.mono (by first | decide | omega)) (pa_cons (pe_cmpR op_ne (pe_ix ix_tup (pv 0) pe_int (fun _ _ => rfl)) pe_int (nomark _)) (pa_cons pe_str pa_nil)))))), ?_⟩
    refine ⟨_, rfl, 1, rfl, a, _, rfl, ha, not_whole (k := 1) (by decide) (by show 1 ≤ 3; decide), fun p np => ?_⟩
    rw [cutV1]
    have sm := same_upd (o := .tup [V.int t, .int b]) np
    refine ⟨p, [t, b], 2, 2, rfl, SqT.of upd_same, (by show (2 : Int) ≤ 2; decide), (by show (2 : Int) ≤ 2; decide), ?_, ?_⟩
    · intro z hz
      simp only [List.mem_cons, List.not_mem_nil, or_false] at hz
      rcases hz with rfl | rfl
      · exact ht
      · exact hb
    refine ⟨_, rfl, a, _, 2, _, rfl, rfl, sqT_same ha sm, atI_nat (j := 2) rfl, rfl, _, _, rfl, ?_, k _ sm⟩
    rw [decide_eq_false (fun z => h0 (V.int.inj z))]
    rfl
def sp_check_root (K : PySem.W.Frag) : Sp := fun vs H Q _ => ∃ (a : Addr) (t s b d : Int), vs = [.ref a, .int d] ∧ SqT K H a [.str "root", .int t, .int s, .int b] ∧ tame t ∧ tame s ∧ 0 ≤ s ∧ tame b ∧ b ≠ 0 ∧ ∀ H', Same H H' → Q .non H'
theorem ok_check_root (T : CT K mg A) (D : DT K mg A) : COk P w K mg base CX0 3 "check_root" ["tree", "depth"] (sp_check_root K) := by
  have G_require : COk P w K mg base CX0 1 "require" ["holds", "why"] sp_require := ok_require D
  have G_check_row : COk P w K mg base CX0 2 "check_row" ["row", "fewest", "most"] (sp_check_row K) := ok_check_row T D
  refine COk.by D.check_root fun f fd F => ?_
  refine F.ok sc_check_root (fun vs H Q E h => ?_) (fun cdv Ar outer s H vs Q E hr h => ?_)
  · obtain ⟨a, t, s, b, d, rfl, _⟩ := h
    rfl
  · obtain ⟨a, t, sq, b, d, rfl, ha, ht, hs, hs0, hb, h0, k⟩ := h
    refine ⟨_, (pss_cons (ps_expr (pe_c G_check_row (hr.mono (by first | decide | omega)) (pa_cons (pe_slice sl_tup (pv 0) (po_some pe_int) po_none) (pa_cons pe_int (pa_cons pe_int pa_nil)))))
    (pss_cons (ps_expr (pe_c G_require (hr.mono (by first | decide | omega)) (pa_cons (pe_cmpR op_ge (pe_ix ix_tup (pv 0) pe_int (fun _ _ => rfl)) pe_int (nomark _)) (pa_cons pe_str pa_nil))))
    (pss_one (ps_expr (pe_c G_require (hr.mono (by first | decide | omega)) (pa_cons (pe_cmpR op_ne (pe_ix ix_tup (pv 0) pe_int (fun _ _ => rfl)) pe_int (nomark _)) (pa_cons pe_str pa_nil))))))), ?_⟩
    refine ⟨_, rfl, 1, rfl, a, _, rfl, ha, not_whole (k := 1) (by decide) (by show 1 ≤ 4; decide), fun p np => ?_⟩
    rw [cutV1]
    have sm := same_upd (o := .tup [V.int t, .int sq, .int b]) np
    refine ⟨p, [t, sq, b], 3, 3, rfl, SqT.of upd_same, (by show (3 : Int) ≤ 3; decide), (by show (3 : Int) ≤ 3; decide), ?_, ?_⟩
    · intro z hz
      simp only [List.mem_cons, List.not_mem_nil, or_false] at hz
      rcases hz with rfl | rfl | rfl
      · exact ht
      · exact hs
      · exact hb
    refine ⟨_, rfl, a, _, 2, _, rfl, rfl, sqT_same ha sm, atI_nat (j := 2) rfl, _, _, rfl, rfl, _, _, rfl, decide_eq_true hs0, ?_⟩
    refine ⟨_, rfl, a, _, 3, _, rfl, rfl, sqT_same ha sm, atI_nat (j := 3) rfl, rfl, _, _, rfl, ?_, k _ sm⟩
    rw [decide_eq_false (fun z => h0 (V.int.inj z))]
    rfl
/-- the rules of a ruled chain -/
structure RuledGood (ps ring steps : List Int) : Prop extends RuledOk ps ring steps where
  one : ∀ z ∈ ps.tail ++ ring, 1 ≤ z
  nn : ∀ z ∈ steps, 0 ≤ z
  last : ring = [] → ps.length = 1 ∨ ∃ z, ps.getLast? = some z ∧ 2 ≤ z
def sp_check_ruled (K : PySem.W.Frag) : Sp := fun vs H Q _ => ∃ (a p q u : Addr) (ps ring steps : List Int) (d : Int), vs = [.ref a, .int d] ∧ SqT K H a [.str "ruled", .ref p, .ref q, .ref u] ∧ SqT K H p (ps.map V.int) ∧ SqT K H q (ring.map V.int) ∧ SqT K H u (steps.map V.int) ∧ RuledGood ps ring steps ∧ ∀ H', Same H H' → Q .non H'
theorem same_list {K : PySem.W.Frag} {H H' : Hp} {D a : Addr} {xs acc : List V} (k : ∀ b o, H b = some o → b ≠ D → H' b = some o) (hD : H D = some (.lst acc)) (h : SqT K H a xs) : SqT K H' a xs :=
  sqT_but (N := fun b => b = D) h k fun b o e z => by
    subst e
    rw [hD] at z
    cases z
    exact ⟨fun _ q => (by cases q), fun _ _ q => (by cases q)⟩
/-- t + u: some tuple of both -/
def rCatC (K : PySem.W.Frag) : R2 := fun x y H Q => ∃ a b xs ys, x = .ref a ∧ y = .ref b ∧ SqT K H a xs ∧ SqT K H b ys ∧ xs.length + ys.length ≤ sizeLine ∧ ∀ c H', Same H H' → SqT K H' c (xs ++ ys) → Q (.ref c) H'
theorem op_catC {X : Cx} : OpR X (binaryOp .Add) (rCatC X.K) := by
  intro pins s σ H x y v u Q I rx ry h
  obtain ⟨a, b, xs, ys, ex, ey, ha, hb, hz, q⟩ := h
  refine op_catA pins s σ H x y v u Q I rx ry ⟨a, b, xs, ys, ex, ey, ha, hb, hz, fun z => ?_, fun _ z => ?_, fun _ _ p hp => ?_⟩
  · subst z
    exact q b H (.refl H) hb
  · subst z
    exact q a H (.refl H) (by rw [List.append_nil]; exact ha)
  · exact q p _ (same_upd hp) (SqT.of upd_same)
theorem at_last {ns : List Int} {z : Int} (h : ns.getLast? = some z) : atI (ns.map V.int) (-1) = some (.int z) := by
  obtain ⟨i, rfl⟩ := List.getLast?_eq_some_iff.mp h
  rw [List.map_append]
  exact atI_last _ _
theorem all_true (n : Nat) : (List.replicate n true).all id = true := by
  induction n with
  | zero => rfl
  | succ n ih => rw [List.replicate_succ, List.all_cons, ih]; rfl
theorem rep_succ (i : Nat) : (List.replicate i true).map V.bl ++ [V.bl true] = (List.replicate (i + 1) true).map V.bl := by
  rw [List.replicate_succ', List.map_append]
  rfl
theorem ok_check_ruled (T : CT K mg A) (D : DT K mg A) : COk P w K mg base CX0 3 "check_ruled" ["tree", "depth"] (sp_check_ruled K) := by
  have G_require : COk P w K mg base CX0 1 "require" ["holds", "why"] sp_require := ok_require D
  have G_check_row : COk P w K mg base CX0 2 "check_row" ["row", "fewest", "most"] (sp_check_row K) := ok_check_row T D
  obtain ⟨tP, gi_MOST_PARTS⟩ := T.i_MOST_PARTS
  refine COk.by D.check_ruled fun f fd F => ?_
  refine F.ok sc_check_ruled (fun vs H Q E h => ?_) (fun cdv Ar outer s H vs Q E hr h => ?_)
  · obtain ⟨a, p, q, u, ps, ring, steps, d, rfl, _⟩ := h
    rfl
  · obtain ⟨a, p, q, u, ps, ring, steps, d, rfl, ha, hp, hq, hu, G, k⟩ := h
    obtain ⟨⟨p1, p12, r12, sl, tp, tr, ts⟩, one, nn, last⟩ := G
    refine ⟨_, (pss_cons (ps_asg (pe_slice sl_tup (pv 0) (po_some pe_int) po_none) (pg_tup rfl (pgs_cons (pg_name (i := 2) sc_check_ruled.nd rfl (Or.inl rfl)) (pgs_cons (pg_name (i := 3) sc_check_ruled.nd rfl (Or.inl rfl)) (pgs_cons (pg_name (i := 4) sc_check_ruled.nd rfl (Or.inl rfl)) pgs_nil)))))
    (pss_cons (ps_expr (pe_c G_check_row (hr.mono (by first | decide | omega)) (pa_cons (pv 2) (pa_cons pe_int (pa_cons (pe_glob (v := .int 12) (by rfl) gi_MOST_PARTS ⟨_, rfl⟩) pa_nil)))))
    (pss_cons (ps_expr (pe_c G_check_row (hr.mono (by first | decide | omega)) (pa_cons (pv 3) (pa_cons pe_int (pa_cons (pe_glob (v := .int 12) (by rfl) gi_MOST_PARTS ⟨_, rfl⟩) pa_nil)))))
    (pss_cons (ps_expr (pe_c G_check_row (hr.mono (by first | decide | omega)) (pa_cons (pv 4) (pa_cons (pe_callB call_len_seq (by rfl) T.b_len (by decide +kernel) (pa_cons (pv 3) pa_nil)) (pa_cons (pe_callB call_len_seq (by rfl) T.b_len (by decide +kernel) (pa_cons (pv 3) pa_nil)) pa_nil)))))
    (pss_cons (ps_expr (pe_c G_require (hr.mono (by first | decide | omega)) (pa_cons (pe_callB (cr_all rfl) (by rfl) T.b_all (by decide +kernel) (pa_cons (pe_lc (own := [("part", 5)]) (g := gName 5) (tt := tYes) rfl sc_check_ruled.nd (pi_tup (pe_op op_catC (pe_slice sl_tup (pv 2) (po_some pe_int) po_none) (pv 3))) (blkOk_by (own := [("part", 5)]) (N := ["tree", "depth", "parts", "ring", "steps", "part", "step", "ends"]) (sc := defScope s_check_ruled) (by decide +kernel)) (fun _ _ _ _ _ => (pg_name (i := 5) sc_check_ruled.nd rfl (Or.inl rfl))) (fun _ _ _ _ _ => pts_nil) (fun _ _ _ _ _ => (pe_cmpR op_ge (pv 5) pe_int (nomark _)))) pa_nil)) (pa_cons pe_str pa_nil))))
    (pss_cons (ps_expr (pe_c G_require (hr.mono (by first | decide | omega)) (pa_cons (pe_callB (cr_all rfl) (by rfl) T.b_all (by decide +kernel) (pa_cons (pe_lc (own := [("step", 6)]) (g := gName 6) (tt := tYes) rfl sc_check_ruled.nd (pi_tup (pv 4)) (blkOk_by (own := [("step", 6)]) (N := ["tree", "depth", "parts", "ring", "steps", "part", "step", "ends"]) (sc := defScope s_check_ruled) (by decide +kernel)) (fun _ _ _ _ _ => (pg_name (i := 6) sc_check_ruled.nd rfl (Or.inl rfl))) (fun _ _ _ _ _ => pts_nil) (fun _ _ _ _ _ => (pe_cmpR op_ge (pv 6) pe_int (nomark _)))) pa_nil)) (pa_cons pe_str pa_nil))))
    (pss_cons (ps_set (i := 7) sc_check_ruled.nd rfl (Or.inl rfl) (pe_cmpR op_eq (pe_callB call_len_seq (by rfl) T.b_len (by decide +kernel) (pa_cons (pv 3) pa_nil)) pe_int (nomark _)))
    (pss_one (ps_expr (pe_c G_require (hr.mono (by first | decide | omega)) (pa_cons (pe_or (pe_not (pv 7)) (pe_or (pe_cmpR op_eq (pe_callB call_len_seq (by rfl) T.b_len (by decide +kernel) (pa_cons (pv 2) pa_nil)) pe_int (nomark _)) (pe_one (pe_cmpR op_ge (pe_ix ix_tup (pv 2) (pe_un un_neg pe_int) (fun _ _ => rfl)) pe_int (nomark _))))) (pa_cons pe_str pa_nil)))))))))))), ?_⟩
    refine ⟨_, rfl, 1, rfl, a, _, rfl, ha, not_whole (k := 1) (by decide) (by show 1 ≤ 4; decide), fun z nz => ?_⟩
    rw [cutV1]
    have sm := same_upd (o := .tup [V.ref p, .ref q, .ref u]) nz
    refine ⟨z, _, rfl, SqT.of upd_same, rfl, _, _, rfl, _, _, rfl, _, _, rfl, rfl, ?_⟩
    have hp1 := sqT_same hp sm
    have hq1 := sqT_same hq sm
    have hu1 := sqT_same hu sm
    generalize upd H z (.tup [V.ref p, .ref q, .ref u]) = H1 at *
    have lr : (ring.map V.int).length = ring.length := List.length_map _
    have lp : (ps.map V.int).length = ps.length := List.length_map _
    have lp0 : 0 < ps.length := List.length_pos_iff.mpr p1
    refine ⟨_, rfl, p, ps, _, _, rfl, hp1, (by show (1 : Int) ≤ ps.length; omega), (by show (ps.length : Int) ≤ 12; omega), tp, ?_⟩
    refine ⟨_, rfl, q, ring, _, _, rfl, hq1, (by show (0 : Int) ≤ ring.length; omega), (by show (ring.length : Int) ≤ 12; omega), tr, ?_⟩
    refine ⟨_, rfl, _, rfl, q, _, rfl, .inr hq1, _, rfl, q, _, rfl, .inr hq1, u, steps, _, _, rfl, hu1, (by rw [lr]; omega), (by rw [lr]; omega), ts, ?_⟩
    -- all parts but the first, and the ring's, are 1 or more
    obtain ⟨p0, pt, rfl⟩ : ∃ p0 pt, ps = p0 :: pt := by
      cases ps with
      | nil => exact absurd rfl p1
      | cons x y => exact ⟨x, y, rfl⟩
    refine ⟨_, rfl, 1, rfl, p, _, rfl, hp1, not_whole (k := 1) (by decide) (by rw [lp]; exact lp0), fun y ny => ?_⟩
    have ec : cutV ((p0 :: pt).map V.int) (some 1) none = pt.map V.int := cutV1 _ _
    rw [ec]
    have sy := same_upd (o := .tup (pt.map V.int)) ny
    have hpt : SqT K (upd H1 y (.tup (pt.map V.int))) y (pt.map V.int) := SqT.of upd_same
    have hq2 := sqT_same hq1 sy
    refine ⟨_, rfl, y, q, _, _, rfl, rfl, hpt, hq2, ?_, fun c H2 s2 hc => ?_⟩
    · rw [List.length_map, lr]
      rw [List.length_cons] at p12
      exact Nat.le_trans (show pt.length + ring.length ≤ 24 by omega) (by decide)
    rw [← List.map_append] at hc
    have hall : ∀ x ∈ pt ++ ring, 1 ≤ x := one
    have hln : (pt ++ ring).length ≤ 30 := by
      rw [List.length_append]
      rw [List.length_cons] at p12
      omega
    generalize pt ++ ring = row at hc hall hln
    have lrow : (row.map V.int).length = row.length := List.length_map _
    refine ⟨c, rfl, ⟨_, hc⟩, fun D0 nD => lc_tup (K := K) (a := c) (xs := row.map V.int) (fun i H' => i ≤ row.length ∧ H' D0 = some (.lst ((List.replicate i true).map V.bl)) ∧ Same H2 H') ⟨Nat.zero_le _, upd_same, same_upd nD⟩ (fun i H' _ z => sqT_same hc z.2.2) ?_ ?_⟩
    · rintro i y H' hi ⟨hle, hD, sH⟩
      obtain ⟨x, hx, rfl⟩ : ∃ x, x ∈ row ∧ y = V.int x := by
        rw [List.getElem?_map] at hi
        cases e : row[i]? with
        | none => rw [e] at hi; cases hi
        | some z => rw [e] at hi; exact ⟨z, List.mem_of_getElem? e, (Option.some.inj hi).symm⟩
      have hil : i < row.length := by
        have := (List.getElem?_eq_some_iff.mp hi).1
        rw [lrow] at this
        exact this
      refine ⟨rfl, _, rfl, _, _, rfl, rfl, _, hD, ?_, hil, ?_, fun b o e => ?_⟩
      · rw [List.length_map, List.length_replicate]
        exact Nat.lt_of_lt_of_le (show i < 31 by omega) (by decide)
      · rw [upd_same, ← rep_succ]
        show some (HO.lst ((List.replicate i true).map V.bl ++ [V.bl (decide (1 ≤ x))])) = _
        rw [decide_eq_true (hall x hx)]
      · rw [upd_ne (ne_of_none e nD)]
        exact sH b o e
    · rintro H3 ⟨_, hD, s3⟩
      rw [lrow] at hD
      refine ⟨D0, _, rfl, SqL.of hD, _, _, rfl, all_true _, ?_⟩
      -- steps are 0 or more
      have hu3 := sqT_same (sqT_same (sqT_same hu1 sy) s2) s3
      have lst : (steps.map V.int).length = steps.length := List.length_map _
      refine ⟨_, rfl, u, rfl, ⟨_, hu3⟩, fun D1 nD1 => lc_tup (K := K) (a := u) (xs := steps.map V.int) (fun i H' => i ≤ steps.length ∧ H' D1 = some (.lst ((List.replicate i true).map V.bl)) ∧ Same H3 H') ⟨Nat.zero_le _, upd_same, same_upd nD1⟩ (fun i H' _ z => sqT_same hu3 z.2.2) ?_ ?_⟩
      · rintro i y H' hi ⟨hle, hD, sH⟩
        obtain ⟨x, hx, rfl⟩ : ∃ x, x ∈ steps ∧ y = V.int x := by
          rw [List.getElem?_map] at hi
          cases e : steps[i]? with
          | none => rw [e] at hi; cases hi
          | some z => rw [e] at hi; exact ⟨z, List.mem_of_getElem? e, (Option.some.inj hi).symm⟩
        have hil : i < steps.length := by
          have := (List.getElem?_eq_some_iff.mp hi).1
          rw [lst] at this
          exact this
        refine ⟨rfl, _, rfl, _, _, rfl, rfl, _, hD, ?_, hil, ?_, fun b o e => ?_⟩
        · rw [List.length_map, List.length_replicate]
          exact Nat.lt_of_lt_of_le (show i < 31 by omega) (by decide)
        · rw [upd_same, ← rep_succ]
          show some (HO.lst ((List.replicate i true).map V.bl ++ [V.bl (decide (0 ≤ x))])) = _
          rw [decide_eq_true (nn x hx)]
        · rw [upd_ne (ne_of_none e nD1)]
          exact sH b o e
      · rintro H4 ⟨_, hD1, s4⟩
        rw [lst] at hD1
        refine ⟨D1, _, rfl, SqL.of hD1, _, _, rfl, all_true _, ?_⟩
        have s14 : Same H1 H4 := ((sy.trans s2).trans s3).trans s4
        have hq4 := sqT_same hq1 s14
        have hp4 := sqT_same hp1 s14
        -- the last part of a chain that ends
        refine ⟨_, rfl, q, _, rfl, .inr hq4, rfl, ?_⟩
        refine ⟨_, rfl, _, rfl, _, rfl, ?_⟩
        by_cases cr : ring = []
        · have e1 : decide (V.int (((ring.map V.int).length : Nat) : Int) = V.int 0) = true := by rw [cr]; rfl
          rw [e1]
          refine iteF ⟨_, rfl, p, _, rfl, .inr hp4, rfl, _, rfl, ?_⟩
          rcases last cr with h1 | ⟨z, hz, z2⟩
          · have e2 : decide (V.int ((((p0 :: pt).map V.int).length : Nat) : Int) = V.int 1) = true := decide_eq_true (by rw [lp, h1]; rfl)
            rw [e2]
            exact iteT ⟨_, _, rfl, rfl, k _ (sm.trans s14)⟩
          · by_cases c2 : decide (V.int ((((p0 :: pt).map V.int).length : Nat) : Int) = V.int 1) = true
            · rw [c2]
              exact iteT ⟨_, _, rfl, rfl, k _ (sm.trans s14)⟩
            · rw [Bool.not_eq_true] at c2
              rw [c2]
              refine iteF ⟨_, rfl, 1, rfl, p, _, _, _, rfl, rfl, hp4, at_last hz, _, _, rfl, rfl, _, _, rfl, decide_eq_true z2, k _ (sm.trans s14)⟩
        · have e1 : decide (V.int (((ring.map V.int).length : Nat) : Int) = V.int 0) = false := by rw [len_eq_nil]; exact decide_eq_false cr
          rw [e1]
          exact iteT ⟨_, _, rfl, rfl, k _ (sm.trans s14)⟩
end
/-! ### check_at_depth: by the word's own check -/
def sp_check_at (K : PySem.W.Frag) (sF sR sU sO sE sP : Sp) : Sp := fun vs H Q _ => ∃ (a : Addr) (word : Str) (rest : List V) (d : Int), vs = [.ref a, .int d] ∧ d ≤ 5 ∧ SqT K H a (.str word :: rest) ∧
  ((word = "fraction" ∧ rest.length = 2 ∧ sF [.ref a, .int d] H (fun _ => Q .non) E0) ∨ (word = "root" ∧ rest.length = 3 ∧ sR [.ref a, .int d] H (fun _ => Q .non) E0) ∨ (word = "ruled" ∧ rest.length = 3 ∧ sU [.ref a, .int d] H (fun _ => Q .non) E0) ∨
   (word = "four" ∧ rest.length = 2 ∧ sO [.ref a, .int d] H (fun _ => Q .non) E0) ∨ (word = "eight" ∧ rest.length = 3 ∧ sE [.ref a, .int d] H (fun _ => Q .non) E0) ∨ (word = "power" ∧ rest.length = 2 ∧ sP [.ref a, .int d] H (fun _ => Q .non) E0))
section
variable {P : Program} {w : World} {K : PySem.W.Frag} {mg : Str → Option Value} {base : Heap} {A : Ad}
theorem ok_check_at_depth {k : Nat} {sF sR sU sO sE sP : Sp} (T : CT K mg A) (TT : TB K w mg A) (D : DT K mg A) (hk : 1 ≤ k)
    (G_check_fraction : COk P w K mg base CX0 k "check_fraction" ["tree", "depth"] sF) (G_check_root : COk P w K mg base CX0 k "check_root" ["tree", "depth"] sR) (G_check_ruled : COk P w K mg base CX0 k "check_ruled" ["tree", "depth"] sU)
    (G_check_four : COk P w K mg base CX0 k "check_four" ["tree", "depth"] sO) (G_check_eight : COk P w K mg base CX0 k "check_eight" ["tree", "depth"] sE) (G_check_power : COk P w K mg base CX0 k "check_power" ["tree", "depth"] sP) :
    COk P w K mg base CX0 (k + 1) "check_at_depth" ["tree", "depth"] (sp_check_at K sF sR sU sO sE sP) := by
  have G_require : COk P w K mg base CX0 k "require" ["holds", "why"] sp_require := (ok_require D).mono hk
  obtain ⟨tD, gi_MOST_DEPTH⟩ := T.i_MOST_DEPTH
  refine COk.by D.check_at_depth fun f fd F => ?_
  refine F.ok sc_check_at_depth (fun vs H Q E h => ?_) (fun cdv Ar outer s H vs Q E hr h => ?_)
  · obtain ⟨a, word, rest, d, rfl, _⟩ := h
    rfl
  · obtain ⟨a, word, rest, d, rfl, hd, ha, hw⟩ := h
    refine ⟨_, (pss_cons (ps_expr (pe_c G_require (hr.mono (by first | decide | omega)) (pa_cons (pe_cmpR op_le (pv 1) (pe_glob (v := .int 5) (by rfl) gi_MOST_DEPTH ⟨_, rfl⟩) (nomark _)) (pa_cons pe_str pa_nil))))
    (pss_cons (ps_expr (pe_c G_require (hr.mono (by first | decide | omega)) (pa_cons (pe_and (pe_callB call_isi (by rfl) T.b_isinstance (by decide +kernel) (pa_cons (pv 0) (pa_cons (pe_bltn (v := .ty "tuple") (by rfl) T.b_tuple (by decide +kernel) rfl) pa_nil))) (pe_one (pe_cmpR op_gt (pe_callB call_len_seq (by rfl) T.b_len (by decide +kernel) (pa_cons (pv 0) pa_nil)) pe_int (nomark _)))) (pa_cons pe_str pa_nil))))
    (pss_cons (ps_set (i := 2) sc_check_at_depth.nd rfl (Or.inl rfl) (pe_ix ix_tup (pv 0) pe_int (fun _ _ => rfl)))
    (pss_cons (ps_expr (pe_c G_require (hr.mono (by first | decide | omega)) (pa_cons (pe_and (pe_callB call_isi (by rfl) T.b_isinstance (by decide +kernel) (pa_cons (pv 2) (pa_cons (pe_bltn (v := .ty "str") (by rfl) T.b_str (by decide +kernel) rfl) pa_nil))) (pe_one (pe_cmpR (op_in_kd' TT.dL) (pv 2) (pe_glob (v := .ref A.k_LENGTHS) (by rfl) T.g_LENGTHS rfl) rfl))) (pa_cons pe_str pa_nil))))
    (pss_cons (ps_expr (pe_c G_require (hr.mono (by first | decide | omega)) (pa_cons (pe_cmpR op_eq (pe_callB call_len_seq (by rfl) T.b_len (by decide +kernel) (pa_cons (pv 0) pa_nil)) (pe_ix (ix_kd TT.dL) (pe_glob (v := .ref A.k_LENGTHS) (by rfl) T.g_LENGTHS rfl) (pv 2) (fun _ _ => rfl)) (nomark _)) (pa_cons pe_str pa_nil))))
    (pss_cons (ps_set (i := 3) sc_check_at_depth.nd rfl (Or.inl rfl) (pe_ix (ix_kd TT.dC) (pe_glob (v := .ref A.k_CHECKS) (by rfl) T.g_CHECKS rfl) (pv 2) (fun _ _ => rfl)))
    (pss_one (ps_expr ((pe_alt (pe_cL G_check_fraction hr (i := 3) rfl (Or.inl rfl) (pa_cons (pv 0) (pa_cons (pv 1) pa_nil))) (pe_alt (pe_cL G_check_root hr (i := 3) rfl (Or.inl rfl) (pa_cons (pv 0) (pa_cons (pv 1) pa_nil))) (pe_alt (pe_cL G_check_ruled hr (i := 3) rfl (Or.inl rfl) (pa_cons (pv 0) (pa_cons (pv 1) pa_nil))) (pe_alt (pe_cL G_check_four hr (i := 3) rfl (Or.inl rfl) (pa_cons (pv 0) (pa_cons (pv 1) pa_nil))) (pe_alt (pe_cL G_check_eight hr (i := 3) rfl (Or.inl rfl) (pa_cons (pv 0) (pa_cons (pv 1) pa_nil))) (pe_cL G_check_power hr (i := 3) rfl (Or.inl rfl) (pa_cons (pv 0) (pa_cons (pv 1) pa_nil))))))))))))))))), ?_⟩
    -- depth
    refine ⟨_, rfl, _, _, rfl, rfl, _, _, rfl, decide_eq_true hd, ?_⟩
    -- a tuple of something
    refine ⟨_, rfl, _, _, _, _, true, rfl, .ty "tuple", tyT ha, kit_ty (by decide +kernel), _, rfl, iteT ⟨_, rfl, a, _, rfl, .inr ha, _, _, rfl, rfl, _, _, rfl, decide_eq_true (by rw [List.length_cons]; omega), ?_⟩⟩
    refine ⟨_, rfl, a, _, 0, .str word, rfl, rfl, ha, atI_nat (j := 0) rfl, ?_⟩
    have key : ∀ {n : Int}, (word, n) ∈ ([("fraction", 3), ("root", 4), ("ruled", 4), ("four", 3), ("eight", 4), ("power", 3)] : List (Str × Int)) → n = (rest.length : Int) + 1 → ∃ t, PySem.W.nsIn K A.k_LENGTHS word = some (some (.int ((rest.length : Int) + 1) t)) := fun {n} hm e => by
      rw [← e]
      exact TT.lens word n hm
    have hlen : ∃ t, PySem.W.nsIn K A.k_LENGTHS word = some (some (.int ((rest.length : Int) + 1) t)) := by
      rcases hw with ⟨rfl, e, _⟩ | ⟨rfl, e, _⟩ | ⟨rfl, e, _⟩ | ⟨rfl, e, _⟩ | ⟨rfl, e, _⟩ | ⟨rfl, e, _⟩
      · exact key (n := 3) (by simp) (by omega)
      · exact key (n := 4) (by simp) (by omega)
      · exact key (n := 4) (by simp) (by omega)
      · exact key (n := 3) (by simp) (by omega)
      · exact key (n := 4) (by simp) (by omega)
      · exact key (n := 3) (by simp) (by omega)
    obtain ⟨tl, hl⟩ := hlen
    refine ⟨_, rfl, _, _, _, _, true, rfl, .ty "str", .base (.str word), kit_ty (by decide +kernel), _, rfl, iteT ⟨_, rfl, word, _, rfl, rfl, hl, _, _, rfl, rfl, ?_⟩⟩
    refine ⟨_, rfl, a, _, rfl, .inr ha, _, rfl, word, _, .int ((rest.length : Int) + 1), rfl, rfl, hl, ⟨_, rfl⟩, rfl, _, _, rfl, decide_eq_true (by rw [List.length_cons]; rfl), ?_⟩
    have chk : ∀ {y : Str} {sp : Sp}, (word, y) ∈ ([("fraction", "check_fraction"), ("root", "check_root"), ("ruled", "check_ruled"), ("four", "check_four"), ("eight", "check_eight"), ("power", "check_power")] : List (Str × Str)) → COk P w K mg base CX0 k y ["tree", "depth"] sp → ∃ f, mg y = some (.ref f) ∧ PySem.W.nsIn K A.k_CHECKS word = some (some (.ref f)) := fun {y sp} hm C => by
      obtain ⟨f, fd, _, e, _⟩ := C
      exact ⟨f, e, TT.chks word y f hm e⟩
    rcases hw with ⟨rfl, e, q⟩ | ⟨rfl, e, q⟩ | ⟨rfl, e, q⟩ | ⟨rfl, e, q⟩ | ⟨rfl, e, q⟩ | ⟨rfl, e, q⟩
    · obtain ⟨f1, e1, e2⟩ := chk (y := "check_fraction") (by simp) G_check_fraction
      exact ⟨_, rfl, _, _, .ref f1, rfl, rfl, e2, rfl, .inl ⟨fun g eg => by cases e1.symm.trans eg; rfl, _, rfl, _, rfl, q⟩⟩
    · obtain ⟨f1, e1, e2⟩ := chk (y := "check_root") (by simp) G_check_root
      exact ⟨_, rfl, _, _, .ref f1, rfl, rfl, e2, rfl, .inr (.inl ⟨fun g eg => by cases e1.symm.trans eg; rfl, _, rfl, _, rfl, q⟩)⟩
    · obtain ⟨f1, e1, e2⟩ := chk (y := "check_ruled") (by simp) G_check_ruled
      exact ⟨_, rfl, _, _, .ref f1, rfl, rfl, e2, rfl, .inr (.inr (.inl ⟨fun g eg => by cases e1.symm.trans eg; rfl, _, rfl, _, rfl, q⟩))⟩
    · obtain ⟨f1, e1, e2⟩ := chk (y := "check_four") (by simp) G_check_four
      exact ⟨_, rfl, _, _, .ref f1, rfl, rfl, e2, rfl, .inr (.inr (.inr (.inl ⟨fun g eg => by cases e1.symm.trans eg; rfl, _, rfl, _, rfl, q⟩)))⟩
    · obtain ⟨f1, e1, e2⟩ := chk (y := "check_eight") (by simp) G_check_eight
      exact ⟨_, rfl, _, _, .ref f1, rfl, rfl, e2, rfl, .inr (.inr (.inr (.inr (.inl ⟨fun g eg => by cases e1.symm.trans eg; rfl, _, rfl, _, rfl, q⟩))))⟩
    · obtain ⟨f1, e1, e2⟩ := chk (y := "check_power") (by simp) G_check_power
      exact ⟨_, rfl, _, _, .ref f1, rfl, rfl, e2, rfl, .inr (.inr (.inr (.inr (.inr ⟨fun g eg => by cases e1.symm.trans eg; rfl, _, rfl, _, rfl, q⟩))))⟩
/-- a promise that is never asked for -/
abbrev spNo : Sp := fun _ _ _ _ => False
theorem ok_no {k : Nat} {x : Str} {st : Stmt} {ps : List Str} (D : ∃ f fd, DefAt K mg x st ps f fd) : COk P w K mg base CX0 k x ps spNo := by
  obtain ⟨f, fd, F⟩ := D
  exact .of F ⟨(fun _ _ _ _ h => h.elim), (fun _ _ _ _ _ _ _ _ _ _ _ _ _ h => h.elim)⟩
/-- check_tree at level k + 1, over check_at_depth at level k -/
theorem ok_check_tree {k : Nat} {sp : Sp} (D : DT K mg A) (G_check_at_depth : COk P w K mg base CX0 k "check_at_depth" ["tree", "depth"] sp) :
    COk P w K mg base CX0 (k + 1) "check_tree" ["tree"] (fun vs H Q _ => ∃ v, vs = [v] ∧ sp [v, .int 1] H (fun _ => Q .non) E0) := by
  refine COk.by D.check_tree fun f fd F => ?_
  refine F.ok sc_check_tree (fun vs H Q E h => ?_) (fun cdv Ar outer s H vs Q E hr h => ?_)
  · obtain ⟨v, rfl, _⟩ := h
    rfl
  · obtain ⟨v, rfl, q⟩ := h
    refine ⟨_, (pss_one (ps_expr (pe_c G_check_at_depth (hr.mono (by first | decide | omega)) (pa_cons (pv 0) (pa_cons pe_int pa_nil))))), ?_⟩
    exact ⟨_, rfl, q⟩
end
/-! ### the meter, a leaf's asking, a reading of a leaf -/
section
variable {P : Program} {w : World} {K : PySem.W.Frag} {mg : Str → Option Value} {base : Heap} {A : Ad}
theorem root_there : ∀ s : Int, 0 ≤ s → ∃ r, IsRoot s r := by
  have key : ∀ n : Nat, ∃ r, IsRoot (n : Int) r := fun n => by
    induction n with
    | zero => exact ⟨0, by decide, by decide, by decide⟩
    | succ n ih =>
      obtain ⟨r, h0, h1, h2⟩ := ih
      have e1 : (r + 1 + 1) * (r + 1 + 1) = (r + 1) * (r + 1) + 2 * (r + 1) + 1 := by grind
      by_cases c : ((n + 1 : Nat) : Int) < (r + 1) * (r + 1)
      · exact ⟨r, h0, by omega, c⟩
      · exact ⟨r + 1, by omega, by omega, by omega⟩
  intro s hs
  obtain ⟨n, rfl⟩ := Int.eq_ofNat_of_zero_le hs
  exact key n
theorem ok_Meter_init (T : CT K mg A) (D : DT K mg A) : IOk P w K mg base 1 "Meter" A.c_Meter ["self"] (sp_ini A.c_Meter 0 fun _ => meF 0 0) := by
  refine IOk.of T.g_Meter D.Meter_init fun f fd F => ?_
  refine F.ok sc_Meter_init (fun vs H Q E h => ?_) (fun cdv Ar outer s H vs Q E hr h => ?_)
  · obtain ⟨p, dx, us, rfl, hl, _⟩ := h
    show us.length + 1 = 1
    omega
  · obtain ⟨p, dx, us, rfl, hl, hp, k⟩ := h
    match us, hl with
    | [], _ =>
      refine ⟨_, (pss_cons (ps_fld (pv 0) pe_int rfl)
    (pss_one (ps_fld (pv 0) pe_int rfl))), ?_⟩
      refine ⟨_, rfl, p, _, dx, [], rfl, hp, T.cl_Meter, T.n_Meter_left, (by show 0 < 1000; decide), ?_⟩
      refine ⟨_, rfl, p, _, dx, _, rfl, upd_same, T.cl_Meter, T.n_Meter_spent, (by show 1 < 1000; decide), ?_⟩
      refine cast (congrArg (Q V.non) ?_) k
      rw [upd_upd]
      rfl
theorem ok_Meter_allow (T : CT K mg A) (D : DT K mg A) : MOk P w K mg base CX0 1 A.c_Meter "allow" ["self", "most"] (fun vs H Q _ => ∃ m dx l s n, vs = [.ref m, .int n] ∧ H m = some (.ins A.c_Meter dx (meF l s)) ∧ Q .non (upd H m (.ins A.c_Meter dx (meF n s)))) := by
  refine MOk.of T.cl_Meter D.Meter_allow fun f fd F => ?_
  refine F.ok sc_Meter_allow (fun vs H Q E h => ?_) (fun cdv Ar outer s H vs Q E hr h => ?_)
  · obtain ⟨m, dx, l, sp, n, rfl, _⟩ := h
    rfl
  · obtain ⟨m, dx, l, sp, n, rfl, hm, k⟩ := h
    refine ⟨_, (pss_one (ps_fld (pv 0) (pv 1) rfl)), ?_⟩
    exact ⟨_, rfl, _, rfl, m, _, dx, _, rfl, hm, T.cl_Meter, T.n_Meter_left, (by show 2 < 1000; decide), k⟩
theorem ok_Meter_pay (T : CT K mg A) (D : DT K mg A) : MOk P w K mg base CX0 1 A.c_Meter "pay" ["self"] (fun vs H Q _ => ∃ m dx l s, vs = [.ref m] ∧ H m = some (.ins A.c_Meter dx (meF l s)) ∧ Q .non (upd H m (.ins A.c_Meter dx (meF (l - 1) (s + 1))))) := by
  refine MOk.of T.cl_Meter D.Meter_pay fun f fd F => ?_
  refine F.ok sc_Meter_pay (fun vs H Q E h => ?_) (fun cdv Ar outer s H vs Q E hr h => ?_)
  · obtain ⟨m, dx, l, sp, rfl, _⟩ := h
    rfl
  · obtain ⟨m, dx, l, sp, rfl, hm, k⟩ := h
    refine ⟨_, (pss_cons (ps_fldaug (pv 0) pe_int in_sub)
    (pss_one (ps_fldaug (pv 0) pe_int in_add))), ?_⟩
    refine ⟨_, rfl, m, _, dx, _, _, rfl, hm, T.cl_Meter, T.n_Meter_left, rfl, _, _, rfl, rfl, dx, _, hm, (by show 2 < 1000; decide), ?_⟩
    refine ⟨_, rfl, m, _, dx, _, _, rfl, upd_same, T.cl_Meter, T.n_Meter_spent, rfl, _, _, rfl, rfl, dx, _, upd_same, (by show 2 < 1000; decide), ?_⟩
    refine cast (congrArg (Q V.non) ?_) k
    rw [upd_upd]
    rfl
/-! what is told -/
inductive Ans where
  | part (n : Int) | fin | waits
def Ans.At (A : Ad) (H : Hp) (v : V) : Ans → Prop
  | .part n => ∃ p, v = .ref p ∧ H p = some (.tup [.str "part", .int n])
  | .fin => v = .ref A.k_END
  | .waits => v = .ref A.k_WAITS
/-- a leaf, asked with l parts to be taken -/
def Chain.ans (c : Chain) (l : Int) : Ans := if c.ended = true then .fin else if l < 1 then .waits else .part c.part
def Chain.then_ (c : Chain) (l : Int) : Chain := if c.ended = true then c else if l < 1 then c else c.next
def Chain.took (c : Chain) (l : Int) : Int := if c.ended = true then 0 else if l < 1 then 0 else 1
/-- a leaf at a, its chain at c -/
def LeafAt (A : Ad) (K : PySem.W.Frag) (H : Hp) (a c : Addr) (ch : Chain) : Prop := (∃ dx, H a = some (.ins A.c_Leaf dx (leF c))) ∧ Chain.At A K H c ch
/-- what holds of a chain, where the rest is kept -/
theorem Chain.At.kept {H H' : Hp} {a : Addr} {ch : Chain} {N : Addr → Prop} (h : Chain.At A K H a ch) (hn : ¬ N a) (k : ∀ b o, H b = some o → ¬ N b → H' b = some o) (hN : ∀ b o, N b → H b = some o → (∀ ys, o ≠ .tup ys) ∧ ∀ ob u, o ≠ .frz ob u) : Chain.At A K H' a ch := by
  cases ch with
  | frac t b => obtain ⟨dx, e⟩ := h; exact ⟨dx, k _ _ e hn⟩
  | root t s b r => obtain ⟨dx, e⟩ := h; exact ⟨dx, k _ _ e hn⟩
  | ruled ps ring steps i =>
    obtain ⟨dx, p, q, u, e, hp, hq, hu⟩ := h
    exact ⟨dx, p, q, u, k _ _ e hn, sqT_but hp k hN, sqT_but hq k hN, sqT_but hu k hN⟩
theorem Chain.At.same {H H' : Hp} {a : Addr} {ch : Chain} (h : Chain.At A K H a ch) (k : Same H H') : Chain.At A K H' a ch :=
  h.kept (N := fun _ => False) (fun z => z) (fun b o e _ => k b o e) fun _ _ z => z.elim
theorem Chain.At.there {H : Hp} {a : Addr} {ch : Chain} (h : Chain.At A K H a ch) : ∃ C dx fs, H a = some (.ins C dx fs) := by
  cases ch with
  | frac t b => obtain ⟨dx, e⟩ := h; exact ⟨_, _, _, e⟩
  | root t s b r => obtain ⟨dx, e⟩ := h; exact ⟨_, _, _, e⟩
  | ruled ps ring steps i => obtain ⟨dx, p, q, u, e, _⟩ := h; exact ⟨_, _, _, e⟩
theorem Chain.At.cls {H : Hp} {a C dx : Addr} {fs : Flds} {ch : Chain} (h : Chain.At A K H a ch) (e : H a = some (.ins C dx fs)) : fs.lookup ("has_ended" : Str) = none ∧ fs.lookup ("next_part" : Str) = none := by
  cases ch with
  | frac t b => obtain ⟨dx', e'⟩ := h; rw [e'] at e; cases e; exact ⟨rfl, rfl⟩
  | root t s b r => obtain ⟨dx', e'⟩ := h; rw [e'] at e; cases e; exact ⟨rfl, rfl⟩
  | ruled ps ring steps i => obtain ⟨dx', p, q, u, e', _⟩ := h; rw [e'] at e; cases e; exact ⟨rfl, rfl⟩
theorem ins_no {C dx : Addr} {fs : Flds} {o : HO} (e : o = .ins C dx fs) : (∀ ys, o ≠ .tup ys) ∧ ∀ ob u, o ≠ .frz ob u := by
  subst e
  exact ⟨fun _ q => (by cases q), fun _ _ q => (by cases q)⟩
theorem Chain.Ok.next {ch : Chain} (h : ch.Ok) (he : ch.ended = false) : ch.next.Ok := by
  cases ch with
  | frac t b =>
    have hb : b ≠ 0 := fun z => by subst z; cases he
    exact ⟨h.2, small_fm h.2 hb⟩
  | root t s b r => exact root_next h
  | ruled ps ring steps i => exact h
def sp_Leaf_ask (A : Ad) (K : PySem.W.Frag) : Sp := fun vs H Q _ => ∃ (a c m : Addr) (ch : Chain) (l s : Int), vs = [.ref a, .ref m] ∧ LeafAt A K H a c ch ∧ ch.Ok ∧ MeterAt A H m l s ∧ a ≠ c ∧ a ≠ m ∧ c ≠ m ∧
  ∀ v H', LeafAt A K H' a c (ch.then_ l) → MeterAt A H' m (l - ch.took l) (s + ch.took l) → (ch.ans l).At A H' v → (∀ b o, H b = some o → b ≠ c → b ≠ m → H' b = some o) → Q v H'
theorem ok_Leaf_ask (T : CT K mg A) (D : DT K mg A) : MOk P w K mg base CX0 2 A.c_Leaf "ask" ["self", "meter"] (sp_Leaf_ask A K) := by
  have M1 := ok_FractionChain_has_ended (P := P) (w := w) (base := base) T D
  have M2 := ok_RootChain_has_ended (P := P) (w := w) (base := base) T D
  have M3 := ok_RuledChain_has_ended (P := P) (w := w) (base := base) T D
  have N1 := ok_FractionChain_next_part (P := P) (w := w) (base := base) T D
  have N2 := ok_RootChain_next_part (P := P) (w := w) (base := base) T D
  have N3 := ok_RuledChain_next_part (P := P) (w := w) (base := base) T D
  have M_pay := ok_Meter_pay (P := P) (w := w) (base := base) T D
  refine MOk.of T.cl_Leaf D.Leaf_ask fun f fd F => ?_
  refine F.ok sc_Leaf_ask (fun vs H Q E h => ?_) (fun cdv Ar outer s H vs Q E hr h => ?_)
  · obtain ⟨a, c, m, ch, l, sp, rfl, _⟩ := h
    rfl
  · obtain ⟨a, c, m, ch, l, sp, rfl, ⟨⟨dx, ha⟩, hc⟩, ok, ⟨dm, hm⟩, nac, nam, ncm, k⟩ := h
    refine ⟨_, (C8.pss_cut (ps_if (pt_val ((pe_alt (pe_m0 M1 (hr.mono (by decide)) (pe_fld (pv 0) rfl)) (pe_alt (pe_m0 M2 (hr.mono (by decide)) (pe_fld (pv 0) rfl)) (pe_m0 M3 (hr.mono (by decide)) (pe_fld (pv 0) rfl))))))
      (pss_one (ps_ret (pe_glob (v := .ref A.k_END) (by rfl) T.g_END rfl))) pss_nil)
    (pss_cons (ps_if (pt_cmpR op_lt (pe_fld (pv 1) rfl) pe_int (nomark _))
      (pss_one (ps_ret (pe_glob (v := .ref A.k_WAITS) (by rfl) T.g_WAITS rfl))) pss_nil)
    (pss_cons (ps_expr (pe_m0 M_pay (hr.mono (by first | decide | omega)) (pv 1)))
    (pss_one (ps_ret (pe_tup (pa_cons pe_str (pa_cons ((pe_alt (pe_m0 N1 (hr.mono (by decide)) (pe_fld (pv 0) rfl)) (pe_alt (pe_m0 N2 (hr.mono (by decide)) (pe_fld (pv 0) rfl)) (pe_m0 N3 (hr.mono (by decide)) (pe_fld (pv 0) rfl))))) pa_nil)))))))), ?_⟩
    have cl := T.cl_Leaf
    obtain ⟨C, dc, fs, hcs⟩ := hc.there
    obtain ⟨lk1, lk2⟩ := hc.cls hcs
    refine ⟨fun σ H2 => σ = [some (.ref a), some (.ref m)] ∧ H2 = H ∧ ch.ended = false, ?_, ?_⟩
    · -- has it ended
      have two : ∀ {b : Bool}, b = ch.ended → (if b = true then tRet (tC (V.ref A.k_END)) { nx := fun σ H2 => σ = [some (.ref a), some (.ref m)] ∧ H2 = H ∧ ch.ended = false, rt := Q } [some (.ref a), some (.ref m)] H else tNext { nx := fun σ H2 => σ = [some (.ref a), some (.ref m)] ∧ H2 = H ∧ ch.ended = false, rt := Q } [some (.ref a), some (.ref m)] H) := fun {b} e => by
        subst e
        cases he : ch.ended with
        | true =>
          rw [if_pos rfl]
          have e1 : ch.ans l = .fin := by unfold Chain.ans; rw [if_pos he]
          have e2 : ch.then_ l = ch := by unfold Chain.then_; rw [if_pos he]
          have e3 : ch.took l = 0 := by unfold Chain.took; rw [if_pos he]
          refine k _ H ?_ ?_ ?_ (fun b o e _ _ => e)
          · rw [e2]; exact ⟨⟨dx, ha⟩, hc⟩
          · rw [e3, Int.sub_zero, Int.add_zero]; exact ⟨dm, hm⟩
          · rw [e1]; rfl
        | false =>
          rw [if_neg (by decide)]
          exact ⟨rfl, rfl, rfl⟩
      cases ch with
      | frac t b =>
        obtain ⟨dc', hc'⟩ := id hc
        exact .inl ⟨_, rfl, a, _, dx, _, _, rfl, ha, cl, T.n_Leaf_chain, rfl, c, dc', _, rfl, hc', rfl, c, t, b, rfl, hc, _, rfl, two rfl⟩
      | root t s b r =>
        obtain ⟨dc', hc'⟩ := id hc
        exact .inr (.inl ⟨_, rfl, a, _, dx, _, _, rfl, ha, cl, T.n_Leaf_chain, rfl, c, dc', _, rfl, hc', rfl, c, rfl, _, rfl, two rfl⟩)
      | ruled ps ring steps i =>
        obtain ⟨dc', p, q, u, hc', _⟩ := id hc
        exact .inr (.inr ⟨_, rfl, a, _, dx, _, _, rfl, ha, cl, T.n_Leaf_chain, rfl, c, dc', _, rfl, hc', rfl, c, ps, ring, steps, i, rfl, hc, _, rfl, two rfl⟩)
    · rintro σ H2 ⟨rfl, rfl, he⟩
      refine ⟨_, rfl, m, _, dm, _, _, rfl, hm, T.cl_Meter, T.n_Meter_left, rfl, _, _, rfl, rfl, _, rfl, ite2 (fun cl1 => ?_) (fun cl1 => ?_)⟩
      · have hl : l < 1 := of_decide_eq_true cl1
        have e1 : ch.ans l = .waits := by unfold Chain.ans; rw [he, if_neg (by decide), if_pos hl]
        have e2 : ch.then_ l = ch := by unfold Chain.then_; rw [he, if_neg (by decide), if_pos hl]
        have e3 : ch.took l = 0 := by unfold Chain.took; rw [he, if_neg (by decide), if_pos hl]
        refine k _ _ ?_ ?_ ?_ (fun b o e _ _ => e)
        · rw [e2]; exact ⟨⟨dx, ha⟩, hc⟩
        · rw [e3, Int.sub_zero, Int.add_zero]; exact ⟨dm, hm⟩
        · rw [e1]; rfl
      · have hl : ¬ l < 1 := fun z => cl1 (decide_eq_true z)
        have e1 : ch.ans l = .part ch.part := by unfold Chain.ans; rw [he, if_neg (by decide), if_neg hl]
        have e2 : ch.then_ l = ch.next := by unfold Chain.then_; rw [he, if_neg (by decide), if_neg hl]
        have e3 : ch.took l = 1 := by unfold Chain.took; rw [he, if_neg (by decide), if_neg hl]
        rw [e1, e2, e3] at k
        -- pay
        refine ⟨_, rfl, m, dm, _, rfl, hm, rfl, m, dm, l, sp, rfl, hm, ?_⟩
        have kp1 : ∀ b o, H2 b = some o → b ≠ m → (upd H2 m (.ins A.c_Meter dm (meF (l - 1) (sp + 1)))) b = some o := fun b o e hb => by rw [upd_ne hb]; exact e
        have hc1 : Chain.At A K (upd H2 m (.ins A.c_Meter dm (meF (l - 1) (sp + 1)))) c ch := hc.kept (N := fun b => b = m) ncm kp1 fun b o e z => by subst e; rw [hm] at z; exact ins_no (Option.some.inj z).symm
        have ha1 := kp1 a _ ha nam
        have hm1 : (upd H2 m (.ins A.c_Meter dm (meF (l - 1) (sp + 1)))) m = some (.ins A.c_Meter dm (meF (l - 1) (sp + 1))) := upd_same
        have hcs1 := kp1 c _ hcs ncm
        generalize upd H2 m (.ins A.c_Meter dm (meF (l - 1) (sp + 1))) = H3 at *
        have fin : ∀ H4, Chain.At A K H4 c ch.next → (∀ b o, H3 b = some o → b ≠ c → H4 b = some o) → ∀ p, H4 p = none → Q (.ref p) (upd H4 p (.tup [.str "part", .int ch.part])) := fun H4 hn kp4 p np => by
          have s5 := same_upd (o := .tup [V.str "part", .int ch.part]) np
          refine k _ _ ⟨⟨dx, s5 _ _ (kp4 a _ ha1 nac)⟩, hn.same s5⟩ ⟨dm, s5 _ _ (kp4 m _ hm1 (Ne.symm ncm))⟩ ⟨p, rfl, upd_same⟩ fun b o e hb hb2 => s5 _ _ (kp4 b o (kp1 b o e hb2) hb)
        have two : (2 : Nat) ≤ sizeLine := by decide
        cases ch with
        | frac t b =>
          obtain ⟨dc', hc'⟩ := id hc1
          have hb : b ≠ 0 := fun z => by subst z; cases he
          exact .inl ⟨_, rfl, a, _, dx, _, _, rfl, ha1, cl, T.n_Leaf_chain, rfl, c, dc', _, rfl, hc', rfl, c, t, b, rfl, hc1, hb, ok.1, ok.2, fun H4 hn kp4 => ⟨two, fun p np => fin H4 hn kp4 p np⟩⟩
        | root t s b r =>
          obtain ⟨dc', hc'⟩ := id hc1
          exact .inr (.inl ⟨_, rfl, a, _, dx, _, _, rfl, ha1, cl, T.n_Leaf_chain, rfl, c, dc', _, rfl, hc', rfl, c, t, s, b, r, rfl, hc1, ok, fun H4 hn kp4 => ⟨two, fun p np => fin H4 hn kp4 p np⟩⟩)
        | ruled ps ring steps i =>
          obtain ⟨dc', p, q, u, hc', _⟩ := id hc1
          have hne : ring = [] → i < ps.length := fun z => by
            subst z
            have he' : decide (ps.length ≤ i) = false := he
            have := of_decide_eq_false he'
            omega
          exact .inr (.inr ⟨_, rfl, a, _, dx, _, _, rfl, ha1, cl, T.n_Leaf_chain, rfl, c, dc', _, rfl, hc', rfl, c, ps, ring, steps, i, rfl, hc1, ok, hne, fun H4 hn kp4 => ⟨two, fun p np => fin H4 hn kp4 p np⟩⟩)
theorem ok_Leaf_init (T : CT K mg A) (D : DT K mg A) : IOk P w K mg base 1 "Leaf" A.c_Leaf ["self", "chain"] (sp_ini A.c_Leaf 1 fun us => [("chain", us.getD 0 .non)]) := by
  refine IOk.of T.g_Leaf D.Leaf_init fun f fd F => ?_
  refine F.ok sc_Leaf_init (fun vs H Q E h => ?_) (fun cdv Ar outer s H vs Q E hr h => ?_)
  · obtain ⟨p, dx, us, rfl, hl, _⟩ := h
    show us.length + 1 = 2
    omega
  · obtain ⟨p, dx, us, rfl, hl, hp, k⟩ := h
    match us, hl with
    | [u0], _ =>
      refine ⟨_, (pss_one (ps_fld (pv 0) (pv 1) rfl)), ?_⟩
      exact ⟨_, rfl, _, rfl, p, _, dx, [], rfl, hp, T.cl_Leaf, T.n_Leaf_chain, (by show 0 < 1000; decide), k⟩
/-! trees of one leaf -/
inductive Leaf where
  | frac (t b : Int) | root (t s b : Int) | ruled (ps ring steps : List Int)
def Leaf.At (K : PySem.W.Frag) (H : Hp) (a : Addr) : Leaf → Prop
  | .frac t b => SqT K H a [.str "fraction", .int t, .int b]
  | .root t s b => SqT K H a [.str "root", .int t, .int s, .int b]
  | .ruled ps ring steps => ∃ p q u, SqT K H a [.str "ruled", .ref p, .ref q, .ref u] ∧ SqT K H p (ps.map V.int) ∧ SqT K H q (ring.map V.int) ∧ SqT K H u (steps.map V.int)
def Leaf.Good : Leaf → Prop
  | .frac t b => tame t ∧ tame b ∧ b ≠ 0
  | .root t s b => tame t ∧ tame s ∧ 0 ≤ s ∧ tame b ∧ b ≠ 0
  | .ruled ps ring steps => RuledGood ps ring steps
/-- the chain that a leaf begins with -/
def Leaf.Starts : Leaf → Chain → Prop
  | .frac t b, ch => ch = .frac t b
  | .root t s b, ch => ∃ r, IsRoot s r ∧ ((r * r = s ∧ ch = .frac (t + r) b) ∨ (r * r ≠ s ∧ ∃ q, IsRoot (s * (b.natAbs : Int) * (b.natAbs : Int)) q ∧ ch = .root (t * (b.natAbs : Int)) (s * (b.natAbs : Int) * (b.natAbs : Int)) (b * (b.natAbs : Int)) q))
  | .ruled ps ring steps, ch => ch = .ruled ps ring steps 0
theorem Leaf.At.same {H H' : Hp} {a : Addr} {f : Leaf} (h : f.At K H a) (k : Same H H') : f.At K H' a := by
  cases f with
  | frac t b => exact sqT_same h k
  | root t s b => exact sqT_same h k
  | ruled ps ring steps =>
    obtain ⟨p, q, u, e, hp, hq, hu⟩ := h
    exact ⟨p, q, u, sqT_same e k, sqT_same hp k, sqT_same hq k, sqT_same hu k⟩
/-- two new objects: an instance and its own dict -/
theorem made_same {H : Hp} {x dx : Addr} {o o' : HO} (nx : H x = none) (nd : H dx = none) : Same H (upd (upd H dx o) x o') := fun b u e => by
  rw [upd_ne (ne_of_none e nx), upd_ne (ne_of_none e nd)]
  exact e
def sp_root_chain (A : Ad) (K : PySem.W.Frag) : Sp := fun vs H Q _ => ∃ (t s b : Int), vs = [.int t, .int s, .int b] ∧ Leaf.Good (.root t s b) ∧
  ∀ c ch H', Chain.At A K H' c ch → Leaf.Starts (.root t s b) ch → ch.Ok → Same H H' → H c = none → Q (.ref c) H'
theorem ok_root_chain (T : CT K mg A) (D : DT K mg A) : COk P w K mg base CX0 4 "root_chain" ["top", "square", "below"] (sp_root_chain A K) := by
  have G_root_below : COk P w K mg base CX0 1 "root_below" ["number"] sp_root_below := COk.by D.root_below fun f fd F => ok_root_below F
  have I_FractionChain := ok_FractionChain_init (P := P) (w := w) (base := base) T D
  have I_RootChain := ok_RootChain_init (P := P) (w := w) (base := base) T D G_root_below root_there
  refine COk.by D.root_chain fun f fd F => ?_
  refine F.ok sc_root_chain (fun vs H Q E h => ?_) (fun cdv Ar outer s H vs Q E hr h => ?_)
  · obtain ⟨t, s, b, rfl, _⟩ := h
    rfl
  · obtain ⟨t, sq, b, rfl, ⟨ht, hs, hs0, hb, hb0⟩, k⟩ := h
    refine ⟨_, (pss_cons (ps_set (i := 3) sc_root_chain.nd rfl (Or.inl rfl) (pe_c G_root_below (hr.mono (by first | decide | omega)) (pa_cons (pv 1) pa_nil)))
    (pss_cons (ps_if (pt_cmpR op_eq (pe_op op_mul (pv 3) (pv 3)) (pv 1) (nomark _))
      (pss_one (ps_ret (pe_mk I_FractionChain (hr.mono (by first | decide | omega)) (pa_cons (pe_op op_add (pv 0) (pv 3)) (pa_cons (pv 2) pa_nil))))) pss_nil)
    (pss_one (ps_ret (pe_mk I_RootChain (hr.mono (by first | decide | omega)) (pa_cons (pv 0) (pa_cons (pv 1) (pa_cons (pv 2) pa_nil)))))))), ?_⟩
    obtain ⟨s1, s2⟩ := id hs
    obtain ⟨t1, t2⟩ := id ht
    refine ⟨_, rfl, sq, rfl, hs0, Int.lt_of_le_of_lt s2 (by decide +kernel), fun r hr0 => ?_⟩
    have r1 : r < 2 ^ 20 := lt_of_sq (k := 20) hr0.1 hr0.2.1 (Int.lt_of_le_of_lt s2 (by decide))
    have p20 : (2 : Int) ^ 20 = 1048576 := by decide
    have r0 := hr0.1
    have p64 : (2 : Int) ^ 64 = 18446744073709551616 := by decide
    have w64 : -(2 ^ 64) < r ∧ r < 2 ^ 64 := ⟨by omega, by omega⟩
    refine ⟨_, rfl, _, rfl, _, _, rfl, rfl, .inl w64, _, rfl, rfl, _, rfl, ite2 (fun c => ?_) (fun c => ?_)⟩
    · have e : r * r = sq := V.int.inj (of_decide_eq_true c)
      refine ⟨_, rfl, _, rfl, _, _, rfl, rfl, _, rfl, fun x dx nx nd ne => ?_⟩
      refine ⟨x, dx, [.int (t + r), .int b], rfl, rfl, upd_same, rfl, ?_⟩
      rw [upd_upd]
      refine k x (.frac (t + r) b) _ ⟨dx, upd_same⟩ ⟨r, hr0, .inl ⟨e, rfl⟩⟩ ⟨?_, small_tame hb⟩ (made_same nx nd) nx
      have p40 : (2 : Nat) ^ 41 = 2199023255552 := by decide
      exact Nat.lt_trans (show (t + r).natAbs < 2 ^ 41 by omega) (Nat.pow_lt_pow_right (by decide) (by decide))
    · have e : r * r ≠ sq := fun z => c (decide_eq_true (congrArg V.int z))
      refine ⟨_, rfl, _, rfl, _, rfl, fun x dx nx nd ne => ?_⟩
      refine ⟨x, dx, t, sq, b, rfl, upd_same, ht, hs0, s2, hb, hb0, (fun r' hr' => by rw [hr'.unique hr0]; exact e), fun q hq => ⟨rfl, ?_⟩⟩
      rw [upd_upd]
      exact k x (.root _ _ _ q) _ ⟨dx, upd_same⟩ ⟨r, hr0, .inr ⟨e, q, hq.rt, rfl⟩⟩ hq (made_same nx nd) nx
/-- a new leaf -/
def sp_leaf_of (A : Ad) (K : PySem.W.Frag) : Sp := fun vs H Q _ => ∃ (v : Addr) (f : Leaf), vs = [.ref v] ∧ f.At K H v ∧ f.Good ∧
  ∀ a c ch H', LeafAt A K H' a c ch → f.Starts ch → ch.Ok → Same H H' → H a = none → H c = none → a ≠ c → Q (.ref a) H'
theorem ok_leaf_of (T : CT K mg A) (D : DT K mg A) : COk P w K mg base CX0 5 "leaf_of" ["tree"] (sp_leaf_of A K) := by
  have G_root_chain := ok_root_chain (P := P) (w := w) (base := base) T D
  have I_FractionChain := ok_FractionChain_init (P := P) (w := w) (base := base) T D
  have I_RuledChain := ok_RuledChain_init (P := P) (w := w) (base := base) T D
  have I_Leaf := ok_Leaf_init (P := P) (w := w) (base := base) T D
  refine COk.by D.leaf_of fun f fd F => ?_
  refine F.ok sc_leaf_of (fun vs H Q E h => ?_) (fun cdv Ar outer s H vs Q E hr h => ?_)
  · obtain ⟨v, f, rfl, _⟩ := h
    rfl
  · obtain ⟨v, f, rfl, hf, hg, k⟩ := h
    refine ⟨_, (pss_cons (ps_if (pt_cmpR op_eq (pe_ix ix_tup (pv 0) pe_int (fun _ _ => rfl)) pe_str (nomark _))
      (pss_one (ps_ret (pe_mk I_Leaf (hr.mono (by first | decide | omega)) (pa_cons (pe_mk I_FractionChain (hr.mono (by first | decide | omega)) (pa_cons (pe_ix ix_tup (pv 0) pe_int (fun _ _ => rfl)) (pa_cons (pe_ix ix_tup (pv 0) pe_int (fun _ _ => rfl)) pa_nil))) pa_nil)))) pss_nil)
    (pss_cons (ps_if (pt_cmpR op_eq (pe_ix ix_tup (pv 0) pe_int (fun _ _ => rfl)) pe_str (nomark _))
      (pss_one (ps_ret (pe_mk I_Leaf (hr.mono (by first | decide | omega)) (pa_cons (pe_c G_root_chain (hr.mono (by first | decide | omega)) (pa_cons (pe_ix ix_tup (pv 0) pe_int (fun _ _ => rfl)) (pa_cons (pe_ix ix_tup (pv 0) pe_int (fun _ _ => rfl)) (pa_cons (pe_ix ix_tup (pv 0) pe_int (fun _ _ => rfl)) pa_nil)))) pa_nil)))) pss_nil)
    (pss_one (ps_ret (pe_mk I_Leaf (hr.mono (by first | decide | omega)) (pa_cons (pe_mk I_RuledChain (hr.mono (by first | decide | omega)) (pa_cons (pe_ix ix_tup (pv 0) pe_int (fun _ _ => rfl)) (pa_cons (pe_ix ix_tup (pv 0) pe_int (fun _ _ => rfl)) (pa_cons (pe_ix ix_tup (pv 0) pe_int (fun _ _ => rfl)) pa_nil)))) pa_nil)))))), ?_⟩
    have fin : ∀ c ch H1, Chain.At A K H1 c ch → f.Starts ch → ch.Ok → Same H H1 → H c = none → ∀ x dx, H1 x = none → H1 dx = none → dx ≠ x → Q (.ref x) (upd (upd (upd H1 dx (.own x)) x (.ins A.c_Leaf dx [])) x (.ins A.c_Leaf dx (leF c))) := fun c ch H1 hc st ok sm nc x dx nx nd ne => by
      rw [upd_upd]
      have s2 := made_same (o := .own x) (o' := .ins A.c_Leaf dx (leF c)) nx nd
      obtain ⟨C, d, fs, e⟩ := hc.there
      exact k x c ch _ ⟨⟨dx, upd_same⟩, hc.same s2⟩ st ok (sm.trans s2) (sm.free nx) nc (ne_of_none e nx).symm
    cases f with
    | frac t b =>
      refine ⟨_, rfl, v, _, 0, _, rfl, rfl, hf, atI_nat (j := 0) rfl, rfl, _, rfl, ?_⟩
      refine iteT ⟨_, rfl, v, _, 1, _, rfl, rfl, hf, atI_nat (j := 1) rfl, _, rfl, v, _, 2, _, rfl, rfl, hf, atI_nat (j := 2) rfl, fun x dx nx nd ne => ?_⟩
      refine ⟨x, dx, [.int t, .int b], rfl, rfl, upd_same, rfl, ?_⟩
      rw [upd_upd]
      intro x2 dx2 nx2 nd2 ne2
      exact ⟨x2, dx2, [.ref x], rfl, rfl, upd_same, rfl, fin x (.frac t b) _ ⟨dx, upd_same⟩ rfl ⟨small_tame hg.1, small_tame hg.2.1⟩ (made_same nx nd) nx x2 dx2 nx2 nd2 ne2⟩
    | root t sq b =>
      refine ⟨_, rfl, v, _, 0, _, rfl, rfl, hf, atI_nat (j := 0) rfl, rfl, _, rfl, ?_⟩
      refine iteF ⟨_, rfl, v, _, 0, _, rfl, rfl, hf, atI_nat (j := 0) rfl, rfl, _, rfl, ?_⟩
      refine iteT ⟨_, rfl, v, _, 1, _, rfl, rfl, hf, atI_nat (j := 1) rfl, _, rfl, v, _, 2, _, rfl, rfl, hf, atI_nat (j := 2) rfl, _, rfl, v, _, 3, _, rfl, rfl, hf, atI_nat (j := 3) rfl, t, sq, b, rfl, hg, fun c ch H1 hc st ok sm nc => ?_⟩
      intro x2 dx2 nx2 nd2 ne2
      exact ⟨x2, dx2, [.ref c], rfl, rfl, upd_same, rfl, fin c ch H1 hc st ok sm nc x2 dx2 nx2 nd2 ne2⟩
    | ruled ps ring steps =>
      obtain ⟨p, q, u, hv, hp, hq, hu⟩ := hf
      refine ⟨_, rfl, v, _, 0, _, rfl, rfl, hv, atI_nat (j := 0) rfl, rfl, _, rfl, ?_⟩
      refine iteF ⟨_, rfl, v, _, 0, _, rfl, rfl, hv, atI_nat (j := 0) rfl, rfl, _, rfl, ?_⟩
      refine iteF ⟨_, rfl, v, _, 1, _, rfl, rfl, hv, atI_nat (j := 1) rfl, _, rfl, v, _, 2, _, rfl, rfl, hv, atI_nat (j := 2) rfl, _, rfl, v, _, 3, _, rfl, rfl, hv, atI_nat (j := 3) rfl, fun x dx nx nd ne => ?_⟩
      refine ⟨x, dx, [.ref p, .ref q, .ref u], rfl, rfl, upd_same, rfl, ?_⟩
      rw [upd_upd]
      intro x2 dx2 nx2 nd2 ne2
      have s1 := made_same (o := .own x) (o' := .ins A.c_RuledChain dx (ruF p q u 0)) nx nd
      exact ⟨x2, dx2, [.ref x], rfl, rfl, upd_same, rfl, fin x (.ruled ps ring steps 0) _ ⟨dx, p, q, u, upd_same, sqT_same hp s1, sqT_same hq s1, sqT_same hu s1⟩ rfl hg.toRuledOk s1 nx x2 dx2 nx2 nd2 ne2⟩
end
/-! ### readings -/
section
variable {P : Program} {w : World} {K : PySem.W.Frag} {mg : Str → Option Value} {base : Heap} {A : Ad}
def sp_Reading_init (A : Ad) : Sp := fun vs H Q _ => ∃ (p dx : Addr) (b : Addr), vs = [.ref p, .ref b] ∧ H p = some (.ins A.c_Reading dx []) ∧
  ∀ m H', H m = none → H' p = some (.ins A.c_Reading dx (reF b m)) → MeterAt A H' m 0 0 → (∀ c o, H c = some o → c ≠ p → H' c = some o) → Q .non H'
theorem ok_Reading_init (T : CT K mg A) (D : DT K mg A) : IOk P w K mg base 3 "Reading" A.c_Reading ["self", "box"] (sp_Reading_init A) := by
  have I_Meter := ok_Meter_init (P := P) (w := w) (base := base) T D
  refine IOk.of T.g_Reading D.Reading_init fun f fd F => ?_
  refine F.ok sc_Reading_init (fun vs H Q E h => ?_) (fun cdv Ar outer s H vs Q E hr h => ?_)
  · obtain ⟨p, dx, b, rfl, _⟩ := h
    rfl
  · obtain ⟨p, dx, b, rfl, hp, k⟩ := h
    refine ⟨_, (pss_cons (ps_fld (pv 0) (pv 1) rfl)
    (pss_one (ps_fld (pv 0) (pe_mk0 I_Meter (hr.mono (by first | decide | omega))) rfl))), ?_⟩
    refine ⟨_, rfl, _, rfl, p, _, dx, [], rfl, hp, T.cl_Reading, T.n_Reading_box, (by show 0 < 1000; decide), ?_⟩
    intro m dm nm ndm ne
    refine ⟨m, dm, [], rfl, rfl, upd_same, rfl, ?_⟩
    rw [upd_upd]
    have h1 : (upd H p (.ins A.c_Reading dx (putF "box" (.ref b) []))) p = some (.ins A.c_Reading dx [("box", .ref b)]) := upd_same
    have s1 := made_same (o := .own m) (o' := .ins A.c_Meter dm (meF 0 0)) nm ndm
    have hpm : p ≠ m := ne_of_none h1 nm
    refine ⟨_, rfl, p, _, dx, _, rfl, s1 _ _ h1, T.cl_Reading, T.n_Reading_meter, (by show 1 < 1000; decide), ?_⟩
    refine k m _ ?_ upd_same ⟨dm, by rw [upd_ne hpm.symm, upd_same]⟩ fun c o e hc => ?_
    · rw [upd_ne hpm.symm] at nm
      exact nm
    · rw [upd_ne hc]
      exact s1 _ _ (by rw [upd_ne hc]; exact e)
theorem ok_Reading_took (T : CT K mg A) (D : DT K mg A) : MOk P w K mg base CX0 1 A.c_Reading "took" ["self"] (fun vs H Q _ => ∃ r rx b m dm l s, vs = [.ref r] ∧ H r = some (.ins A.c_Reading rx (reF b m)) ∧ H m = some (.ins A.c_Meter dm (meF l s)) ∧ Q (.int s) H) := by
  refine MOk.of T.cl_Reading D.Reading_took fun f fd F => ?_
  refine F.ok sc_Reading_took (fun vs H Q E h => ?_) (fun cdv Ar outer s H vs Q E hr h => ?_)
  · obtain ⟨r, rx, b, m, dm, l, s, rfl, _⟩ := h
    rfl
  · obtain ⟨r, rx, b, m, dm, l, sp, rfl, hr0, hm, k⟩ := h
    refine ⟨_, (pss_one (ps_ret (pe_fld (pe_fld (pv 0) rfl) rfl))), ?_⟩
    exact ⟨_, rfl, r, _, rx, _, _, rfl, hr0, T.cl_Reading, T.n_Reading_meter, rfl, m, _, dm, _, _, rfl, hm, T.cl_Meter, T.n_Meter_spent, rfl, k⟩
/-- a reading asks its box, of the class at C -/
def sp_part (A : Ad) (C : Addr) (spA : Sp) : Sp := fun vs H Q _ => ∃ (r rx b m dm db : Addr) (fb : Flds) (l s n : Int), vs = [.ref r, .int n] ∧ H r = some (.ins A.c_Reading rx (reF b m)) ∧ H m = some (.ins A.c_Meter dm (meF l s)) ∧ r ≠ m ∧ b ≠ m ∧ H b = some (.ins C db fb) ∧ fb.lookup ("ask" : Str) = none ∧
  spA [.ref b, .ref m] (upd H m (.ins A.c_Meter dm (meF n s))) Q E0
theorem ok_Reading_part {k : Nat} {C : Addr} {spA : Sp} (T : CT K mg A) (D : DT K mg A) (hk : 1 ≤ k) (M_ask : MOk P w K mg base CX0 k C "ask" ["self", "meter"] spA) : MOk P w K mg base CX0 (k + 1) A.c_Reading "part" ["self", "most"] (sp_part A C spA) := by
  have M_allow := ok_Meter_allow (P := P) (w := w) (base := base) T D
  refine MOk.of T.cl_Reading D.Reading_part fun f fd F => ?_
  refine F.ok sc_Reading_part (fun vs H Q E h => ?_) (fun cdv Ar outer s H vs Q E hr h => ?_)
  · obtain ⟨r, rx, b, m, dm, db, fb, l, s, n, rfl, _⟩ := h
    rfl
  · obtain ⟨r, rx, b, m, dm, db, fb, l, sp, n, rfl, hr0, hm, nrm, nbm, hb, lk, q⟩ := h
    refine ⟨_, (pss_cons (ps_expr (pe_m M_allow (hr.mono (by first | decide | omega)) (pe_fld (pv 0) rfl) (pa_cons (pv 1) pa_nil)))
    (pss_one (ps_ret (pe_m M_ask (hr.mono (by first | decide | omega)) (pe_fld (pv 0) rfl) (pa_cons (pe_fld (pv 0) rfl) pa_nil))))), ?_⟩
    have cl := T.cl_Reading
    refine ⟨_, rfl, r, _, rx, _, _, rfl, hr0, cl, T.n_Reading_meter, rfl, m, dm, _, rfl, hm, rfl, _, rfl, m, dm, l, sp, n, rfl, hm, ?_⟩
    have hr1 : (upd H m (.ins A.c_Meter dm (meF n sp))) r = some (.ins A.c_Reading rx (reF b m)) := by rw [upd_ne nrm]; exact hr0
    have hb1 : (upd H m (.ins A.c_Meter dm (meF n sp))) b = some (.ins C db fb) := by rw [upd_ne nbm]; exact hb
    exact ⟨_, rfl, r, _, rx, _, _, rfl, hr1, cl, T.n_Reading_box, rfl, b, db, fb, rfl, hb1, lk, _, rfl, r, _, rx, _, _, rfl, hr1, cl, T.n_Reading_meter, rfl, q⟩
/-! a reading of a leaf -/
structure ReadAt (A : Ad) (K : PySem.W.Frag) (H : Hp) (r a c m : Addr) (ch : Chain) (l s : Int) : Prop where
  rd : ∃ rx, H r = some (.ins A.c_Reading rx (reF a m))
  lf : LeafAt A K H a c ch
  mt : MeterAt A H m l s
  ra : r ≠ a
  rc : r ≠ c
  rm : r ≠ m
  ac : a ≠ c
  am : a ≠ m
  cm : c ≠ m
  ok : ch.Ok
theorem ReadAt.same {H H' : Hp} {r a c m : Addr} {ch : Chain} {l s : Int} (R : ReadAt A K H r a c m ch l s) (k : Same H H') : ReadAt A K H' r a c m ch l s := by
  obtain ⟨⟨rx, e⟩, ⟨⟨dx, e2⟩, hc⟩, ⟨dm, e3⟩, ra, rc, rm, ac, am, cm, ok⟩ := R
  exact ⟨⟨rx, k _ _ e⟩, ⟨⟨dx, k _ _ e2⟩, hc.same k⟩, ⟨dm, k _ _ e3⟩, ra, rc, rm, ac, am, cm, ok⟩
/-- another list is written -/
theorem ReadAt.put {H : Hp} {r a c m d : Addr} {ch : Chain} {l s : Int} {xs ys : List V} (R : ReadAt A K H r a c m ch l s) (hd : H d = some (.lst xs)) (_ : d ≠ c) (_ : d ≠ m) : ReadAt A K (upd H d (.lst ys)) r a c m ch l s := by
  obtain ⟨⟨rx, e⟩, ⟨⟨dx, e2⟩, hc⟩, ⟨dm, e3⟩, ra, rc, rm, ac, am, cm, ok⟩ := R
  have k : ∀ b o, H b = some o → ¬ b = d → (upd H d (.lst ys)) b = some o := fun b o z n => by rw [upd_ne n]; exact z
  have ne : ∀ {b C dx fs}, H b = some (.ins C dx fs) → b ≠ d := fun {b C dx fs} z => ne_of z hd (by intro q; cases q)
  obtain ⟨C, dc, fs, e4⟩ := hc.there
  refine ⟨⟨rx, k _ _ e (ne e)⟩, ⟨⟨dx, k _ _ e2 (ne e2)⟩, hc.kept (N := fun b => b = d) (ne e4) k fun b o z y => ?_⟩, ⟨dm, k _ _ e3 (ne e3)⟩, ra, rc, rm, ac, am, cm, ok⟩
  subst z
  rw [hd] at y
  cases y
  exact ⟨fun _ q => (by cases q), fun _ _ q => (by cases q)⟩
/-- one asking of a leaf's reading -/
def sp_part_leaf (A : Ad) (K : PySem.W.Frag) : Sp := fun vs H Q _ => ∃ (r a c m : Addr) (ch : Chain) (l s n : Int), vs = [.ref r, .int n] ∧ ReadAt A K H r a c m ch l s ∧
  ∀ v H', ReadAt A K H' r a c m (ch.then_ n) (n - ch.took n) (s + ch.took n) → (ch.ans n).At A H' v → (∀ b o, H b = some o → b ≠ c → b ≠ m → H' b = some o) → Q v H'
theorem Chain.Ok.then_ {ch : Chain} (h : ch.Ok) (n : Int) : (ch.then_ n).Ok := by
  unfold Chain.then_
  split
  · exact h
  · split
    · exact h
    · rename_i h1 _
      exact h.next (by rw [Bool.not_eq_true] at h1; exact h1)
theorem ok_part_leaf (T : CT K mg A) (D : DT K mg A) : MOk P w K mg base CX0 3 A.c_Reading "part" ["self", "most"] (sp_part_leaf A K) := by
  obtain ⟨cl, f, fd, F, M, B⟩ := ok_Reading_part (P := P) (w := w) (base := base) T D (by decide) (ok_Leaf_ask T D)
  refine ⟨cl, f, fd, F.imp fun vs H Q E h => ?_, M, B⟩
  obtain ⟨r, a, c, m, ch, l, s, n, rfl, R, k⟩ := h
  obtain ⟨⟨rx, e⟩, ⟨⟨dx, e2⟩, hc⟩, ⟨dm, e3⟩, ra, rc, rm, ac, am, cm, ok⟩ := R
  refine ⟨r, rx, a, m, dm, dx, leF c, l, s, n, rfl, e, e3, rm, am, e2, rfl, ?_⟩
  have kp : ∀ b o, H b = some o → b ≠ m → (upd H m (.ins A.c_Meter dm (meF n s))) b = some o := fun b o z hb => by rw [upd_ne hb]; exact z
  have hc1 : Chain.At A K (upd H m (.ins A.c_Meter dm (meF n s))) c ch := hc.kept (N := fun b => b = m) cm kp fun b o z y => by subst z; rw [e3] at y; exact ins_no (Option.some.inj y).symm
  refine ⟨a, c, m, ch, n, s, rfl, ⟨⟨dx, kp _ _ e2 am⟩, hc1⟩, ok, ⟨dm, upd_same⟩, ac, am, cm, fun v H' hl hm ha k2 => ?_⟩
  exact k v H' ⟨⟨rx, k2 _ _ (kp _ _ e rm) rc rm⟩, hl, hm, ra, rc, rm, ac, am, cm, ok.then_ n⟩ ha fun b o z hb hb2 => k2 b o (kp b o z hb2) hb hb2
theorem ok_took_leaf (T : CT K mg A) (D : DT K mg A) : MOk P w K mg base CX0 1 A.c_Reading "took" ["self"] (fun vs H Q _ => ∃ r a c m ch l s, vs = [.ref r] ∧ ReadAt A K H r a c m ch l s ∧ Q (.int s) H) := by
  obtain ⟨cl, f, fd, F, M, B⟩ := ok_Reading_took (P := P) (w := w) (base := base) T D
  refine ⟨cl, f, fd, F.imp fun vs H Q E h => ?_, M, B⟩
  obtain ⟨r, a, c, m, ch, l, s, rfl, ⟨⟨rx, e⟩, _, ⟨dm, e3⟩, _⟩, q⟩ := h
  exact ⟨r, rx, a, m, dm, l, s, rfl, e, e3, q⟩
theorem ok_box_of_leaf (T : CT K mg A) (D : DT K mg A) : COk P w K mg base CX0 6 "box_of" ["tree"] (sp_leaf_of A K) := by
  have G_leaf_of := ok_leaf_of (P := P) (w := w) (base := base) T D
  refine COk.by D.box_of fun f fd F => ?_
  refine F.ok sc_box_of (fun vs H Q E h => ?_) (fun cdv Ar outer s H vs Q E hr h => ?_)
  · obtain ⟨v, f, rfl, _⟩ := h
    rfl
  · obtain ⟨v, f, rfl, hf, hg, k⟩ := h
    refine ⟨_, (pss_cons (ps_set (i := 1) sc_box_of.nd rfl (Or.inl rfl) (pe_ix ix_tup (pv 0) pe_int (fun _ _ => rfl)))
    (pss_cons (ps_if (pt_cmpR op_eq (pv 1) pe_str (nomark _))
      (pss_one (ps_never)) pss_nil)
    (pss_cons (ps_if (pt_cmpR op_eq (pv 1) pe_str (nomark _))
      (pss_one (ps_never)) pss_nil)
    (pss_cons (ps_if (pt_cmpR op_eq (pv 1) pe_str (nomark _))
      (pss_one (ps_never)) pss_nil)
    (pss_one (ps_ret (pe_c G_leaf_of (hr.mono (by first | decide | omega)) (pa_cons (pv 0) pa_nil)))))))), ?_⟩
    cases f with
    | frac t b => exact ⟨_, rfl, v, _, 0, _, rfl, rfl, hf, atI_nat (j := 0) rfl, _, rfl, rfl, _, rfl, iteF ⟨_, rfl, rfl, _, rfl, iteF ⟨_, rfl, rfl, _, rfl, iteF ⟨_, rfl, v, .frac t b, rfl, hf, hg, k⟩⟩⟩⟩
    | root t s b => exact ⟨_, rfl, v, _, 0, _, rfl, rfl, hf, atI_nat (j := 0) rfl, _, rfl, rfl, _, rfl, iteF ⟨_, rfl, rfl, _, rfl, iteF ⟨_, rfl, rfl, _, rfl, iteF ⟨_, rfl, v, .root t s b, rfl, hf, hg, k⟩⟩⟩⟩
    | ruled ps ring steps =>
      obtain ⟨p, q, u, hv, h3⟩ := id hf
      exact ⟨_, rfl, v, _, 0, _, rfl, rfl, hv, atI_nat (j := 0) rfl, _, rfl, rfl, _, rfl, iteF ⟨_, rfl, rfl, _, rfl, iteF ⟨_, rfl, rfl, _, rfl, iteF ⟨_, rfl, v, .ruled ps ring steps, rfl, hf, hg, k⟩⟩⟩⟩
def sp_reader_leaf (A : Ad) (K : PySem.W.Frag) : Sp := fun vs H Q _ => ∃ (v : Addr) (f : Leaf), vs = [.ref v] ∧ f.At K H v ∧ f.Good ∧
  ∀ r a c m ch H', ReadAt A K H' r a c m ch 0 0 → f.Starts ch → Same H H' → H r = none → H a = none → H c = none → H m = none → Q (.ref r) H'
theorem ok_reader_leaf (T : CT K mg A) (TT : TB K w mg A) (D : DT K mg A) : COk P w K mg base CX0 7 "reader" ["tree"] (sp_reader_leaf A K) := by
  have G_box_of := ok_box_of_leaf (P := P) (w := w) (base := base) T D
  have I_Reading := ok_Reading_init (P := P) (w := w) (base := base) T D
  have G_at := ok_check_at_depth (P := P) (w := w) (base := base) (k := 3) T TT D (by decide) (ok_check_fraction T D) (ok_check_root T D) (ok_check_ruled T D) (ok_no D.check_four) (ok_no D.check_eight) (ok_no D.check_power)
  have G_check_tree := ok_check_tree D G_at
  refine COk.by D.reader fun f fd F => ?_
  refine F.ok sc_reader (fun vs H Q E h => ?_) (fun cdv Ar outer s H vs Q E hr h => ?_)
  · obtain ⟨v, f, rfl, _⟩ := h
    rfl
  · obtain ⟨v, f, rfl, hf, hg, k⟩ := h
    refine ⟨_, (pss_cons (ps_expr (pe_c G_check_tree (hr.mono (by first | decide | omega)) (pa_cons (pv 0) pa_nil)))
    (pss_one (ps_ret (pe_mk I_Reading (hr.mono (by first | decide | omega)) (pa_cons (pe_c G_box_of (hr.mono (by first | decide | omega)) (pa_cons (pv 0) pa_nil)) pa_nil))))), ?_⟩
    have rest : ∀ H1, Same H H1 → (tRet (tMake A.c_Reading (sp_Reading_init A) [] E0 (tCons (tCall (sp_leaf_of A K) [] E0 (tCons (tVar 0) tNil)) tNil))) { nx := fun _ H' => Q .non H', rt := Q } [some (V.ref v)] H1 := fun H1 s1 => by
      refine ⟨_, rfl, v, f, rfl, hf.same s1, hg, fun a c ch H2 hl st ok s2 na nc nac => ?_⟩
      intro x dx nx nd ne
      refine ⟨x, dx, a, rfl, upd_same, fun m H3 nm hx hm kp => ⟨rfl, ?_⟩⟩
      have s3 : Same H2 H3 := fun b o e => kp b o (by rw [upd_ne (ne_of_none e nx), upd_ne (ne_of_none e nd)]; exact e) (ne_of_none e nx)
      obtain ⟨⟨da, e2⟩, hc⟩ := id hl
      obtain ⟨C, dc, fs, e3⟩ := hc.there
      have nm2 : H2 m = none := by
        cases q : H2 m with
        | none => rfl
        | some o =>
          have hmx : m ≠ x := fun z => by rw [z, upd_same] at nm; cases nm
          have hmd : m ≠ dx := fun z => by rw [z, upd_ne ne, upd_same] at nm; cases nm
          rw [upd_ne hmx, upd_ne hmd, q] at nm
          cases nm
      have hxm : x ≠ m := fun z => by rw [← z, upd_same] at nm; cases nm
      have ss : Same H H3 := (s1.trans s2).trans s3
      exact k x a c m ch H3 ⟨⟨dx, hx⟩, ⟨⟨da, s3 _ _ e2⟩, hc.same s3⟩, hm, (ne_of_none e2 nx).symm, (ne_of_none e3 nx).symm, hxm, nac, ne_of_none e2 nm2, ne_of_none e3 nm2, ok⟩ st ss ((s1.trans s2).free nx) (s1.free na) (s1.free nc) ((s1.trans s2).free nm2)
    cases f with
    | frac t b => exact ⟨_, rfl, _, rfl, v, "fraction", [.int t, .int b], 1, rfl, by decide, hf, .inl ⟨rfl, rfl, v, t, b, 1, rfl, hf, hg.1, hg.2.1, hg.2.2, fun H' s' => rest H' s'⟩⟩
    | root t s b => exact ⟨_, rfl, _, rfl, v, "root", [.int t, .int s, .int b], 1, rfl, by decide, hf, .inr (.inl ⟨rfl, rfl, v, t, s, b, 1, rfl, hf, hg.1, hg.2.1, hg.2.2.1, hg.2.2.2.1, hg.2.2.2.2, fun H' s' => rest H' s'⟩)⟩
    | ruled ps ring steps =>
      obtain ⟨p, q, u, hv, hp, hq, hu⟩ := id hf
      exact ⟨_, rfl, _, rfl, v, "ruled", [.ref p, .ref q, .ref u], 1, rfl, by decide, hv, .inr (.inr (.inl ⟨rfl, rfl, v, p, q, u, ps, ring, steps, 1, rfl, hv, hp, hq, hu, hg, fun H' s' => rest H' s'⟩))⟩
end
/-! ### what is told, as the laws hold it against what is due -/
def Ans.vals : Ans → List V
  | .part n => [.str "part", .int n]
  | .fin => [.str "end"]
  | .waits => [.str "waits"]
theorem ints_at' {ns : List Int} {i : Nat} {y : V} (h : (ns.map V.int)[i]? = some y) : ∃ z, ns[i]? = some z ∧ y = V.int z := by
  rw [List.getElem?_map] at h
  cases e : ns[i]? with
  | none => rw [e] at h; cases h
  | some z => rw [e] at h; exact ⟨z, rfl, (Option.some.inj h).symm⟩
def Ans.data : Ans → List PyData
  | .part n => [.str "part", .int n]
  | .fin => [.str "end"]
  | .waits => [.str "waits"]
section
variable {P : Program} {w : World} {K : PySem.W.Frag} {mg : Str → Option Value} {base : Heap} {A : Ad}
theorem Ans.At.tup (T : CT K mg A) {H : Hp} {v : V} {a : Ans} (h : a.At A H v) : ∃ p, v = .ref p ∧ SqT K H p a.vals := by
  cases a with
  | part n =>
    obtain ⟨p, e, hp⟩ := h
    exact ⟨p, e, SqT.of hp⟩
  | fin => exact ⟨_, h, T.t_END H⟩
  | waits => exact ⟨_, h, T.t_WAITS H⟩
theorem Ans.shaped (a : Ans) : SeqAt.shaped (.tuple a.data) = true := by
  have h1 : PyData.strOk "part" = true := by decide +kernel
  have h2 : PyData.strOk "end" = true := by decide +kernel
  have h3 : PyData.strOk "waits" = true := by decide +kernel
  cases a with
  | part n => simp [SeqAt.shaped, Ans.data, PyData.canLay0, PyData.canLayAll0, PyData.depth, PyData.depthAll, h1]
  | fin => simp [SeqAt.shaped, Ans.data, PyData.canLay0, PyData.canLayAll0, PyData.depth, PyData.depthAll, h2]
  | waits => simp [SeqAt.shaped, Ans.data, PyData.canLay0, PyData.canLayAll0, PyData.depth, PyData.depthAll, h3]
theorem Ans.dp {H : Hp} {p : Addr} (a : Ans) (h : SqT K H p a.vals) : Dp K H (.ref p) (.tuple a.data) := by
  cases a with
  | part n => exact .tup h (.cons (.str _) (.cons (.int n) .nil))
  | fin => exact .tup h (.cons (.str _) .nil)
  | waits => exact .tup h (.cons (.str _) .nil)
theorem ans_sq {H H' : Hp} {b c m : Addr} {xs : List V} (h : SqT K H b xs) (hc : ∃ C dx fs, H c = some (.ins C dx fs)) (hm : ∃ C dx fs, H m = some (.ins C dx fs)) (k : ∀ b o, H b = some o → b ≠ c → b ≠ m → H' b = some o) : SqT K H' b xs :=
  sqT_but (N := fun z => z = c ∨ z = m) h (fun b o e n => k b o e (fun z => n (.inl z)) fun z => n (.inr z)) fun b o e z => by
    rcases e with rfl | rfl
    · obtain ⟨C, dx, fs, e⟩ := hc; rw [e] at z; exact ins_no (Option.some.inj z).symm
    · obtain ⟨C, dx, fs, e⟩ := hm; rw [e] at z; exact ins_no (Option.some.inj z).symm
/-- what a leaf's reading tells is what is due -/
def sp_law_got (A : Ad) (K : PySem.W.Frag) : Sp := fun vs H Q _ => ∃ (r a c m d : Addr) (ch : Chain) (l s n : Int), vs = [.ref r, .int n, .ref d] ∧ ReadAt A K H r a c m ch l s ∧ SqT K H d (ch.ans n).vals ∧
  ∀ H', ReadAt A K H' r a c m (ch.then_ n) (n - ch.took n) (s + ch.took n) → (∀ b o, H b = some o → b ≠ c → b ≠ m → H' b = some o) → Q (.bl true) H'
end
/-! ### boxes: what is reckoned with their numbers -/
/-- as great as a number of a box may be -/
def fits (z : Int) : Prop := z.natAbs < 2 ^ 13000
instance (z : Int) : Decidable (fits z) := inferInstanceAs (Decidable (z.natAbs < 2 ^ 13000))
theorem fits_mul {x y : Int} (h : fits x) (h' : fits y) : CMulW x y := wide_mul (a := 13000) (b := 13000) h h' (by decide) (by decide) (by decide)
theorem fits_neg {x : Int} (h : fits x) : fits (-x) := by
  unfold fits at *
  omega
theorem fits_mul' {x y : Int} (h : fits x) (h' : (y - 1).natAbs < 2 ^ 13000 ∨ fits y) : CMulW x y := by
  refine wide_mul (a := 13000) (b := 13001) h ?_ (by decide) (by decide) (by decide)
  have e : (2 : Nat) ^ 13001 = 2 ^ 13000 + 2 ^ 13000 := by rw [Nat.pow_succ]; omega
  unfold fits at h'
  have p : 0 < (2 : Nat) ^ 13000 := Nat.pow_pos (by decide)
  rw [e]
  generalize (2 : Nat) ^ 13000 = Z at *
  rcases h' with h' | h' <;> omega
/-- // where the number above is not that great -/
def CDivM (i j : Int) : Prop := j ≠ 0 ∧ fits i
theorem noPylong_top {x y : Int} (h : fits x) : Builtin.divisionGoesByPylong x y = false := by
  have hx : x.natAbs.log2 < 13000 := PySem.Flt.log2_lt_of (k := 13000) (by decide) h
  have key : (if x == 0 then 0 else x.natAbs.log2 / 30 + 1) ≤ 434 := by
    by_cases hz : (x == 0) = true
    · rw [if_pos hz]; exact Nat.zero_le _
    · rw [if_neg hz]; omega
  show (decide ((if y == 0 then 0 else y.natAbs.log2 / 30 + 1) > 300) && decide ((if x == 0 then 0 else x.natAbs.log2 / 30 + 1) > (if y == 0 then 0 else y.natAbs.log2 / 30 + 1) + 150)) = false
  generalize (if x == 0 then 0 else x.natAbs.log2 / 30 + 1) = dx at *
  generalize (if y == 0 then 0 else y.natAbs.log2 / 30 + 1) = dy at *
  by_cases c : dy > 300
  · rw [decide_eq_false (show ¬ dx > dy + 150 by omega), Bool.and_false]
  · rw [decide_eq_false c, Bool.false_and]
theorem op_fdivM {X : Cx} : OpR X (binaryOp .FloorDiv) (rI CDivM fun i j => .int (i.fdiv j)) := opI fun _ _ _ _ _ _ _ hc q =>
  PyProof.Rows.floordiv_int hc.1 q (.inl (noPylong_top hc.2))
def turnedOver (ns : List Int) (q : Int) : List Int := ns.drop (ns.length / 2) ++ List.zipWith (fun t u => t - q * u) (ns.take (ns.length / 2)) (ns.drop (ns.length / 2))
def fourCorners (ns : List Int) : List (Int × Int) := [(ns.getD 0 0, ns.getD 2 0), (ns.getD 0 0 + ns.getD 1 0, ns.getD 2 0 + ns.getD 3 0)]
def eightCorners (ns : List Int) : List (Int × Int) :=
  [(ns.getD 0 0, ns.getD 4 0), (ns.getD 0 0 + ns.getD 1 0, ns.getD 4 0 + ns.getD 5 0), (ns.getD 0 0 + ns.getD 2 0, ns.getD 4 0 + ns.getD 6 0),
    (ns.getD 0 0 + ns.getD 1 0 + ns.getD 2 0 + ns.getD 3 0, ns.getD 4 0 + ns.getD 5 0 + ns.getD 6 0 + ns.getD 7 0)]
def withFirst (ns : List Int) (q : Int) : List Int :=
  [ns.getD 0 0 * q + ns.getD 2 0, ns.getD 1 0 * q + ns.getD 3 0, ns.getD 0 0, ns.getD 1 0, ns.getD 4 0 * q + ns.getD 6 0, ns.getD 5 0 * q + ns.getD 7 0, ns.getD 4 0, ns.getD 5 0]
def withSecond (ns : List Int) (q : Int) : List Int :=
  [ns.getD 0 0 * q + ns.getD 1 0, ns.getD 0 0, ns.getD 2 0 * q + ns.getD 3 0, ns.getD 2 0, ns.getD 4 0 * q + ns.getD 5 0, ns.getD 4 0, ns.getD 6 0 * q + ns.getD 7 0, ns.getD 6 0]
def withOne (ns : List Int) (q : Int) : List Int := [ns.getD 0 0 * q + ns.getD 1 0, ns.getD 0 0, ns.getD 2 0 * q + ns.getD 3 0, ns.getD 2 0]
/-- the corners, none below nought where the first one is not -/
def flipped (cs : List (Int × Int)) : List (Int × Int) := if (cs.getD 0 (0, 0)).2 < 0 then cs.map fun c => (-c.1, -c.2) else cs
def surePart (cs : List (Int × Int)) : Option Int :=
  let ds := flipped cs
  if ds.all (fun d => decide (0 < d.2)) then
    let q := (ds.getD 0 (0, 0)).1.fdiv (ds.getD 0 (0, 0)).2
    if ds.all (fun d => decide (q * d.2 ≤ d.1) && decide (d.1 ≤ (q + 1) * d.2)) then some q else none
  else none
/-- pairs of numbers, one behind another -/
def PairsAt (K : PySem.W.Frag) (H : Hp) : List Addr → List (Int × Int) → Prop
  | [], [] => True
  | t :: ts, c :: cs => SqT K H t [.int c.1, .int c.2] ∧ PairsAt K H ts cs
  | _, _ => False
theorem PairsAt.len {K : PySem.W.Frag} {H : Hp} : ∀ {ts : List Addr} {cs : List (Int × Int)}, PairsAt K H ts cs → ts.length = cs.length
  | [], [], _ => rfl
  | _ :: ts, _ :: cs, h => by rw [List.length_cons, List.length_cons, PairsAt.len h.2]
  | [], _ :: _, h => h.elim
  | _ :: _, [], h => h.elim
theorem PairsAt.same {K : PySem.W.Frag} {H H' : Hp} (s : Same H H') : ∀ {ts : List Addr} {cs : List (Int × Int)}, PairsAt K H ts cs → PairsAt K H' ts cs
  | [], [], _ => trivial
  | _ :: ts, _ :: cs, h => ⟨sqT_same h.1 s, PairsAt.same s h.2⟩
  | [], _ :: _, h => h.elim
  | _ :: _, [], h => h.elim
theorem PairsAt.at_ {K : PySem.W.Frag} {H : Hp} : ∀ {ts : List Addr} {cs : List (Int × Int)}, PairsAt K H ts cs → ∀ {i : Nat} {x : V}, (ts.map V.ref)[i]? = some x → ∃ t c, x = .ref t ∧ cs[i]? = some c ∧ SqT K H t [.int c.1, .int c.2]
  | [], [], _, i, x, e => by simp at e
  | t :: ts, c :: cs, h, 0, x, e => ⟨t, c, (Option.some.inj e).symm, rfl, h.1⟩
  | t :: ts, c :: cs, h, i + 1, x, e => by
    obtain ⟨t2, c2, e1, e2, e3⟩ := PairsAt.at_ h.2 (i := i) (x := x) (by simpa using e)
    exact ⟨t2, c2, e1, by simpa using e2, e3⟩
  | [], _ :: _, h, _, _, _ => h.elim
  | _ :: _, [], h, _, _, _ => h.elim
theorem PairsAt.snoc {K : PySem.W.Frag} {H : Hp} {t : Addr} {c : Int × Int} (hc : SqT K H t [.int c.1, .int c.2]) : ∀ {ts : List Addr} {cs : List (Int × Int)}, PairsAt K H ts cs → PairsAt K H (ts ++ [t]) (cs ++ [c])
  | [], [], _ => ⟨hc, trivial⟩
  | _ :: ts, _ :: cs, h => ⟨h.1, PairsAt.snoc hc h.2⟩
  | [], _ :: _, h => h.elim
  | _ :: _, [], h => h.elim
section
variable {P : Program} {w : World} {K : PySem.W.Frag} {mg : Str → Option Value} {base : Heap} {A : Ad}
open RZ
/-- a comprehension over zip of two tuples of one length -/
theorem lc_zipT {K : PySem.W.Frag} {a b : Addr} {xs ys : List V} {g : TG} {tt : TT} {te : TE} {vs : List Nat} {σ : L2.St} {H1 : Hp} {D : Addr} {Qd : Hp → Prop} (hl : xs.length = ys.length) (Pv : Nat → Hp → Prop) (h0 : Pv 0 (upd H1 D (.lst []))) (hq : ∀ i H, i ≤ xs.length → Pv i H → SqT K H a xs ∧ SqT K H b ys)
    (hs : ∀ (i : Nat) (x y : V) (T : Addr) (H : Hp), xs[i]? = some x → ys[i]? = some y → Pv i H → H T = none → g (.ref T) (wipe σ vs) (upd H T (.tup [x, y])) fun σ2 H2 => wipe σ2 vs = wipe σ vs ∧ tt σ2 H2 fun b H3 =>
      if b = true then te σ2 H3 fun y H4 => ∃ acc, H4 D = some (.lst acc) ∧ acc.length < sizeLine ∧ Pv (i + 1) (upd H4 D (.lst (acc ++ [y]))) else Pv (i + 1) H3) (hd : ∀ H, Pv xs.length H → Qd H) :
    ∃ W : Nat → Nat → Hp → Prop, (∃ m, W 0 m (upd H1 D (.lst []))) ∧ ∀ i m H, W i m H →
      ((ItzT K a b).stop i H ∧ Qd H) ∨ ((ItzT K a b).go i H ∧ ∃ Nx : Hp → Prop, (∀ H', Nx H' → ∃ m', m' < m ∧ W (i + 1) m' H') ∧ ∀ x H', (ItzT K a b).yld i H x H' → g x (wipe σ vs) H' fun σ2 H2 => wipe σ2 vs = wipe σ vs ∧ tt σ2 H2 fun b H3 =>
        if b = true then te σ2 H3 fun y H4 => ∃ acc, H4 D = some (.lst acc) ∧ acc.length < sizeLine ∧ Nx (upd H4 D (.lst (acc ++ [y]))) else Nx H3) := by
  refine ⟨fun i m H => m = xs.length - i ∧ i ≤ xs.length ∧ Pv i H, ⟨xs.length, by simp, Nat.zero_le _, h0⟩, ?_⟩
  rintro i m H ⟨rfl, hi, p⟩
  obtain ⟨qx, qy⟩ := hq i H hi p
  by_cases hlt : i < xs.length
  · have hx : xs[i]? = some xs[i] := List.getElem?_eq_getElem hlt
    have hlt2 : i < ys.length := by omega
    have hy : ys[i]? = some ys[i] := List.getElem?_eq_getElem hlt2
    refine .inr ⟨⟨xs, ys, _, _, qx, qy, hx, hy⟩, Pv (i + 1), fun H' p' => ⟨xs.length - (i + 1), by omega, rfl, hlt, p'⟩, fun x H' y => ?_⟩
    obtain ⟨T, x1, y1, rfl, nT, rfl, e1, e2⟩ := y
    exact hs i x1 y1 T H (e1 xs qx) (e2 ys qy) p nT
  · have e : i = xs.length := by omega
    subst e
    exact .inl ⟨⟨xs, ys, qx, qy, .inl (Nat.le_refl _)⟩, hd H p⟩
theorem cut_takeB (xs : List V) (n : Nat) : cutV xs none (some (n : Int)) = xs.take n := by
  unfold cutV
  rw [HT.sIx_none, HT.sIx_nat, List.drop_zero, Nat.sub_zero]
  rcases Nat.le_total n xs.length with h | h
  · rw [Nat.min_eq_left h]
  · rw [Nat.min_eq_right h, List.take_of_length_le (Nat.le_refl _), List.take_of_length_le h]
theorem cut_dropB (xs : List V) (n : Nat) : cutV xs (some (n : Int)) none = xs.drop n := by
  unfold cutV
  rw [HT.sIx_none, HT.sIx_nat]
  rcases Nat.le_total n xs.length with h | h
  · rw [Nat.min_eq_left h, List.take_of_length_le (Nat.le_of_eq List.length_drop)]
  · rw [Nat.min_eq_right h, List.take_of_length_le (Nat.le_of_eq List.length_drop), List.drop_of_length_le (Nat.le_refl _), List.drop_of_length_le h]
def sp_turned_over (K : PySem.W.Frag) : Sp := fun vs H Q _ => ∃ (p : Addr) (ns : List Int) (q : Int), vs = [.ref p, .int q] ∧ SqT K H p (ns.map V.int) ∧ (∃ h, ns.length = 2 * h ∧ 0 < h ∧ h ≤ 4) ∧ (∀ z ∈ ns, fits z) ∧ fits q ∧
  ∀ r H', SqT K H' r ((turnedOver ns q).map V.int) → Same H H' → Q (.ref r) H'
theorem ok_turned_over (T : CT K mg A) (D : DT K mg A) : COk P w K mg base CX0 1 "turned_over" ["numbers", "part"] (sp_turned_over K) := by
  refine COk.by D.turned_over fun f fd F => ?_
  refine F.ok sc_turned_over (fun vs H Q E h => ?_) (fun cdv Ar outer s H vs Q E hr h => ?_)
  · obtain ⟨p, ns, q, rfl, _⟩ := h
    rfl
  · obtain ⟨p, ns, q, rfl, hp, ⟨h, hl, h0, h4⟩, hf, hq, k⟩ := h
    refine ⟨_, (pss_cons (ps_set (i := 2) sc_turned_over.nd rfl (Or.inl rfl) (pe_op op_fdiv (pe_callB call_len_seq (by rfl) T.b_len (by decide +kernel) (pa_cons (pv 0) pa_nil)) pe_int))
    (pss_cons (ps_par (i := 3) (j := 4) (by rfl) sc_turned_over.nd rfl rfl (by decide) rfl rfl (pa_cons (pe_slice sl_tupA (pv 0) po_none (po_some (pv 2))) (pa_cons (pe_slice sl_tupA (pv 0) (po_some (pv 2)) po_none) pa_nil)) (by rfl))
    (pss_cons (ps_setLc (i := 5) (own := [("top", 6), ("under", 7)]) (g := gTup K 2 (gCons (gName 6) (gCons (gName 7) gNil))) (tt := tYes) rfl sc_turned_over.nd rfl rfl (sw_true rfl rfl rfl (by decide +kernel)) (RZ.pi_zipA (by rfl) T.b_zip (pa_cons (pv 3) (pa_cons (pv 4) pa_nil))) (blkOk_by (own := [("top", 6), ("under", 7)]) (N := ["numbers", "part", "half", "above", "below", "left", "top", "under"]) (sc := defScope s_turned_over) (by decide +kernel)) (fun _ _ _ _ _ => (pg_tup rfl (pgs_cons (pg_name (i := 6) sc_turned_over.nd rfl (Or.inl rfl)) (pgs_cons (pg_name (i := 7) sc_turned_over.nd rfl (Or.inl rfl)) pgs_nil)))) (fun _ _ _ _ _ => pts_nil) (fun _ _ _ _ _ => (pe_op op_sub (pv 6) (pe_op op_mulW (pv 1) (pv 7)))))
    (pss_one (ps_ret (pe_op op_catC (pv 4) (pe_callTy call_tuple_of (by rfl) T.b_tuple (by decide +kernel) (pa_cons (pv 5) pa_nil)))))))), ?_⟩
    have e1 : (((ns.map V.int).length : Nat) : Int) / 2 = ((h : Nat) : Int) := by rw [List.length_map, hl]; omega
    have nf : ¬ (HT.sIx (ns.map V.int).length 0 none = 0 ∧ HT.sIx (ns.map V.int).length (ns.map V.int).length (some (h : Int)) = (ns.map V.int).length) := fun z => by
      have := z.2
      rw [HT.sIx_nat, List.length_map] at this
      omega
    have c1 : cutV (ns.map V.int) none (some (h : Int)) = (ns.take h).map V.int := by
      rw [cut_takeB, List.map_take]
    have c2 : cutV (ns.map V.int) (some (h : Int)) none = (ns.drop h).map V.int := by
      rw [cut_dropB, List.map_drop]
    have lt : (ns.take h).length = h := by rw [List.length_take]; omega
    have ld : (ns.drop h).length = h := by rw [List.length_drop]; omega
    have ee : turnedOver ns q = ns.drop h ++ List.zipWith (fun t u => t - q * u) (ns.take h) (ns.drop h) := by
      unfold turnedOver
      rw [show ns.length / 2 = h by omega]
    refine ⟨_, rfl, p, _, rfl, .inr hp, _, _, rfl, rfl, ⟨by decide, by decide⟩, ?_⟩
    show tSeq _ _ _ [some (V.ref p), some (V.int q), some (V.int ((((ns.map V.int).length : Nat) : Int) / 2)), none, none, none, none, none] H
    rw [e1]
    refine ⟨_, rfl, _, rfl, _, rfl, p, _, rfl, hp, fun z => absurd z nf, fun _ u nu => ?_⟩
    have s1 := same_upd (o := .tup (cutV (ns.map V.int) none (some (h : Int)))) nu
    have hu : SqT K (upd H u (.tup (cutV (ns.map V.int) none (some (h : Int))))) u ((ns.take h).map V.int) := by rw [← c1]; exact SqT.of upd_same
    generalize upd H u (.tup (cutV (ns.map V.int) none (some (h : Int)))) = H1 at s1 hu ⊢
    have hp1 := sqT_same hp s1
    refine ⟨_, rfl, _, rfl, _, rfl, p, _, rfl, hp1, fun z => absurd z (not_whole h0 (by rw [List.length_map]; omega)), fun _ v nv => ?_⟩
    have s2 := same_upd (o := .tup (cutV (ns.map V.int) (some (h : Int)) none)) nv
    have hv : SqT K (upd H1 v (.tup (cutV (ns.map V.int) (some (h : Int)) none))) v ((ns.drop h).map V.int) := by rw [← c2]; exact SqT.of upd_same
    generalize upd H1 v (.tup (cutV (ns.map V.int) (some (h : Int)) none)) = H2 at s2 hv ⊢
    have hu2 := sqT_same hu s2
    refine ⟨_, _, rfl, ?_⟩
    refine ⟨_, rfl, _, rfl, u, v, _, _, rfl, .inr ⟨hu2, hv, fun D0 nD => lc_zipT (by rw [List.length_map, List.length_map, lt, ld]) (fun i H' => Same H2 H' ∧ H' D0 = some (.lst (((List.zipWith (fun t u => t - q * u) (ns.take h) (ns.drop h)).take i).map V.int))) ⟨same_upd nD, upd_same⟩ (fun i H' _ z => ⟨sqT_same hu2 z.1, sqT_same hv z.1⟩) ?_ ?_⟩⟩
    · rintro i x y T' H' hx hy ⟨s3, hD⟩ nT
      rw [List.getElem?_map] at hx hy
      cases ex : (ns.take h)[i]? with
      | none => rw [ex] at hx; cases hx
      | some t =>
        cases ey : (ns.drop h)[i]? with
        | none => rw [ey] at hy; cases hy
        | some b =>
          rw [ex] at hx
          rw [ey] at hy
          cases hx
          cases hy
          have hb : fits b := hf b (List.mem_of_mem_drop (List.mem_of_getElem? ey))
          have s4 := same_upd (o := .tup [V.int t, V.int b]) nT
          refine ⟨T', _, rfl, SqT.of upd_same, rfl, _, _, rfl, _, _, rfl, rfl, rfl, ?_⟩
          refine ⟨_, rfl, _, rfl, _, rfl, _, _, rfl, rfl, fits_mul hq hb, _, _, rfl, rfl, ?_⟩
          have hi : i < h := by
            have := (List.getElem?_eq_some_iff.mp ex).1
            omega
          refine ⟨_, s4 _ _ hD, ?_, ?_, ?_⟩
          · rw [List.length_map, List.length_take]
            exact Nat.lt_of_le_of_lt (Nat.min_le_left _ _) (Nat.lt_of_lt_of_le (show i < 4 by omega) (by decide))
          · intro c o z
            rw [upd_ne (ne_of_none z nD)]
            exact s4 _ _ (s3 _ _ z)
          · rw [upd_same, List.take_add_one, List.getElem?_zipWith, ex, ey]
            simp
    · rintro H3 ⟨s3, hD⟩
      rw [List.length_map, lt, List.take_of_length_le (by rw [List.length_zipWith]; omega)] at hD
      have hv3 := sqT_same hv s3
      refine ⟨_, rfl, _, rfl, D0, _, rfl, .inl ⟨SqL.of hD, fun l nl => ?_⟩⟩
      have s4 := same_upd (o := .tup ((List.zipWith (fun t u => t - q * u) (ns.take h) (ns.drop h)).map V.int)) nl
      refine ⟨v, l, _, _, rfl, rfl, sqT_same hv3 s4, SqT.of upd_same, ?_, fun c H' s5 hc => ?_⟩
      · rw [List.length_map, List.length_map, List.length_zipWith, lt, ld]
        exact Nat.le_trans (show h + min h h ≤ 8 by omega) (by decide)
      · refine k c H' ?_ ((((s1.trans s2).trans s3).trans s4).trans s5)
        rw [ee, List.map_append]
        exact hc
end
/-! ### boxes: corners, parts taken, the sure part -/
section
variable {P : Program} {w : World} {K : PySem.W.Frag} {mg : Str → Option Value} {base : Heap} {A : Ad}
theorem fits_mul1 {x y : Int} (h : fits x) (h' : fits y) : CMulW (x + 1) y := by
  refine wide_mul (a := 13001) (b := 13000) ?_ h' (by decide) (by decide) (by decide)
  have e : (2 : Nat) ^ 13001 = 2 ^ 13000 + 2 ^ 13000 := by rw [Nat.pow_succ]; omega
  unfold fits at h
  have p : 0 < (2 : Nat) ^ 13000 := Nat.pow_pos (by decide)
  rw [e]
  generalize (2 : Nat) ^ 13000 = Z at *
  omega
theorem sqL_same {H H' : Hp} {a : Addr} {xs : List V} (h : SqL K H a xs) (k : Same H H') : SqL K H' a xs := by
  rcases h with (h | ⟨o, h⟩) | h
  · exact .inl (.inl (k _ _ h))
  · exact .inl (.inr ⟨o, k _ _ h⟩)
  · exact .inr h
theorem sqT_lst {H : Hp} {a d : Addr} {xs ys : List V} {o : HO} (h : SqT K H a xs) (hd : H d = some (.lst ys)) : SqT K (upd H d o) a xs :=
  sqT_but (N := fun c => c = d) h (fun c u e n => by rw [upd_ne n]; exact e) fun c u e z => by
    subst e
    rw [hd] at z
    cases z
    exact ⟨fun _ q => (by cases q), fun _ _ q => (by cases q)⟩
theorem PairsAt.lst {H : Hp} {d : Addr} {ys : List V} {o : HO} (hd : H d = some (.lst ys)) : ∀ {ts : List Addr} {cs : List (Int × Int)}, PairsAt K H ts cs → PairsAt K (upd H d o) ts cs
  | [], [], _ => trivial
  | _ :: ts, _ :: cs, h => ⟨sqT_lst h.1 hd, PairsAt.lst hd h.2⟩
  | [], _ :: _, h => h.elim
  | _ :: _, [], h => h.elim
/-- the corners' list -/
def CornersAt (K : PySem.W.Frag) (H : Hp) (l : Addr) (cs : List (Int × Int)) : Prop := ∃ ts : List Addr, SqL K H l (ts.map V.ref) ∧ PairsAt K H ts cs
def sp_four_corners (K : PySem.W.Frag) : Sp := fun vs H Q _ => ∃ (p : Addr) (ns : List Int), vs = [.ref p] ∧ SqT K H p (ns.map V.int) ∧ ns.length = 4 ∧
  ∀ l H', CornersAt K H' l (fourCorners ns) → Same H H' → Q (.ref l) H'
theorem ok_four_corners (T : CT K mg A) (D : DT K mg A) : COk P w K mg base CX0 1 "four_corners" ["numbers"] (sp_four_corners K) := by
  refine COk.by D.four_corners fun f fd F => ?_
  refine F.ok sc_four_corners (fun vs H Q E h => ?_) (fun cdv Ar outer s H vs Q E hr h => ?_)
  · obtain ⟨p, ns, rfl, _⟩ := h
    rfl
  · obtain ⟨p, ns, rfl, hp, hl, k⟩ := h
    refine ⟨_, (pss_cons (ps_asg (pv 0) (pg_tup rfl (pgs_cons (pg_name (i := 1) sc_four_corners.nd rfl (Or.inl rfl)) (pgs_cons (pg_name (i := 2) sc_four_corners.nd rfl (Or.inl rfl)) (pgs_cons (pg_name (i := 3) sc_four_corners.nd rfl (Or.inl rfl)) (pgs_cons (pg_name (i := 4) sc_four_corners.nd rfl (Or.inl rfl)) pgs_nil))))))
    (pss_one (ps_ret (pe_lst (pa_cons (pe_tup (pa_cons (pv 1) (pa_cons (pv 3) pa_nil))) (pa_cons (pe_tup (pa_cons (pe_op op_add (pv 1) (pv 2)) (pa_cons (pe_op op_add (pv 3) (pv 4)) pa_nil))) pa_nil)))))), ?_⟩
    match ns, hl with
    | [a, b, c, d], _ =>
      refine ⟨_, rfl, p, _, rfl, hp, rfl, _, _, rfl, _, _, rfl, _, _, rfl, _, _, rfl, rfl, ?_⟩
      refine ⟨_, rfl, _, rfl, (by show 2 ≤ sizeLine; decide), fun q nq => ?_⟩
      have s1 := same_upd (o := .tup [V.int a, .int c]) nq
      refine ⟨_, rfl, _, rfl, _, _, rfl, rfl, _, rfl, _, rfl, _, _, rfl, rfl, (by show 2 ≤ sizeLine; decide), fun r nr => ?_⟩
      have s2 := same_upd (o := .tup [V.int (a + b), .int (c + d)]) nr
      refine ⟨(by show 2 ≤ sizeLine; decide), fun l nl => ?_⟩
      have s3 := same_upd (o := .lst [V.ref q, .ref r]) nl
      exact k l _ ⟨[q, r], SqL.of upd_same, sqT_same (SqT.of upd_same) (s2.trans s3), sqT_same (SqT.of upd_same) s3, trivial⟩ ((s1.trans s2).trans s3)
def sp_eight_corners (K : PySem.W.Frag) : Sp := fun vs H Q _ => ∃ (p : Addr) (ns : List Int), vs = [.ref p] ∧ SqT K H p (ns.map V.int) ∧ ns.length = 8 ∧
  ∀ l H', CornersAt K H' l (eightCorners ns) → Same H H' → Q (.ref l) H'
theorem ok_eight_corners (T : CT K mg A) (D : DT K mg A) : COk P w K mg base CX0 1 "eight_corners" ["numbers"] (sp_eight_corners K) := by
  refine COk.by D.eight_corners fun f fd F => ?_
  refine F.ok sc_eight_corners (fun vs H Q E h => ?_) (fun cdv Ar outer s H vs Q E hr h => ?_)
  · obtain ⟨p, ns, rfl, _⟩ := h
    rfl
  · obtain ⟨p, ns, rfl, hp, hl, k⟩ := h
    refine ⟨_, (pss_cons (ps_asg (pv 0) (pg_tup rfl (pgs_cons (pg_name (i := 1) sc_eight_corners.nd rfl (Or.inl rfl)) (pgs_cons (pg_name (i := 2) sc_eight_corners.nd rfl (Or.inl rfl)) (pgs_cons (pg_name (i := 3) sc_eight_corners.nd rfl (Or.inl rfl)) (pgs_cons (pg_name (i := 4) sc_eight_corners.nd rfl (Or.inl rfl)) (pgs_cons (pg_name (i := 5) sc_eight_corners.nd rfl (Or.inl rfl)) (pgs_cons (pg_name (i := 6) sc_eight_corners.nd rfl (Or.inl rfl)) (pgs_cons (pg_name (i := 7) sc_eight_corners.nd rfl (Or.inl rfl)) (pgs_cons (pg_name (i := 8) sc_eight_corners.nd rfl (Or.inl rfl)) pgs_nil))))))))))
    (pss_one (ps_ret (pe_lst (pa_cons (pe_tup (pa_cons (pv 1) (pa_cons (pv 5) pa_nil))) (pa_cons (pe_tup (pa_cons (pe_op op_add (pv 1) (pv 2)) (pa_cons (pe_op op_add (pv 5) (pv 6)) pa_nil))) (pa_cons (pe_tup (pa_cons (pe_op op_add (pv 1) (pv 3)) (pa_cons (pe_op op_add (pv 5) (pv 7)) pa_nil))) (pa_cons (pe_tup (pa_cons (pe_op op_add (pe_op op_add (pe_op op_add (pv 1) (pv 2)) (pv 3)) (pv 4)) (pa_cons (pe_op op_add (pe_op op_add (pe_op op_add (pv 5) (pv 6)) (pv 7)) (pv 8)) pa_nil))) pa_nil)))))))), ?_⟩
    match ns, hl with
    | [a, b, c, d, e, f, g, h], _ =>
      refine ⟨_, rfl, p, _, rfl, hp, rfl, _, _, rfl, _, _, rfl, _, _, rfl, _, _, rfl, _, _, rfl, _, _, rfl, _, _, rfl, _, _, rfl, rfl, ?_⟩
      refine ⟨_, rfl, _, rfl, (by show 2 ≤ sizeLine; decide), fun q nq => ?_⟩
      have s1 := same_upd (o := .tup [V.int a, .int e]) nq
      refine ⟨_, rfl, _, rfl, _, _, rfl, rfl, _, rfl, _, rfl, _, _, rfl, rfl, (by show 2 ≤ sizeLine; decide), fun r nr => ?_⟩
      have s2 := same_upd (o := .tup [V.int (a + b), .int (e + f)]) nr
      refine ⟨_, rfl, _, rfl, _, _, rfl, rfl, _, rfl, _, rfl, _, _, rfl, rfl, (by show 2 ≤ sizeLine; decide), fun t nt => ?_⟩
      have s3 := same_upd (o := .tup [V.int (a + c), .int (e + g)]) nt
      refine ⟨_, rfl, _, rfl, _, _, rfl, rfl, _, rfl, _, _, rfl, rfl, _, rfl, _, _, rfl, rfl, _, rfl, _, rfl, _, _, rfl, rfl, _, rfl, _, _, rfl, rfl, _, rfl, _, _, rfl, rfl, (by show 2 ≤ sizeLine; decide), fun u nu => ?_⟩
      have s4 := same_upd (o := .tup [V.int (a + b + c + d), .int (e + f + g + h)]) nu
      refine ⟨(by show 4 ≤ sizeLine; decide), fun l nl => ?_⟩
      have s5 := same_upd (o := .lst [V.ref q, .ref r, .ref t, .ref u]) nl
      exact k l _ ⟨[q, r, t, u], SqL.of upd_same, sqT_same (SqT.of upd_same) (((s2.trans s3).trans s4).trans s5), sqT_same (SqT.of upd_same) ((s3.trans s4).trans s5), sqT_same (SqT.of upd_same) (s4.trans s5), sqT_same (SqT.of upd_same) s5, trivial⟩ ((((s1.trans s2).trans s3).trans s4).trans s5)
def sp_with (K : PySem.W.Frag) (g : List Int → Int → List Int) : Sp := fun vs H Q _ => ∃ (p : Addr) (ns : List Int) (q : Int), vs = [.ref p, .int q] ∧ SqT K H p (ns.map V.int) ∧ ns.length = 8 ∧ (∀ z ∈ ns, fits z) ∧ fits q ∧
  ∀ r H', SqT K H' r ((g ns q).map V.int) → Same H H' → Q (.ref r) H'
theorem ok_with_first_part (T : CT K mg A) (D : DT K mg A) : COk P w K mg base CX0 1 "with_first_part" ["numbers", "part"] (sp_with K withFirst) := by
  refine COk.by D.with_first_part fun f fd F => ?_
  refine F.ok sc_with_first_part (fun vs H Q E h => ?_) (fun cdv Ar outer s H vs Q E hr h => ?_)
  · obtain ⟨p, ns, q, rfl, _⟩ := h
    rfl
  · obtain ⟨p, ns, q, rfl, hp, hl, hf, hq, k⟩ := h
    refine ⟨_, (pss_cons (ps_asg (pv 0) (pg_tup rfl (pgs_cons (pg_name (i := 2) sc_with_first_part.nd rfl (Or.inl rfl)) (pgs_cons (pg_name (i := 3) sc_with_first_part.nd rfl (Or.inl rfl)) (pgs_cons (pg_name (i := 4) sc_with_first_part.nd rfl (Or.inl rfl)) (pgs_cons (pg_name (i := 5) sc_with_first_part.nd rfl (Or.inl rfl)) (pgs_cons (pg_name (i := 6) sc_with_first_part.nd rfl (Or.inl rfl)) (pgs_cons (pg_name (i := 7) sc_with_first_part.nd rfl (Or.inl rfl)) (pgs_cons (pg_name (i := 8) sc_with_first_part.nd rfl (Or.inl rfl)) (pgs_cons (pg_name (i := 9) sc_with_first_part.nd rfl (Or.inl rfl)) pgs_nil))))))))))
    (pss_one (ps_ret (pe_tup (pa_cons (pe_op op_add (pe_op op_mulW (pv 2) (pv 1)) (pv 4)) (pa_cons (pe_op op_add (pe_op op_mulW (pv 3) (pv 1)) (pv 5)) (pa_cons (pv 2) (pa_cons (pv 3) (pa_cons (pe_op op_add (pe_op op_mulW (pv 6) (pv 1)) (pv 8)) (pa_cons (pe_op op_add (pe_op op_mulW (pv 7) (pv 1)) (pv 9)) (pa_cons (pv 6) (pa_cons (pv 7) pa_nil)))))))))))), ?_⟩
    match ns, hl with
    | [a, b, c, d, e, f, g, h], _ =>
      have ma : CMulW a q := fits_mul (hf a (by simp)) hq
      have mb : CMulW b q := fits_mul (hf b (by simp)) hq
      have me : CMulW e q := fits_mul (hf e (by simp)) hq
      have mf : CMulW f q := fits_mul (hf f (by simp)) hq
      refine ⟨_, rfl, p, _, rfl, hp, rfl, _, _, rfl, _, _, rfl, _, _, rfl, _, _, rfl, _, _, rfl, _, _, rfl, _, _, rfl, _, _, rfl, rfl, ?_⟩
      refine ⟨_, rfl, _, rfl, _, _, rfl, rfl, ma, _, rfl, _, _, rfl, rfl, _, rfl, _, rfl, _, _, rfl, rfl, mb, _, rfl, _, _, rfl, rfl, _, rfl, _, rfl, _, rfl, _, rfl, _, _, rfl, rfl, me, _, rfl, _, _, rfl, rfl, _, rfl, _, rfl, _, _, rfl, rfl, mf, _, rfl, _, _, rfl, rfl, _, rfl, _, rfl, (by show 8 ≤ sizeLine; decide), fun r nr => ?_⟩
      exact k r _ (SqT.of upd_same) (same_upd nr)
theorem ok_with_second_part (T : CT K mg A) (D : DT K mg A) : COk P w K mg base CX0 1 "with_second_part" ["numbers", "part"] (sp_with K withSecond) := by
  refine COk.by D.with_second_part fun f fd F => ?_
  refine F.ok sc_with_second_part (fun vs H Q E h => ?_) (fun cdv Ar outer s H vs Q E hr h => ?_)
  · obtain ⟨p, ns, q, rfl, _⟩ := h
    rfl
  · obtain ⟨p, ns, q, rfl, hp, hl, hf, hq, k⟩ := h
    refine ⟨_, (pss_cons (ps_asg (pv 0) (pg_tup rfl (pgs_cons (pg_name (i := 2) sc_with_second_part.nd rfl (Or.inl rfl)) (pgs_cons (pg_name (i := 3) sc_with_second_part.nd rfl (Or.inl rfl)) (pgs_cons (pg_name (i := 4) sc_with_second_part.nd rfl (Or.inl rfl)) (pgs_cons (pg_name (i := 5) sc_with_second_part.nd rfl (Or.inl rfl)) (pgs_cons (pg_name (i := 6) sc_with_second_part.nd rfl (Or.inl rfl)) (pgs_cons (pg_name (i := 7) sc_with_second_part.nd rfl (Or.inl rfl)) (pgs_cons (pg_name (i := 8) sc_with_second_part.nd rfl (Or.inl rfl)) (pgs_cons (pg_name (i := 9) sc_with_second_part.nd rfl (Or.inl rfl)) pgs_nil))))))))))
    (pss_one (ps_ret (pe_tup (pa_cons (pe_op op_add (pe_op op_mulW (pv 2) (pv 1)) (pv 3)) (pa_cons (pv 2) (pa_cons (pe_op op_add (pe_op op_mulW (pv 4) (pv 1)) (pv 5)) (pa_cons (pv 4) (pa_cons (pe_op op_add (pe_op op_mulW (pv 6) (pv 1)) (pv 7)) (pa_cons (pv 6) (pa_cons (pe_op op_add (pe_op op_mulW (pv 8) (pv 1)) (pv 9)) (pa_cons (pv 8) pa_nil)))))))))))), ?_⟩
    match ns, hl with
    | [a, b, c, d, e, f, g, h], _ =>
      have ma : CMulW a q := fits_mul (hf a (by simp)) hq
      have mc : CMulW c q := fits_mul (hf c (by simp)) hq
      have me : CMulW e q := fits_mul (hf e (by simp)) hq
      have mg' : CMulW g q := fits_mul (hf g (by simp)) hq
      refine ⟨_, rfl, p, _, rfl, hp, rfl, _, _, rfl, _, _, rfl, _, _, rfl, _, _, rfl, _, _, rfl, _, _, rfl, _, _, rfl, _, _, rfl, rfl, ?_⟩
      refine ⟨_, rfl, _, rfl, _, _, rfl, rfl, ma, _, rfl, _, _, rfl, rfl, _, rfl, _, rfl, _, rfl, _, _, rfl, rfl, mc, _, rfl, _, _, rfl, rfl, _, rfl, _, rfl, _, rfl, _, _, rfl, rfl, me, _, rfl, _, _, rfl, rfl, _, rfl, _, rfl, _, rfl, _, _, rfl, rfl, mg', _, rfl, _, _, rfl, rfl, _, rfl, (by show 8 ≤ sizeLine; decide), fun r nr => ?_⟩
      exact k r _ (SqT.of upd_same) (same_upd nr)
def sp_sure_part (K : PySem.W.Frag) : Sp := fun vs H Q _ => ∃ (l : Addr) (cs : List (Int × Int)), vs = [.ref l] ∧ CornersAt K H l cs ∧ 0 < cs.length ∧ cs.length ≤ 4 ∧ (∀ c ∈ cs, fits c.1 ∧ fits c.2) ∧
  ∀ H', Same H H' → Q (match surePart cs with | some q => .int q | none => .non) H'
theorem ok_sure_part (T : CT K mg A) (D : DT K mg A) : COk P w K mg base CX0 1 "sure_part" ["corners"] (sp_sure_part K) := by
  refine COk.by D.sure_part fun f fd F => ?_
  refine F.ok sc_sure_part (fun vs H Q E h => ?_) (fun cdv Ar outer s H vs Q E hr h => ?_)
  · obtain ⟨l, cs, rfl, _⟩ := h
    rfl
  · obtain ⟨l, cs, rfl, ⟨ts, hl, hts⟩, h0, h4, hf, k⟩ := h
    refine ⟨_, (C8.pss_cut (ps_if (pt_cmpR op_lt (pe_ix ix_tup (pe_ix ix_list (pv 0) pe_int (fun _ _ => rfl)) pe_int (fun _ _ => rfl)) pe_int (nomark _))
      (pss_one (ps_setLc (i := 0) (own := [("top", 1), ("below", 2)]) (g := gTup K 2 (gCons (gName 1) (gCons (gName 2) gNil))) (tt := tYes) rfl sc_sure_part.nd rfl rfl (sw_true rfl rfl rfl (by decide +kernel)) (pi_list (pv 0)) (blkOk_by (own := [("top", 1), ("below", 2)]) (N := ["corners", "top", "below", "part"]) (sc := defScope s_sure_part) (by decide +kernel)) (fun _ _ _ _ _ => (pg_tup rfl (pgs_cons (pg_name (i := 1) sc_sure_part.nd rfl (Or.inl rfl)) (pgs_cons (pg_name (i := 2) sc_sure_part.nd rfl (Or.inl rfl)) pgs_nil)))) (fun _ _ _ _ _ => pts_nil) (fun _ _ _ _ _ => (pe_tup (pa_cons (pe_un un_neg (pv 1)) (pa_cons (pe_un un_neg (pv 2)) pa_nil)))))) pss_nil)
    (pss_cons (ps_if (pt_cmpR op_le (pe_callB (cr_min rfl) (by rfl) T.b_min (by decide +kernel) (pa_cons (pe_lc (own := [("top", 1), ("below", 2)]) (g := gTup K 2 (gCons (gName 1) (gCons (gName 2) gNil))) (tt := tYes) rfl sc_sure_part.nd (pi_list (pv 0)) (blkOk_by (own := [("top", 1), ("below", 2)]) (N := ["corners", "top", "below", "part"]) (sc := defScope s_sure_part) (by decide +kernel)) (fun _ _ _ _ _ => (pg_tup rfl (pgs_cons (pg_name (i := 1) sc_sure_part.nd rfl (Or.inl rfl)) (pgs_cons (pg_name (i := 2) sc_sure_part.nd rfl (Or.inl rfl)) pgs_nil)))) (fun _ _ _ _ _ => pts_nil) (fun _ _ _ _ _ => (pv 2))) pa_nil)) pe_int (nomark _))
      (pss_one (ps_ret pe_non)) pss_nil)
    (pss_cons (ps_set (i := 3) sc_sure_part.nd rfl (Or.inl rfl) (pe_op op_fdivM (pe_ix ix_tup (pe_ix ix_list (pv 0) pe_int (fun _ _ => rfl)) pe_int (fun _ _ => rfl)) (pe_ix ix_tup (pe_ix ix_list (pv 0) pe_int (fun _ _ => rfl)) pe_int (fun _ _ => rfl))))
    (pss_cons (ps_for PassesOwn.never rfl (pi_list (pv 0)) (pg_tup rfl (pgs_cons (pg_name (i := 1) sc_sure_part.nd rfl (Or.inl rfl)) (pgs_cons (pg_name (i := 2) sc_sure_part.nd rfl (Or.inl rfl)) pgs_nil)))
      (pss_one (ps_if (pt_not (pt_chain op_le op_le (pe_op op_mulW (pv 3) (pv 2)) (pv 1) (pe_op op_mulW (pe_op op_add (pv 3) pe_int) (pv 2))))
      (pss_one (ps_ret pe_non)) pss_nil)))
    (pss_one (ps_ret (pv 3))))))), ?_⟩
    match cs, ts, hts, h0 with
    | c0 :: cr, t0 :: tr, hts, _ =>
    have ht0 := hts.1
    refine ⟨fun σ H' => ∃ l', σ = [some (V.ref l'), none, none, none] ∧ CornersAt K H' l' (flipped (c0 :: cr)) ∧ Same H H', ?_, ?_⟩
    · refine ⟨_, rfl, l, _, 0, _, rfl, rfl, hl, atI_nat (j := 0) rfl, t0, _, 1, _, rfl, rfl, ht0, atI_nat (j := 1) rfl, _, _, rfl, rfl, _, rfl, ite2 (fun c => ?_) (fun c => ?_)⟩
      · have cn : c0.2 < 0 := of_decide_eq_true c
        refine ⟨_, rfl, l, rfl, ⟨_, hl⟩, fun D0 nD => lc_list (K := K) (a := l) (xs := (t0 :: tr).map V.ref) (fun i H' => Same H H' ∧ ∃ us : List Addr, H' D0 = some (.lst (us.map V.ref)) ∧ us.length ≤ i ∧ PairsAt K H' us (((c0 :: cr).take i).map fun d => (-d.1, -d.2)))
          ⟨same_upd nD, [], upd_same, Nat.zero_le _, trivial⟩ (fun i H' _ z => sqL_same hl z.1) ?_ ?_⟩
        · rintro i x H' hx ⟨s1, us, hD, hu, hus⟩
          obtain ⟨t, d, rfl, ed, htd⟩ := hts.at_ hx
          refine ⟨t, _, rfl, sqT_same htd s1, rfl, _, _, rfl, _, _, rfl, rfl, rfl, ?_⟩
          refine ⟨_, rfl, _, rfl, _, rfl, _, rfl, (by show 2 ≤ sizeLine; decide), fun q nq => ?_⟩
          have s2 := same_upd (o := .tup [V.int (-d.1), .int (-d.2)]) nq
          have hi : i < 4 := by
            have := (List.getElem?_eq_some_iff.mp ed).1
            omega
          refine ⟨_, s2 _ _ hD, ?_, ?_, us ++ [q], ?_, ?_, ?_⟩
          · rw [List.length_map]
            exact Nat.lt_of_le_of_lt hu (Nat.lt_of_lt_of_le hi (by decide))
          · intro b o z
            rw [upd_ne (ne_of_none z nD)]
            exact s2 _ _ (s1 _ _ z)
          · rw [upd_same, List.map_append]
            rfl
          · rw [List.length_append]
            exact Nat.succ_le_succ hu
          · rw [List.take_add_one, ed, List.map_append]
            exact PairsAt.snoc (c := (-d.1, -d.2)) (sqT_lst (SqT.of upd_same) (s2 _ _ hD)) (PairsAt.lst (s2 _ _ hD) (hus.same s2))
        · rintro H' ⟨s1, us, hD, hu, hus⟩
          refine ⟨D0, rfl, ⟨us, SqL.of hD, ?_⟩, s1⟩
          rw [List.length_map, hts.len, List.take_of_length_le (Nat.le_refl _)] at hus
          unfold flipped
          rw [List.getD_cons_zero, if_pos cn]
          exact hus
      · refine ⟨l, rfl, ⟨_, hl, ?_⟩, Same.refl H⟩
        unfold flipped
        rw [List.getD_cons_zero, if_neg (fun z => c (decide_eq_true z))]
        exact hts
    · rintro σ H1 ⟨l1, rfl, ⟨us, hl1, hus⟩, s1⟩
      have hfd : ∀ d ∈ flipped (c0 :: cr), fits d.1 ∧ fits d.2 := by
        unfold flipped
        split
        · intro d hd
          obtain ⟨c, hc, rfl⟩ := List.mem_map.mp hd
          exact ⟨fits_neg (hf c hc).1, fits_neg (hf c hc).2⟩
        · exact hf
      have hlen : (flipped (c0 :: cr)).length = (c0 :: cr).length := by
        unfold flipped
        split
        · rw [List.length_map]
        · rfl
      have eS : surePart (c0 :: cr) = (if (flipped (c0 :: cr)).all (fun d => decide (0 < d.2)) then
        (if (flipped (c0 :: cr)).all (fun d => decide (((flipped (c0 :: cr)).getD 0 (0, 0)).1.fdiv ((flipped (c0 :: cr)).getD 0 (0, 0)).2 * d.2 ≤ d.1) && decide (d.1 ≤ (((flipped (c0 :: cr)).getD 0 (0, 0)).1.fdiv ((flipped (c0 :: cr)).getD 0 (0, 0)).2 + 1) * d.2)) then some (((flipped (c0 :: cr)).getD 0 (0, 0)).1.fdiv ((flipped (c0 :: cr)).getD 0 (0, 0)).2) else none) else none) := rfl
      rw [eS] at k
      clear eS
      have hle : (flipped (c0 :: cr)).length ≤ 4 := by rw [hlen]; exact h4
      have hge : 0 < (flipped (c0 :: cr)).length := by rw [hlen]; exact Nat.succ_pos _
      generalize flipped (c0 :: cr) = ds at *
      match ds, us, hus, hge with
      | d0 :: dr, u0 :: ur, hus, _ =>
      have hu0 := hus.1
      refine ⟨_, rfl, l1, rfl, ⟨_, hl1⟩, fun D1 nD1 => lc_list (K := K) (a := l1) (xs := (u0 :: ur).map V.ref) (fun i H' => Same H1 H' ∧ H' D1 = some (.lst ((((d0 :: dr).take i).map fun d => d.2).map V.int)))
          ⟨same_upd nD1, upd_same⟩ (fun i H' _ z => sqL_same hl1 z.1) ?_ ?_⟩
      · rintro i x H' hx ⟨s2, hD⟩
        obtain ⟨t, d, rfl, ed, htd⟩ := hus.at_ hx
        refine ⟨t, _, rfl, sqT_same htd s2, rfl, _, _, rfl, _, _, rfl, rfl, rfl, ?_⟩
        have hi : i < 4 := by
          have := (List.getElem?_eq_some_iff.mp ed).1
          omega
        refine ⟨_, rfl, _, hD, ?_, ?_, ?_⟩
        · rw [List.length_map, List.length_map, List.length_take]
          exact Nat.lt_of_le_of_lt (Nat.min_le_left _ _) (Nat.lt_of_lt_of_le hi (by decide))
        · intro b o z
          rw [upd_ne (ne_of_none z nD1)]
          exact s2 _ _ z
        · rw [upd_same, List.take_add_one, ed]
          simp
      · rintro H2 ⟨s2, hD⟩
        rw [List.length_map, hus.len, List.take_of_length_le (Nat.le_refl _)] at hD
        refine ⟨D1, _, rfl, SqL.of hD, (by rw [List.length_map]; exact Nat.succ_pos _), fun m hm hmin => ⟨_, _, rfl, rfl, _, rfl, ite2 (fun c => ?_) (fun c => ?_)⟩⟩
        · have mn : m ≤ 0 := of_decide_eq_true c
          have := k H2 (s1.trans s2)
          rw [if_neg ?_] at this
          · exact this
          · intro z
            obtain ⟨d, hd, rfl⟩ := List.mem_map.mp hm
            have := of_decide_eq_true (List.all_eq_true.mp z d hd)
            omega
        · have mp : 0 < m := by
            have : ¬ m ≤ 0 := fun z => c (decide_eq_true z)
            omega
          have pos : ∀ d ∈ d0 :: dr, 0 < d.2 := fun d hd => by
            have := hmin d.2 (List.mem_map.mpr ⟨d, hd, rfl⟩)
            omega
          have k1 := k
          rw [if_pos (List.all_eq_true.mpr fun d hd => decide_eq_true (pos d hd)), List.getD_cons_zero] at k1
          have p0 := pos d0 List.mem_cons_self
          have f0 := hfd d0 List.mem_cons_self
          have hu02 := sqT_same hu0 s2
          have hl12 := sqL_same hl1 s2
          have fq : fits (d0.1.fdiv d0.2) := Nat.lt_of_le_of_lt (fdiv_abs (by omega)) f0.1
          refine ⟨_, rfl, l1, _, 0, _, rfl, rfl, hl12, atI_nat (j := 0) rfl, u0, _, 0, _, rfl, rfl, hu02, atI_nat (j := 0) rfl, _, rfl, l1, _, 0, _, rfl, rfl, hl12, atI_nat (j := 0) rfl, u0, _, 1, _, rfl, rfl, hu02, atI_nat (j := 1) rfl, _, _, rfl, rfl, ⟨by omega, f0.1⟩, ?_⟩
          obtain ⟨q, hq⟩ : ∃ q, d0.1.fdiv d0.2 = q := ⟨_, rfl⟩
          rw [hq] at fq
          simp only [hq] at k1
          refine ⟨_, rfl, l1, rfl, ⟨_, hl12⟩, for_list (K := K) (a := l1) (xs := (u0 :: ur).map V.ref) (fun i σ H' => ∃ v1 v2, σ = [some (V.ref l1), v1, v2, some (V.int q)] ∧ H' = H2 ∧ ((d0 :: dr).take i).all (fun d => decide (q * d.2 ≤ d.1) && decide (d.1 ≤ (q + 1) * d.2)) = true)
            ⟨none, none, (by rw [← hq]; rfl), rfl, rfl⟩ (fun i σ H' _ ⟨_, _, _, e, _⟩ => by rw [e]; exact hl12) ?_ ?_⟩
          · rintro i x σ H' hx ⟨v1, v2, rfl, rfl, hall⟩
            obtain ⟨t, d, rfl, ed, htd⟩ := hus.at_ hx
            have hd : d ∈ d0 :: dr := List.mem_of_getElem? ed
            have fd' := hfd d hd
            have done : ¬ (decide (q * d.2 ≤ d.1) && decide (d.1 ≤ (q + 1) * d.2)) = true → Q .non H' := fun z => by
              have := k1 H' (s1.trans s2)
              rw [if_neg (fun y => z (List.all_eq_true.mp y d hd))] at this
              exact this
            refine ⟨t, _, rfl, sqT_same htd s2, rfl, _, _, rfl, _, _, rfl, rfl, ?_⟩
            refine ⟨_, rfl, _, rfl, _, _, rfl, rfl, fits_mul fq fd'.2, _, rfl, _, _, rfl, rfl, _, rfl, ite2 (fun c1 => ?_) (fun c1 => ?_)⟩
            · refine ⟨_, rfl, _, _, rfl, rfl, _, rfl, _, _, rfl, rfl, fits_mul1 fq fd'.2, _, _, rfl, rfl, _, rfl, ite2 (fun c2 => ?_) (fun c2 => ?_)⟩
              · refine done fun z => ?_
                rw [Bool.and_eq_true] at z
                rw [z.2] at c2
                cases c2
              · refine ⟨_, _, rfl, rfl, ?_⟩
                rw [List.take_add_one, ed, List.all_append, hall]
                have : decide (d.1 ≤ (q + 1) * d.2) = true := by
                  cases e : decide (d.1 ≤ (q + 1) * d.2) with
                  | true => rfl
                  | false => exact absurd (by rw [e]; rfl) c2
                simp only [Option.toList_some, List.all_cons, List.all_nil, Bool.and_true, c1, this]
            · refine ⟨_, rfl, iteT ?_⟩
              refine done fun z => ?_
              rw [Bool.and_eq_true] at z
              exact c1 z.1
          · rintro σ H' ⟨v1, v2, rfl, rfl, hall⟩
            rw [List.length_map, hus.len, List.take_of_length_le (Nat.le_refl _)] at hall
            refine ⟨_, rfl, ?_⟩
            have := k1 H' (s1.trans s2)
            rw [if_pos hall] at this
            exact this
end
/-! ### boxes: fractions, fours, eights -/
def fbF (t b : Int) (told : Bool) : Flds := [("top", .int t), ("below", .int b), ("told", .bl told)]
def foF (p x : Addr) (st told : Bool) (r : V) : Flds := [("numbers", .ref p), ("tree", .ref x), ("started", .bl st), ("told", .bl told), ("rest", r)]
def eiF (p q l : Addr) (told : Bool) (r : V) : Flds := [("numbers", .ref p), ("trees", .ref q), ("taken", .ref l), ("told", .bl told), ("rest", r)]
section
variable {P : Program} {w : World} {K : PySem.W.Frag} {mg : Str → Option Value} {base : Heap} {A : Ad}
theorem ok_FractionBox_init (T : CT K mg A) (D : DT K mg A) : IOk P w K mg base 1 "FractionBox" A.c_FractionBox ["self", "top", "below", "told"] (sp_ini A.c_FractionBox 3 fun us => [("top", us.getD 0 .non), ("below", us.getD 1 .non), ("told", us.getD 2 .non)]) := by
  refine IOk.of T.g_FractionBox D.FractionBox_init fun f fd F => ?_
  refine F.ok sc_FractionBox_init (fun vs H Q E h => ?_) (fun cdv Ar outer s H vs Q E hr h => ?_)
  · obtain ⟨p, dx, us, rfl, hl, _⟩ := h
    show us.length + 1 = 4
    omega
  · obtain ⟨p, dx, us, rfl, hl, hp, k⟩ := h
    match us, hl with
    | [u0, u1, u2], _ =>
      refine ⟨_, (pss_cons (ps_fld (pv 0) (pv 1) rfl)
    (pss_cons (ps_fld (pv 0) (pv 2) rfl)
    (pss_one (ps_fld (pv 0) (pv 3) rfl)))), ?_⟩
      refine ⟨_, rfl, _, rfl, p, _, dx, [], rfl, hp, T.cl_FractionBox, T.n_FractionBox_top, (by show 0 < 1000; decide), ?_⟩
      refine ⟨_, rfl, _, rfl, p, _, dx, _, rfl, upd_same, T.cl_FractionBox, T.n_FractionBox_below, (by show 1 < 1000; decide), ?_⟩
      refine ⟨_, rfl, _, rfl, p, _, dx, _, rfl, upd_same, T.cl_FractionBox, T.n_FractionBox_told, (by show 2 < 1000; decide), ?_⟩
      refine cast (congrArg (Q V.non) ?_) k
      rw [upd_upd, upd_upd]
      rfl
def sp_nothing_left (A : Ad) : Sp := fun vs H Q E => ∃ (a dx : Addr) (t b : Int) (told : Bool), vs = [.ref a] ∧ H a = some (.ins A.c_FractionBox dx (fbF t b told)) ∧
  (told = true → Q (.ref A.k_END) H) ∧ (told = false → E (.ref A.c_NoValue) none H)
theorem ok_nothing_left (T : CT K mg A) (D : DT K mg A) : MOk P w K mg base (L2.CX P w) 1 A.c_FractionBox "nothing_left" ["self"] (sp_nothing_left A) := by
  refine MOk.of T.cl_FractionBox D.FractionBox_nothing_left fun f fd F => ?_
  refine F.okX sc_FractionBox_nothing_left (fun vs H Q E h => ?_) (fun cdv Ar outer s H vs Q E hr h => ?_)
  · obtain ⟨a, dx, t, b, told, rfl, _⟩ := h
    rfl
  · obtain ⟨a, dx, t, b, told, rfl, ha, k1, k2⟩ := h
    refine ⟨_, (pss_cons (ps_if (pt_val (pe_fld (pv 0) rfl))
      (pss_one (ps_ret (pe_glob (v := .ref A.k_END) (by rfl) T.g_END rfl))) pss_nil)
    (pss_one (ps_raise rfl (takes_of rfl rfl rfl rfl) (pmk_own PySem.F.excBase_ValueError T.x_NoValue.x T.x_NoValue.g T.x_NoValue.k (raises_own T.x_NoValue.b T.x_NoValue.t) rfl)))), ?_⟩
    refine ⟨_, rfl, a, _, dx, _, _, rfl, ha, T.cl_FractionBox, T.n_FractionBox_told, rfl, ?_⟩
    cases told with
    | true => exact ⟨true, rfl, k1 rfl⟩
    | false => exact ⟨false, rfl, k2 rfl⟩
/-- a fraction box, asked: its parts cost nothing -/
def sp_fb (A : Ad) (K : PySem.W.Frag) : Sp := fun vs H Q E => ∃ (a dx : Addr) (m : V) (t b : Int) (told : Bool), vs = [.ref a, m] ∧ H a = some (.ins A.c_FractionBox dx (fbF t b told)) ∧ fits t ∧ fits b ∧
  (b = 0 → told = true → Q (.ref A.k_END) H) ∧ (b = 0 → told = false → E (.ref A.c_NoValue) none H) ∧
  (b ≠ 0 → ∀ r H', H' r = some (.tup [.str "part", .int (t.fdiv b)]) → H' a = some (.ins A.c_FractionBox dx (fbF b (t - t.fdiv b * b) true)) → (∀ c o, H c = some o → c ≠ a → H' c = some o) → Q (.ref r) H')
theorem ok_FractionBox_ask (T : CT K mg A) (D : DT K mg A) : MOk P w K mg base (L2.CX P w) 2 A.c_FractionBox "ask" ["self", "meter"] (sp_fb A K) := by
  have M_nothing := ok_nothing_left (P := P) (w := w) (base := base) T D
  have G_turned_over := ok_turned_over (P := P) (w := w) (base := base) T D
  refine MOk.of T.cl_FractionBox D.FractionBox_ask fun f fd F => ?_
  refine F.okX sc_FractionBox_ask (fun vs H Q E h => ?_) (fun cdv Ar outer s H vs Q E hr h => ?_)
  · obtain ⟨a, dx, m, t, b, told, rfl, _⟩ := h
    rfl
  · obtain ⟨a, dx, m, t, b, told, rfl, ha, ft, fb, k1, k2, k3⟩ := h
    refine ⟨_, (pss_cons (ps_if (pt_cmpR op_eq (pe_fld (pv 0) rfl) pe_int (nomark _))
      (pss_one (ps_ret (pe_mX0 M_nothing (hr.mono (by first | decide | omega)) (passes_tk (takes_of rfl rfl rfl rfl)) (pv 0)))) pss_nil)
    (pss_cons (ps_set (i := 2) sc_FractionBox_ask.nd rfl (Or.inl rfl) (pe_op op_fdivM (pe_fld (pv 0) rfl) (pe_fld (pv 0) rfl)))
    (pss_cons (ps_asg (pe_c G_turned_over (hr.mono (by first | decide | omega)) (pa_cons (pe_tup (pa_cons (pe_fld (pv 0) rfl) (pa_cons (pe_fld (pv 0) rfl) pa_nil))) (pa_cons (pv 2) pa_nil))) (pg_tup rfl (pgs_cons (pg_fld (pv 0)) (pgs_cons (pg_fld (pv 0)) pgs_nil))))
    (pss_cons (ps_fld (pv 0) pe_bl rfl)
    (pss_one (ps_ret (pe_tup (pa_cons pe_str (pa_cons (pv 2) pa_nil))))))))), ?_⟩
    have cl := T.cl_FractionBox
    refine ⟨_, rfl, a, _, dx, _, _, rfl, ha, cl, T.n_FractionBox_below, rfl, rfl, _, rfl, ite2 (fun c => ?_) (fun c => ?_)⟩
    · have hb : b = 0 := V.int.inj (of_decide_eq_true c)
      exact ⟨_, rfl, a, dx, _, rfl, ha, rfl, a, dx, t, b, told, rfl, ha, k1 hb, k2 hb⟩
    · have hb : b ≠ 0 := fun z => c (decide_eq_true (by rw [z]))
      refine ⟨_, rfl, a, _, dx, _, _, rfl, ha, cl, T.n_FractionBox_top, rfl, _, rfl, a, _, dx, _, _, rfl, ha, cl, T.n_FractionBox_below, rfl, _, _, rfl, rfl, ⟨hb, ft⟩, ?_⟩
      have fq : fits (t.fdiv b) := Nat.lt_of_le_of_lt (fdiv_abs hb) ft
      refine ⟨_, rfl, a, _, dx, _, _, rfl, ha, cl, T.n_FractionBox_top, rfl, _, rfl, a, _, dx, _, _, rfl, ha, cl, T.n_FractionBox_below, rfl, (by show 2 ≤ sizeLine; decide), fun q nq => ?_⟩
      have s1 := same_upd (o := .tup [V.int t, .int b]) nq
      refine ⟨_, rfl, q, [t, b], t.fdiv b, rfl, SqT.of upd_same, ⟨1, rfl, by decide, by decide⟩, (by intro z hz; simp at hz; rcases hz with rfl | rfl <;> assumption), fq, fun r H1 hr1 s2 => ?_⟩
      have ss := s1.trans s2
      have et : turnedOver [t, b] (t.fdiv b) = [b, t - t.fdiv b * b] := by simp [turnedOver]
      rw [et] at hr1
      refine ⟨r, _, rfl, hr1, rfl, _, _, rfl, _, rfl, a, _, dx, _, rfl, ss _ _ ha, cl, T.n_FractionBox_top, (by show 3 < 1000; decide), ?_⟩
      refine ⟨_, _, rfl, _, rfl, a, _, dx, _, rfl, upd_same, cl, T.n_FractionBox_below, (by show 3 < 1000; decide), rfl, ?_⟩
      refine ⟨_, rfl, a, _, dx, _, rfl, upd_same, cl, T.n_FractionBox_told, (by show 3 < 1000; decide), ?_⟩
      refine ⟨_, rfl, (by show 2 ≤ sizeLine; decide), fun u nu => ?_⟩
      have s3 := same_upd (o := .tup [V.str "part", .int (t.fdiv b)]) nu
      rw [upd_upd, upd_upd] at *
      exact k3 hb u _ upd_same (s3 _ _ upd_same) fun c o e hc => s3 _ _ (by rw [upd_ne hc]; exact ss _ _ e)
theorem ok_FourBox_init (T : CT K mg A) (D : DT K mg A) : IOk P w K mg base 1 "FourBox" A.c_FourBox ["self", "numbers", "tree", "started", "told"] (sp_ini A.c_FourBox 4 fun us => [("numbers", us.getD 0 .non), ("tree", us.getD 1 .non), ("started", us.getD 2 .non), ("told", us.getD 3 .non), ("rest", .non)]) := by
  refine IOk.of T.g_FourBox D.FourBox_init fun f fd F => ?_
  refine F.ok sc_FourBox_init (fun vs H Q E h => ?_) (fun cdv Ar outer s H vs Q E hr h => ?_)
  · obtain ⟨p, dx, us, rfl, hl, _⟩ := h
    show us.length + 1 = 5
    omega
  · obtain ⟨p, dx, us, rfl, hl, hp, k⟩ := h
    match us, hl with
    | [u0, u1, u2, u3], _ =>
      refine ⟨_, (pss_cons (ps_fld (pv 0) (pv 1) rfl)
    (pss_cons (ps_fld (pv 0) (pv 2) rfl)
    (pss_cons (ps_fld (pv 0) (pv 3) rfl)
    (pss_cons (ps_fld (pv 0) (pv 4) rfl)
    (pss_one (ps_fld (pv 0) pe_non rfl)))))), ?_⟩
      refine ⟨_, rfl, _, rfl, p, _, dx, [], rfl, hp, T.cl_FourBox, T.n_FourBox_numbers, (by show 0 < 1000; decide), ?_⟩
      refine ⟨_, rfl, _, rfl, p, _, dx, _, rfl, upd_same, T.cl_FourBox, T.n_FourBox_tree, (by show 1 < 1000; decide), ?_⟩
      refine ⟨_, rfl, _, rfl, p, _, dx, _, rfl, upd_same, T.cl_FourBox, T.n_FourBox_started, (by show 2 < 1000; decide), ?_⟩
      refine ⟨_, rfl, _, rfl, p, _, dx, _, rfl, upd_same, T.cl_FourBox, T.n_FourBox_told, (by show 3 < 1000; decide), ?_⟩
      refine ⟨_, rfl, p, _, dx, _, rfl, upd_same, T.cl_FourBox, T.n_FourBox_rest, (by show 4 < 1000; decide), ?_⟩
      refine cast (congrArg (Q V.non) ?_) k
      rw [upd_upd, upd_upd, upd_upd, upd_upd]
      rfl
/-- a part is told: the four's numbers are turned over -/
def sp_four_tell (A : Ad) (K : PySem.W.Frag) : Sp := fun vs H Q _ => ∃ (a dx p x : Addr) (ns : List Int) (st told : Bool) (q : Int), vs = [.ref a, .int q] ∧ H a = some (.ins A.c_FourBox dx (foF p x st told .non)) ∧ SqT K H p (ns.map V.int) ∧ ns.length = 4 ∧ (∀ z ∈ ns, fits z) ∧ fits q ∧
  ∀ r p' H', H' r = some (.tup [.str "part", .int q]) → H' a = some (.ins A.c_FourBox dx (foF p' x st true .non)) → SqT K H' p' ((turnedOver ns q).map V.int) → (∀ c o, H c = some o → c ≠ a → H' c = some o) → Q (.ref r) H'
theorem ok_FourBox_tell (T : CT K mg A) (D : DT K mg A) : MOk P w K mg base CX0 2 A.c_FourBox "tell" ["self", "part"] (sp_four_tell A K) := by
  have G_turned_over := ok_turned_over (P := P) (w := w) (base := base) T D
  refine MOk.of T.cl_FourBox D.FourBox_tell fun f fd F => ?_
  refine F.ok sc_FourBox_tell (fun vs H Q E h => ?_) (fun cdv Ar outer s H vs Q E hr h => ?_)
  · obtain ⟨a, dx, p, x, ns, st, told, q, rfl, _⟩ := h
    rfl
  · obtain ⟨a, dx, p, x, ns, st, told, q, rfl, ha, hp, hl, hf, fq, k⟩ := h
    refine ⟨_, (pss_cons (ps_fld (pv 0) (pe_c G_turned_over (hr.mono (by first | decide | omega)) (pa_cons (pe_fld (pv 0) rfl) (pa_cons (pv 1) pa_nil))) rfl)
    (pss_cons (ps_fld (pv 0) pe_bl rfl)
    (pss_one (ps_ret (pe_tup (pa_cons pe_str (pa_cons (pv 1) pa_nil))))))), ?_⟩
    have cl := T.cl_FourBox
    refine ⟨_, rfl, a, _, dx, _, _, rfl, ha, cl, T.n_FourBox_numbers, rfl, _, rfl, p, ns, q, rfl, hp, ⟨2, hl, by decide, by decide⟩, hf, fq, fun p' H1 hp1 s1 => ?_⟩
    refine ⟨_, rfl, a, _, dx, _, rfl, s1 _ _ ha, cl, T.n_FourBox_numbers, (by show 5 < 1000; decide), ?_⟩
    refine ⟨_, rfl, a, _, dx, _, rfl, upd_same, cl, T.n_FourBox_told, (by show 5 < 1000; decide), ?_⟩
    refine ⟨_, rfl, (by show 2 ≤ sizeLine; decide), fun u nu => ?_⟩
    have s3 := same_upd (o := .tup [V.str "part", .int q]) nu
    rw [upd_upd] at *
    exact k u p' _ upd_same (s3 _ _ upd_same) (sqT_same (sqT_ins hp1 (s1 _ _ ha)) s3) fun c o e hc => s3 _ _ (by rw [upd_ne hc]; exact s1 _ _ e)
def Ans.isFin : Ans → Bool
  | .fin => true
  | _ => false
def Ans.isWaits : Ans → Bool
  | .waits => true
  | _ => false
theorem eqv_fin (a : Ans) : PyData.eqv (.tuple a.data) (.tuple Ans.fin.data) = a.isFin := by
  cases a with
  | part n => rfl
  | fin => rfl
  | waits => rfl
theorem eqv_waits (a : Ans) : PyData.eqv (.tuple a.data) (.tuple Ans.waits.data) = a.isWaits := by
  cases a with
  | part n => rfl
  | fin => rfl
  | waits => rfl
/-- what a four's tree told is taken -/
def sp_four_take (A : Ad) (K : PySem.W.Frag) : Sp := fun vs H Q _ => ∃ (a dx p x : Addr) (ns : List Int) (st told : Bool) (v : V) (an : Ans), vs = [.ref a, v] ∧ an.At A H v ∧ H a = some (.ins A.c_FourBox dx (foF p x st told .non)) ∧ SqT K H p (ns.map V.int) ∧ ns.length = 4 ∧ (∀ z ∈ ns, fits z) ∧
  match an with
  | .waits => False
  | .fin => ∀ r dr H', H' a = some (.ins A.c_FourBox dx (foF p x st told (.ref r))) → H' r = some (.ins A.c_FractionBox dr (fbF (ns.getD 0 0) (ns.getD 2 0) told)) → H r = none → (∀ c o, H c = some o → c ≠ a → H' c = some o) → Q .non H'
  | .part q => fits q ∧ ∀ p' H', H' a = some (.ins A.c_FourBox dx (foF p' x true told .non)) → SqT K H' p' ((withOne ns q).map V.int) → (∀ c o, H c = some o → c ≠ a → H' c = some o) → Q .non H'
theorem ok_FourBox_take (T : CT K mg A) (D : DT K mg A) : MOk P w K mg base CX0 3 A.c_FourBox "take" ["self", "answer"] (sp_four_take A K) := by
  have I_FractionBox := ok_FractionBox_init (P := P) (w := w) (base := base) T D
  refine MOk.of T.cl_FourBox D.FourBox_take fun f fd F => ?_
  refine F.ok sc_FourBox_take (fun vs H Q E h => ?_) (fun cdv Ar outer s H vs Q E hr h => ?_)
  · obtain ⟨a, dx, p, x, ns, st, told, v, an, rfl, _⟩ := h
    rfl
  · obtain ⟨a, dx, p, x, ns, st, told, v, an, rfl, hv, ha, hp, hl, hf, k⟩ := h
    refine ⟨_, (pss_cons (ps_asg (pe_fld (pv 0) rfl) (pg_tup rfl (pgs_cons (pg_name (i := 2) sc_FourBox_take.nd rfl (Or.inl rfl)) (pgs_cons (pg_name (i := 3) sc_FourBox_take.nd rfl (Or.inl rfl)) (pgs_cons (pg_name (i := 4) sc_FourBox_take.nd rfl (Or.inl rfl)) (pgs_cons (pg_name (i := 5) sc_FourBox_take.nd rfl (Or.inl rfl)) pgs_nil))))))
    (pss_cons (ps_if (pt_cmpR (op_eqD hr.units) (pv 1) (pe_glob (v := .ref A.k_END) (by rfl) T.g_END rfl) (nomark _))
      (pss_cons (ps_fld (pv 0) (pe_mk I_FractionBox (hr.mono (by first | decide | omega)) (pa_cons (pv 2) (pa_cons (pv 4) (pa_cons (pe_fld (pv 0) rfl) pa_nil)))) rfl)
    (pss_one ps_retN)) pss_nil)
    (pss_cons (ps_set (i := 6) sc_FourBox_take.nd rfl (Or.inl rfl) (pe_ix ix_tup (pv 1) pe_int (fun _ _ => rfl)))
    (pss_cons (ps_fld (pv 0) (pe_tup (pa_cons (pe_op op_add (pe_op op_mulW (pv 2) (pv 6)) (pv 3)) (pa_cons (pv 2) (pa_cons (pe_op op_add (pe_op op_mulW (pv 4) (pv 6)) (pv 5)) (pa_cons (pv 4) pa_nil))))) rfl)
    (pss_one (ps_fld (pv 0) pe_bl rfl)))))), ?_⟩
    have cl := T.cl_FourBox
    match ns, hl with
    | [n0, n1, n2, n3], _ =>
      refine ⟨_, rfl, a, _, dx, _, _, rfl, ha, cl, T.n_FourBox_numbers, rfl, p, _, rfl, hp, rfl, _, _, rfl, _, _, rfl, _, _, rfl, _, _, rfl, rfl, ?_⟩
      obtain ⟨pv', rfl, hpv⟩ := hv.tup T
      have hE : SqT K H A.k_END Ans.fin.vals := T.t_END H
      refine ⟨_, rfl, _, _, an.dp hpv, Ans.fin.dp hE, an.shaped, Ans.fin.shaped, _, rfl, ?_⟩
      rw [eqv_fin]
      cases an with
      | waits => exact k.elim
      | fin =>
        refine iteT ⟨_, rfl, _, rfl, _, rfl, a, _, dx, _, _, rfl, ha, cl, T.n_FourBox_told, rfl, fun r dr nr nd ne => ?_⟩
        refine ⟨r, dr, _, rfl, rfl, upd_same, rfl, ?_⟩
        rw [upd_upd]
        have s1 := made_same (o := .own r) (o' := .ins A.c_FractionBox dr [("top", .int n0), ("below", .int n2), ("told", .bl told)]) nr nd
        refine ⟨_, rfl, a, _, dx, _, rfl, s1 _ _ ha, cl, T.n_FourBox_rest, (by show 5 < 1000; decide), ?_⟩
        exact k r dr _ upd_same (by rw [upd_ne (ne_of_none ha nr).symm]; exact upd_same) nr fun c o e hc => by rw [upd_ne hc]; exact s1 _ _ e
      | part q =>
        obtain ⟨fq, k⟩ := k
        refine iteF ⟨_, rfl, pv', _, 1, _, rfl, rfl, hpv, atI_nat (j := 1) rfl, ?_⟩
        refine ⟨_, rfl, _, rfl, _, _, rfl, rfl, fits_mul (hf n0 (by simp)) fq, _, rfl, _, _, rfl, rfl, _, rfl, _, rfl, _, rfl, _, _, rfl, rfl, fits_mul (hf n2 (by simp)) fq, _, rfl, _, _, rfl, rfl, _, rfl, (by show 4 ≤ sizeLine; decide), fun p' np => ?_⟩
        have s1 := same_upd (o := .tup [V.int (n0 * q + n1), .int n0, .int (n2 * q + n3), .int n2]) np
        refine ⟨_, rfl, a, _, dx, _, rfl, s1 _ _ ha, cl, T.n_FourBox_numbers, (by show 5 < 1000; decide), ?_⟩
        refine ⟨_, rfl, a, _, dx, _, rfl, upd_same, cl, T.n_FourBox_started, (by show 5 < 1000; decide), ?_⟩
        rw [upd_upd]
        exact k p' _ upd_same (sqT_ins (SqT.of upd_same) (s1 _ _ ha)) fun c o e hc => by rw [upd_ne hc]; exact s1 _ _ e
theorem ne_of_nd {i j : Int} (c : (!decide (V.int i = V.int j)) = true) : i ≠ j := fun z => by
  rw [z, decide_eq_true rfl] at c
  cases c
theorem eq_of_nd {i j : Int} (c : ¬ (!decide (V.int i = V.int j)) = true) : i = j := by
  rcases Decidable.em (i = j) with z | z
  · exact z
  · exact absurd (by rw [decide_eq_false (fun q => z (V.int.inj q))]; rfl) c
/-- the box of one tree alone -/
def OneIs (A : Ad) (p x : Addr) (ns : List Int) (told : Bool) (C : Addr) (fs : Flds) : Prop :=
  (ns.getD 0 0 * ns.getD 3 0 ≠ ns.getD 1 0 * ns.getD 2 0 ∧ C = A.c_FourBox ∧ fs = foF p x true told .non) ∨
  (ns.getD 0 0 * ns.getD 3 0 = ns.getD 1 0 * ns.getD 2 0 ∧ ns.getD 2 0 ≠ 0 ∧ C = A.c_FractionBox ∧ fs = fbF (ns.getD 0 0) (ns.getD 2 0) told) ∨
  (ns.getD 0 0 * ns.getD 3 0 = ns.getD 1 0 * ns.getD 2 0 ∧ ns.getD 2 0 = 0 ∧ C = A.c_FractionBox ∧ fs = fbF (ns.getD 1 0) (ns.getD 3 0) told)
def sp_box_of_one (A : Ad) (K : PySem.W.Frag) : Sp := fun vs H Q _ => ∃ (p x : Addr) (ns : List Int) (told : Bool), vs = [.ref p, .ref x, .bl told] ∧ SqT K H p (ns.map V.int) ∧ ns.length = 4 ∧ (∀ z ∈ ns, fits z) ∧
  ∀ r dr C fs H', H r = none → Same H H' → H' r = some (.ins C dr fs) → OneIs A p x ns told C fs → Q (.ref r) H'
theorem ok_box_of_one (T : CT K mg A) (D : DT K mg A) : COk P w K mg base CX0 3 "box_of_one" ["numbers", "tree", "told"] (sp_box_of_one A K) := by
  have I_FractionBox := ok_FractionBox_init (P := P) (w := w) (base := base) T D
  have I_FourBox := ok_FourBox_init (P := P) (w := w) (base := base) T D
  refine COk.by D.box_of_one fun f fd F => ?_
  refine F.ok sc_box_of_one (fun vs H Q E h => ?_) (fun cdv Ar outer s H vs Q E hr h => ?_)
  · obtain ⟨p, x, ns, told, rfl, _⟩ := h
    rfl
  · obtain ⟨p, x, ns, told, rfl, hp, hl, hf, k⟩ := h
    refine ⟨_, (pss_cons (ps_asg (pv 0) (pg_tup rfl (pgs_cons (pg_name (i := 3) sc_box_of_one.nd rfl (Or.inl rfl)) (pgs_cons (pg_name (i := 4) sc_box_of_one.nd rfl (Or.inl rfl)) (pgs_cons (pg_name (i := 5) sc_box_of_one.nd rfl (Or.inl rfl)) (pgs_cons (pg_name (i := 6) sc_box_of_one.nd rfl (Or.inl rfl)) pgs_nil))))))
    (pss_cons (ps_if (pt_cmpR op_ne (pe_op op_mulW (pv 3) (pv 6)) (pe_op op_mulW (pv 4) (pv 5)) (nomark _))
      (pss_one (ps_ret (pe_mk I_FourBox (hr.mono (by first | decide | omega)) (pa_cons (pv 0) (pa_cons (pv 1) (pa_cons pe_bl (pa_cons (pv 2) pa_nil))))))) pss_nil)
    (pss_cons (ps_if (pt_cmpR op_ne (pv 5) pe_int (nomark _))
      (pss_one (ps_ret (pe_mk I_FractionBox (hr.mono (by first | decide | omega)) (pa_cons (pv 3) (pa_cons (pv 5) (pa_cons (pv 2) pa_nil)))))) pss_nil)
    (pss_one (ps_ret (pe_mk I_FractionBox (hr.mono (by first | decide | omega)) (pa_cons (pv 4) (pa_cons (pv 6) (pa_cons (pv 2) pa_nil))))))))), ?_⟩
    match ns, hl with
    | [n0, n1, n2, n3], _ =>
      refine ⟨_, rfl, p, _, rfl, hp, rfl, _, _, rfl, _, _, rfl, _, _, rfl, _, _, rfl, rfl, ?_⟩
      refine ⟨_, rfl, _, rfl, _, _, rfl, rfl, fits_mul (hf n0 (by simp)) (hf n3 (by simp)), _, rfl, _, rfl, _, _, rfl, rfl, fits_mul (hf n1 (by simp)) (hf n2 (by simp)), ?_⟩
      refine ⟨rfl, _, rfl, ite2 (fun c => ?_) (fun c => ?_)⟩
      · have hc : n0 * n3 ≠ n1 * n2 := ne_of_nd c
        refine ⟨_, rfl, _, rfl, _, rfl, fun r dr nr nd ne => ?_⟩
        refine ⟨r, dr, _, rfl, rfl, upd_same, rfl, ?_⟩
        rw [upd_upd]
        exact k r dr _ _ _ nr (made_same nr nd) upd_same (.inl ⟨hc, rfl, rfl⟩)
      · have hc : n0 * n3 = n1 * n2 := eq_of_nd c
        refine ⟨_, rfl, rfl, _, rfl, ite2 (fun c2 => ?_) (fun c2 => ?_)⟩
        · have hc2 : n2 ≠ 0 := ne_of_nd c2
          refine ⟨_, rfl, _, rfl, _, rfl, fun r dr nr nd ne => ?_⟩
          refine ⟨r, dr, _, rfl, rfl, upd_same, rfl, ?_⟩
          rw [upd_upd]
          exact k r dr _ _ _ nr (made_same nr nd) upd_same (.inr (.inl ⟨hc, hc2, rfl, rfl⟩))
        · have hc2 : n2 = 0 := eq_of_nd c2
          refine ⟨_, rfl, _, rfl, _, rfl, fun r dr nr nd ne => ?_⟩
          refine ⟨r, dr, _, rfl, rfl, upd_same, rfl, ?_⟩
          rw [upd_upd]
          exact k r dr _ _ _ nr (made_same nr nd) upd_same (.inr (.inr ⟨hc, hc2, rfl, rfl⟩))
end
/-! ### boxes: eights -/
section
variable {P : Program} {w : World} {K : PySem.W.Frag} {mg : Str → Option Value} {base : Heap} {A : Ad}
open PySem.Spec PyProof.Rows in
/-- xs[i], to be written again -/
theorem get_listP {X : Cx} : PGet X (fun o i H Q => ∃ (p : Addr) (xs : List V) (j : Nat) (v : V), o = .ref p ∧ i = .int j ∧ SqL X.K H p xs ∧ xs[j]? = some v ∧ Q v H) := by
  intro pins s σ H o i ov iv Q I ro ri h
  obtain ⟨p, xs, j, z, rfl, rfl, hq, he, q⟩ := h
  cases ro
  obtain ⟨t, rfl⟩ := ri
  obtain ⟨its, r, pl, hz⟩ := I.list hq
  obtain ⟨w, ew, rw'⟩ := r.get he
  have hl := r.length
  have hn := line63
  have hj : j < xs.length := (List.getElem?_eq_some_iff.mp he).1
  exact wpAny_getItem_list (x := w) pl.isList (by omega) (by omega) (by simpa using ew) ⟨z, H, I, rw', q⟩
def sp_EightBox_init (A : Ad) : Sp := fun vs H Q _ => ∃ (a dx p x y : Addr), vs = [.ref a, .ref p, .ref x, .ref y] ∧ H a = some (.ins A.c_EightBox dx []) ∧
  ∀ q l H', H q = none → H l = none → l ≠ q → H' a = some (.ins A.c_EightBox dx (eiF p q l false .non)) → H' q = some (.tup [.ref x, .ref y]) → H' l = some (.lst [.int 0, .int 0]) → (∀ c o, H c = some o → c ≠ a → H' c = some o) → Q .non H'
theorem ok_EightBox_init (T : CT K mg A) (D : DT K mg A) : IOk P w K mg base 1 "EightBox" A.c_EightBox ["self", "numbers", "one", "other"] (sp_EightBox_init A) := by
  refine IOk.of T.g_EightBox D.EightBox_init fun f fd F => ?_
  refine F.ok sc_EightBox_init (fun vs H Q E h => ?_) (fun cdv Ar outer s H vs Q E hr h => ?_)
  · obtain ⟨a, dx, p, x, y, rfl, _⟩ := h
    rfl
  · obtain ⟨a, dx, p, x, y, rfl, ha, k⟩ := h
    have cl := T.cl_EightBox
    refine ⟨_, (pss_cons (ps_fld (pv 0) (pv 1) rfl)
    (pss_cons (ps_fld (pv 0) (pe_tup (pa_cons (pv 2) (pa_cons (pv 3) pa_nil))) rfl)
    (pss_cons (ps_fld (pv 0) (pe_lst (pa_cons pe_int (pa_cons pe_int pa_nil))) rfl)
    (pss_cons (ps_fld (pv 0) pe_bl rfl)
    (pss_one (ps_fld (pv 0) pe_non rfl)))))), ?_⟩
    refine ⟨_, rfl, _, rfl, a, _, dx, [], rfl, ha, cl, T.n_EightBox_numbers, (by show 0 < 1000; decide), ?_⟩
    refine ⟨_, rfl, _, rfl, (by show 2 ≤ sizeLine; decide), fun q nq => ?_⟩
    have h1 : (upd H a (.ins A.c_EightBox dx (putF "numbers" (.ref p) []))) a = some (.ins A.c_EightBox dx [("numbers", .ref p)]) := upd_same
    have s1 := same_upd (o := .tup [V.ref x, .ref y]) nq
    have naq : a ≠ q := ne_of_none h1 nq
    refine ⟨_, rfl, a, _, dx, _, rfl, s1 _ _ h1, cl, T.n_EightBox_trees, (by show 1 < 1000; decide), ?_⟩
    refine ⟨(by show 2 ≤ sizeLine; decide), fun l nl => ?_⟩
    rw [upd_ne naq.symm] at nq
    have nal : a ≠ l := ne_of_none upd_same nl
    have nlq : l ≠ q := fun z => by rw [z, upd_ne naq.symm, upd_same] at nl; cases nl
    have nl0 : H l = none := by rw [upd_ne nal.symm, upd_ne nlq, upd_ne nal.symm] at nl; exact nl
    refine ⟨_, rfl, a, _, dx, _, rfl, (by rw [upd_ne nal, upd_same]), cl, T.n_EightBox_taken, (by show 2 < 1000; decide), ?_⟩
    refine ⟨_, rfl, a, _, dx, _, rfl, upd_same, cl, T.n_EightBox_told, (by show 3 < 1000; decide), ?_⟩
    refine ⟨_, rfl, a, _, dx, _, rfl, upd_same, cl, T.n_EightBox_rest, (by show 4 < 1000; decide), ?_⟩
    rw [upd_upd, upd_upd]
    refine k q l _ nq nl0 nlq upd_same ?_ ?_ fun c o e hc => ?_
    · rw [upd_ne naq.symm, upd_ne nlq.symm, upd_ne naq.symm, upd_same]
    · rw [upd_ne nal.symm, upd_same]
    · rw [upd_ne hc, upd_ne (ne_of_none e nl0), upd_ne hc, upd_ne (ne_of_none e nq), upd_ne hc]
      exact e
def sp_eight_tell (A : Ad) (K : PySem.W.Frag) : Sp := fun vs H Q _ => ∃ (a dx p t l : Addr) (ns : List Int) (told : Bool) (q : Int), vs = [.ref a, .int q] ∧ H a = some (.ins A.c_EightBox dx (eiF p t l told .non)) ∧ SqT K H p (ns.map V.int) ∧ ns.length = 8 ∧ (∀ z ∈ ns, fits z) ∧ fits q ∧
  ∀ r p' H', H' r = some (.tup [.str "part", .int q]) → H' a = some (.ins A.c_EightBox dx (eiF p' t l true .non)) → SqT K H' p' ((turnedOver ns q).map V.int) → (∀ c o, H c = some o → c ≠ a → H' c = some o) → Q (.ref r) H'
theorem ok_EightBox_tell (T : CT K mg A) (D : DT K mg A) : MOk P w K mg base CX0 2 A.c_EightBox "tell" ["self", "part"] (sp_eight_tell A K) := by
  have G_turned_over := ok_turned_over (P := P) (w := w) (base := base) T D
  refine MOk.of T.cl_EightBox D.EightBox_tell fun f fd F => ?_
  refine F.ok sc_EightBox_tell (fun vs H Q E h => ?_) (fun cdv Ar outer s H vs Q E hr h => ?_)
  · obtain ⟨a, dx, p, t, l, ns, told, q, rfl, _⟩ := h
    rfl
  · obtain ⟨a, dx, p, t, l, ns, told, q, rfl, ha, hp, hl, hf, fq, k⟩ := h
    refine ⟨_, (pss_cons (ps_fld (pv 0) (pe_c G_turned_over (hr.mono (by first | decide | omega)) (pa_cons (pe_fld (pv 0) rfl) (pa_cons (pv 1) pa_nil))) rfl)
    (pss_cons (ps_fld (pv 0) pe_bl rfl)
    (pss_one (ps_ret (pe_tup (pa_cons pe_str (pa_cons (pv 1) pa_nil))))))), ?_⟩
    have cl := T.cl_EightBox
    refine ⟨_, rfl, a, _, dx, _, _, rfl, ha, cl, T.n_EightBox_numbers, rfl, _, rfl, p, ns, q, rfl, hp, ⟨4, hl, by decide, by decide⟩, hf, fq, fun p' H1 hp1 s1 => ?_⟩
    refine ⟨_, rfl, a, _, dx, _, rfl, s1 _ _ ha, cl, T.n_EightBox_numbers, (by show 5 < 1000; decide), ?_⟩
    refine ⟨_, rfl, a, _, dx, _, rfl, upd_same, cl, T.n_EightBox_told, (by show 5 < 1000; decide), ?_⟩
    refine ⟨_, rfl, (by show 2 ≤ sizeLine; decide), fun u nu => ?_⟩
    have s3 := same_upd (o := .tup [V.str "part", .int q]) nu
    rw [upd_upd] at *
    exact k u p' _ upd_same (s3 _ _ upd_same) (sqT_same (sqT_ins hp1 (s1 _ _ ha)) s3) fun c o e hc => s3 _ _ (by rw [upd_ne hc]; exact s1 _ _ e)
def leftOf (ns : List Int) (which : Nat) : List Int := if which = 0 then [ns.getD 0 0, ns.getD 1 0, ns.getD 4 0, ns.getD 5 0] else [ns.getD 0 0, ns.getD 2 0, ns.getD 4 0, ns.getD 6 0]
def sp_left_without (A : Ad) (K : PySem.W.Frag) : Sp := fun vs H Q _ => ∃ (a dx p t l x y : Addr) (ns : List Int) (told : Bool) (which : Nat), vs = [.ref a, .int which] ∧ which ≤ 1 ∧ H a = some (.ins A.c_EightBox dx (eiF p t l told .non)) ∧ SqT K H p (ns.map V.int) ∧ SqT K H t [.ref x, .ref y] ∧ ns.length = 8 ∧ (∀ z ∈ ns, fits z) ∧
  ∀ p' r dr C fs H', SqT K H' p' ((leftOf ns which).map V.int) → H r = none → Same H H' → H' r = some (.ins C dr fs) → OneIs A p' (if which = 0 then y else x) (leftOf ns which) told C fs → Q (.ref r) H'
theorem ok_left_without (T : CT K mg A) (D : DT K mg A) : MOk P w K mg base CX0 4 A.c_EightBox "left_without" ["self", "which"] (sp_left_without A K) := by
  have G_box_of_one := ok_box_of_one (P := P) (w := w) (base := base) T D
  refine MOk.of T.cl_EightBox D.EightBox_left_without fun f fd F => ?_
  refine F.ok sc_EightBox_left_without (fun vs H Q E h => ?_) (fun cdv Ar outer s H vs Q E hr h => ?_)
  · obtain ⟨a, dx, p, t, l, x, y, ns, told, which, rfl, _⟩ := h
    rfl
  · obtain ⟨a, dx, p, t, l, x, y, ns, told, which, rfl, hw, ha, hp, ht, hl, hf, k⟩ := h
    refine ⟨_, (pss_cons (ps_asg (pe_fld (pv 0) rfl) (pg_tup rfl (pgs_cons (pg_name (i := 2) sc_EightBox_left_without.nd rfl (Or.inl rfl)) (pgs_cons (pg_name (i := 3) sc_EightBox_left_without.nd rfl (Or.inl rfl)) (pgs_cons (pg_name (i := 4) sc_EightBox_left_without.nd rfl (Or.inl rfl)) (pgs_cons (pg_name (i := 5) sc_EightBox_left_without.nd rfl (Or.inl rfl)) (pgs_cons (pg_name (i := 6) sc_EightBox_left_without.nd rfl (Or.inl rfl)) (pgs_cons (pg_name (i := 7) sc_EightBox_left_without.nd rfl (Or.inl rfl)) (pgs_cons (pg_name (i := 8) sc_EightBox_left_without.nd rfl (Or.inl rfl)) (pgs_cons (pg_name (i := 9) sc_EightBox_left_without.nd rfl (Or.inl rfl)) pgs_nil))))))))))
    (pss_cons (ps_if (pt_cmpR op_eq (pv 1) pe_int (nomark _))
      (pss_one (ps_ret (pe_c G_box_of_one (hr.mono (by first | decide | omega)) (pa_cons (pe_tup (pa_cons (pv 2) (pa_cons (pv 3) (pa_cons (pv 6) (pa_cons (pv 7) pa_nil))))) (pa_cons (pe_ix ix_tup (pe_fld (pv 0) rfl) pe_int (fun _ _ => rfl)) (pa_cons (pe_fld (pv 0) rfl) pa_nil)))))) pss_nil)
    (pss_one (ps_ret (pe_c G_box_of_one (hr.mono (by first | decide | omega)) (pa_cons (pe_tup (pa_cons (pv 2) (pa_cons (pv 4) (pa_cons (pv 6) (pa_cons (pv 8) pa_nil))))) (pa_cons (pe_ix ix_tup (pe_fld (pv 0) rfl) pe_int (fun _ _ => rfl)) (pa_cons (pe_fld (pv 0) rfl) pa_nil)))))))), ?_⟩
    have cl := T.cl_EightBox
    match ns, hl with
    | [n0, n1, n2, n3, n4, n5, n6, n7], _ =>
      refine ⟨_, rfl, a, _, dx, _, _, rfl, ha, cl, T.n_EightBox_numbers, rfl, p, _, rfl, hp, rfl, _, _, rfl, _, _, rfl, _, _, rfl, _, _, rfl, _, _, rfl, _, _, rfl, _, _, rfl, _, _, rfl, rfl, ?_⟩
      refine ⟨_, rfl, rfl, _, rfl, ?_⟩
      match which, hw with
      | 0, _ =>
        refine iteT ⟨_, rfl, _, rfl, _, rfl, _, rfl, (by show 4 ≤ sizeLine; decide), fun p' np => ?_⟩
        have s1 := same_upd (o := .tup [V.int n0, .int n1, .int n4, .int n5]) np
        refine ⟨_, rfl, a, _, dx, _, _, rfl, s1 _ _ ha, cl, T.n_EightBox_trees, rfl, t, _, 1, _, rfl, rfl, sqT_same ht s1, atI_nat (j := 1) rfl, _, rfl, a, _, dx, _, _, rfl, s1 _ _ ha, cl, T.n_EightBox_told, rfl, ?_⟩
        refine ⟨p', y, [n0, n1, n4, n5], told, rfl, SqT.of upd_same, rfl, (by intro z hz; simp at hz; rcases hz with rfl | rfl | rfl | rfl <;> exact hf _ (by simp)), fun r dr C fs H' nr s2 hr' o => ?_⟩
        exact k p' r dr C fs H' (sqT_same (SqT.of upd_same) s2) (s1.free nr) (s1.trans s2) hr' o
      | 1, _ =>
        refine iteF ⟨_, rfl, _, rfl, _, rfl, _, rfl, (by show 4 ≤ sizeLine; decide), fun p' np => ?_⟩
        have s1 := same_upd (o := .tup [V.int n0, .int n2, .int n4, .int n6]) np
        refine ⟨_, rfl, a, _, dx, _, _, rfl, s1 _ _ ha, cl, T.n_EightBox_trees, rfl, t, _, 0, _, rfl, rfl, sqT_same ht s1, atI_nat (j := 0) rfl, _, rfl, a, _, dx, _, _, rfl, s1 _ _ ha, cl, T.n_EightBox_told, rfl, ?_⟩
        refine ⟨p', x, [n0, n2, n4, n6], told, rfl, SqT.of upd_same, rfl, (by intro z hz; simp at hz; rcases hz with rfl | rfl | rfl | rfl <;> exact hf _ (by simp)), fun r dr C fs H' nr s2 hr' o => ?_⟩
        exact k p' r dr C fs H' (sqT_same (SqT.of upd_same) s2) (s1.free nr) (s1.trans s2) hr' o
def withPart (ns : List Int) (which : Nat) (q : Int) : List Int := if which = 0 then withFirst ns q else withSecond ns q
def sp_eight_take (A : Ad) (K : PySem.W.Frag) : Sp := fun vs H Q _ => ∃ (a dx p t l x y : Addr) (ns : List Int) (told : Bool) (which : Nat) (i j : Int) (v : V) (an : Ans), vs = [.ref a, .int which, v] ∧ which ≤ 1 ∧ an.At A H v ∧ H a = some (.ins A.c_EightBox dx (eiF p t l told .non)) ∧ SqT K H p (ns.map V.int) ∧ SqT K H t [.ref x, .ref y] ∧ H l = some (.lst [.int i, .int j]) ∧ ns.length = 8 ∧ (∀ z ∈ ns, fits z) ∧
  match an with
  | .waits => False
  | .fin => ∀ p' r dr C fs H', SqT K H' p' ((leftOf ns which).map V.int) → H r = none → H' a = some (.ins A.c_EightBox dx (eiF p t l told (.ref r))) → (∀ c o, H c = some o → c ≠ a → H' c = some o) → H' r = some (.ins C dr fs) → OneIs A p' (if which = 0 then y else x) (leftOf ns which) told C fs → Q .non H'
  | .part q => fits q ∧ ∀ p' H', H' a = some (.ins A.c_EightBox dx (eiF p' t l told .non)) → SqT K H' p' ((withPart ns which q).map V.int) → H' l = some (.lst (if which = 0 then [.int (i + 1), .int j] else [.int i, .int (j + 1)])) → (∀ c o, H c = some o → c ≠ a → c ≠ l → H' c = some o) → Q .non H'
theorem ok_EightBox_take (T : CT K mg A) (D : DT K mg A) : MOk P w K mg base CX0 5 A.c_EightBox "take" ["self", "which", "answer"] (sp_eight_take A K) := by
  have M_left := ok_left_without (P := P) (w := w) (base := base) T D
  have G_with_first_part := ok_with_first_part (P := P) (w := w) (base := base) T D
  have G_with_second_part := ok_with_second_part (P := P) (w := w) (base := base) T D
  refine MOk.of T.cl_EightBox D.EightBox_take fun f fd F => ?_
  refine F.ok sc_EightBox_take (fun vs H Q E h => ?_) (fun cdv Ar outer s H vs Q E hr h => ?_)
  · obtain ⟨a, dx, p, t, l, x, y, ns, told, which, i, j, v, an, rfl, _⟩ := h
    rfl
  · obtain ⟨a, dx, p, t, l, x, y, ns, told, which, i, j, v, an, rfl, hw, hv, ha, hp, ht, hL, hl, hf, k⟩ := h
    refine ⟨_, (pss_cons (ps_if (pt_cmpR (op_eqD hr.units) (pv 2) (pe_glob (v := .ref A.k_END) (by rfl) T.g_END rfl) (nomark _))
      (pss_cons (ps_fld (pv 0) (pe_m M_left (hr.mono (by first | decide | omega)) (pv 0) (pa_cons (pv 1) pa_nil)) rfl)
    (pss_one ps_retN)) pss_nil)
    (pss_cons (ps_if (pt_cmpR op_eq (pv 1) pe_int (nomark _))
      (pss_one (ps_fld (pv 0) (pe_c G_with_first_part (hr.mono (by first | decide | omega)) (pa_cons (pe_fld (pv 0) rfl) (pa_cons (pe_ix ix_tup (pv 2) pe_int (fun _ _ => rfl)) pa_nil))) rfl)) (pss_one (ps_fld (pv 0) (pe_c G_with_second_part (hr.mono (by first | decide | omega)) (pa_cons (pe_fld (pv 0) rfl) (pa_cons (pe_ix ix_tup (pv 2) pe_int (fun _ _ => rfl)) pa_nil))) rfl)))
    (pss_one (ps_augS (pe_fld (pv 0) rfl) (pv 1) get_listP pe_int ip_add set_list)))), ?_⟩
    have cl := T.cl_EightBox
    obtain ⟨pv', rfl, hpv⟩ := hv.tup T
    have hE : SqT K H A.k_END Ans.fin.vals := T.t_END H
    refine ⟨_, rfl, _, _, an.dp hpv, Ans.fin.dp hE, an.shaped, Ans.fin.shaped, _, rfl, ?_⟩
    rw [eqv_fin]
    cases an with
    | waits => exact k.elim
    | fin =>
      refine iteT ⟨_, rfl, a, dx, _, rfl, ha, rfl, _, rfl, a, dx, p, t, l, x, y, ns, told, which, rfl, hw, ha, hp, ht, hl, hf, fun p' r dr C fs H1 hp1 nr s1 hr1 o => ?_⟩
      refine ⟨_, rfl, a, _, dx, _, rfl, s1 _ _ ha, cl, T.n_EightBox_rest, (by show 5 < 1000; decide), ?_⟩
      exact k p' r dr C fs _ (sqT_ins hp1 (s1 _ _ ha)) nr upd_same (fun c o e hc => by rw [upd_ne hc]; exact s1 _ _ e) (by rw [upd_ne (ne_of_none ha nr).symm]; exact hr1) o
    | part q =>
      obtain ⟨fq, k⟩ := k
      have nal : l ≠ a := ne_of hL ha (by intro z; cases z)
      refine iteF ?_
      match which, hw with
      | 0, _ =>
        refine ⟨_, rfl, rfl, _, rfl, iteT ?_⟩
        refine ⟨_, rfl, a, _, dx, _, _, rfl, ha, cl, T.n_EightBox_numbers, rfl, _, rfl, pv', _, 1, _, rfl, rfl, hpv, atI_nat (j := 1) rfl, p, ns, q, rfl, hp, hl, hf, fq, fun p' H1 hp1 s1 => ?_⟩
        refine ⟨_, rfl, a, _, dx, _, rfl, s1 _ _ ha, cl, T.n_EightBox_numbers, (by show 5 < 1000; decide), ?_⟩
        have hL1 : (upd H1 a (.ins A.c_EightBox dx (putF "numbers" (.ref p') (eiF p t l told .non)))) l = some (.lst [.int i, .int j]) := by rw [upd_ne nal]; exact s1 _ _ hL
        refine ⟨_, rfl, a, _, dx, _, _, rfl, upd_same, cl, T.n_EightBox_taken, rfl, _, rfl, l, _, 0, _, rfl, rfl, SqL.of hL1, rfl, _, _, rfl, rfl, l, _, 0, 0, rfl, rfl, hL1, rfl, ?_⟩
        refine k p' _ ?_ ?_ upd_same fun c o e hc hcl => ?_
        · rw [upd_ne nal.symm, upd_same]; rfl
        · exact sqT_lst (sqT_ins hp1 (s1 _ _ ha)) hL1
        · rw [upd_ne hcl, upd_ne hc]; exact s1 _ _ e
      | 1, _ =>
        refine ⟨_, rfl, rfl, _, rfl, iteF ?_⟩
        refine ⟨_, rfl, a, _, dx, _, _, rfl, ha, cl, T.n_EightBox_numbers, rfl, _, rfl, pv', _, 1, _, rfl, rfl, hpv, atI_nat (j := 1) rfl, p, ns, q, rfl, hp, hl, hf, fq, fun p' H1 hp1 s1 => ?_⟩
        refine ⟨_, rfl, a, _, dx, _, rfl, s1 _ _ ha, cl, T.n_EightBox_numbers, (by show 5 < 1000; decide), ?_⟩
        have hL1 : (upd H1 a (.ins A.c_EightBox dx (putF "numbers" (.ref p') (eiF p t l told .non)))) l = some (.lst [.int i, .int j]) := by rw [upd_ne nal]; exact s1 _ _ hL
        refine ⟨_, rfl, a, _, dx, _, _, rfl, upd_same, cl, T.n_EightBox_taken, rfl, _, rfl, l, _, 1, _, rfl, rfl, SqL.of hL1, rfl, _, _, rfl, rfl, l, _, 1, 1, rfl, rfl, hL1, rfl, ?_⟩
        refine k p' _ ?_ ?_ upd_same fun c o e hc hcl => ?_
        · rw [upd_ne nal.symm, upd_same]; rfl
        · exact sqT_lst (sqT_ins hp1 (s1 _ _ ha)) hL1
        · rw [upd_ne hcl, upd_ne hc]; exact s1 _ _ e
end
/-! ### boxes: what they are, in plain Lean, and where they stand -/
inductive Box where
  | leaf (c : Chain)
  | fb (t b : Int) (told : Bool)
  | four (ns : List Int) (st told : Bool) (x : Box)
  | fourR (t b : Int) (told : Bool)
  | eight (ns : List Int) (i j : Int) (told : Bool) (x y : Box)
  | eightR (r : Box)
def Box.wt : Box → Nat
  | .leaf _ => 0
  | .fb _ _ _ => 0
  | .four _ _ _ x => x.wt + 1
  | .fourR _ _ _ => 1
  | .eight _ _ _ _ x y => max x.wt y.wt + 3
  | .eightR r => r.wt + 2
/-- of which class -/
def Box.kind : Box → Nat
  | .leaf _ => 0
  | .fb _ _ _ => 1
  | .four _ _ _ _ => 2
  | .fourR _ _ _ => 2
  | .eight _ _ _ _ _ _ => 3
  | .eightR _ => 3
/-- whole trees within: no fraction box there; a rest is a four or a fraction box -/
def Box.Ok : Box → Prop
  | .leaf c => c.Ok
  | .fb _ _ _ => True
  | .four ns _ _ x => ns.length = 4 ∧ x.Ok ∧ x.kind ≠ 1
  | .fourR _ _ _ => True
  | .eight ns i j _ x y => ns.length = 8 ∧ x.Ok ∧ y.Ok ∧ x.kind ≠ 1 ∧ y.kind ≠ 1 ∧ 0 ≤ i ∧ 0 ≤ j
  | .eightR r => r.Ok ∧ (r.kind = 1 ∨ r.kind = 2)
def allFit (ns : List Int) (cs : List (Int × Int)) : Bool := ns.all (fun z => decide (fits z)) && cs.all (fun c => decide (fits c.1) && decide (fits c.2))
/-- a fraction box, asked -/
def fbAsk (t b : Int) (told : Bool) : Option (Option Ans × Int × Int × Bool) :=
  if fits t ∧ fits b then (if b = 0 then (if told = true then some (some .fin, t, b, told) else some (none, t, b, told)) else some (some (.part (t.fdiv b)), b, t - t.fdiv b * b, true)) else none
def oneBox (ns : List Int) (told : Bool) (x : Box) : Box :=
  if ns.getD 0 0 * ns.getD 3 0 ≠ ns.getD 1 0 * ns.getD 2 0 then .four ns true told x
  else if ns.getD 2 0 ≠ 0 then .fb (ns.getD 0 0) (ns.getD 2 0) told else .fb (ns.getD 1 0) (ns.getD 3 0) told
/-- what is told (none: NoValue), the box behind it, how many parts of leaves may yet be taken; nothing where the numbers are too great, or the fuel too little -/
def askF : Nat → Box → Int → Option (Option Ans × Box × Int)
  | 0, _, _ => none
  | _ + 1, .leaf c, l => some (some (c.ans l), .leaf (c.then_ l), l - c.took l)
  | _ + 1, .fb t b told, l => (fbAsk t b told).map fun r => (r.1, .fb r.2.1 r.2.2.1 r.2.2.2, l)
  | _ + 1, .fourR t b told, l => (fbAsk t b told).map fun r => (r.1, .fourR r.2.1 r.2.2.1 r.2.2.2, l)
  | n + 1, .four ns st told x, l =>
    if allFit ns (fourCorners ns) = true then
      match (if st = true then surePart (fourCorners ns) else none) with
      | some q => some (some (.part q), .four (turnedOver ns q) st true x, l)
      | none => match askF n x l with
        | none => none
        | some (none, x', l') => some (none, .four ns st told x', l')
        | some (some .waits, x', l') => some (some .waits, .four ns st told x', l')
        | some (some .fin, _, l') => askF n (.fourR (ns.getD 0 0) (ns.getD 2 0) told) l'
        | some (some (.part q), x', l') => if fits q then askF n (.four (withOne ns q) true told x') l' else none
    else none
  | n + 1, .eight ns i j told x y, l =>
    if allFit ns (eightCorners ns) = true then
      match (if 0 < i ∧ 0 < j then surePart (eightCorners ns) else none) with
      | some q => some (some (.part q), .eight (turnedOver ns q) i j true x y, l)
      | none =>
        if i ≤ j then match askF n x l with
          | none => none
          | some (none, x', l') => some (none, .eight ns i j told x' y, l')
          | some (some .waits, x', l') => some (some .waits, .eight ns i j told x' y, l')
          | some (some .fin, _, l') => askF n (.eightR (oneBox (leftOf ns 0) told y)) l'
          | some (some (.part q), x', l') => if fits q then askF n (.eight (withFirst ns q) (i + 1) j told x' y) l' else none
        else match askF n y l with
          | none => none
          | some (none, y', l') => some (none, .eight ns i j told x y', l')
          | some (some .waits, y', l') => some (some .waits, .eight ns i j told x y', l')
          | some (some .fin, _, l') => askF n (.eightR (oneBox (leftOf ns 1) told x)) l'
          | some (some (.part q), y', l') => if fits q then askF n (.eight (withSecond ns q) i (j + 1) told x y') l' else none
    else none
  | n + 1, .eightR r, l => (askF n r l).map fun z => (z.1, .eightR z.2.1, z.2.2)
def BoxAt (A : Ad) (K : PySem.W.Frag) (H : Hp) : Box → Addr → List Addr → Prop
  | .leaf c, a, fp => ∃ ca, fp = [a, ca] ∧ LeafAt A K H a ca c ∧ a ≠ ca
  | .fb t b told, a, fp => ∃ dx, fp = [a] ∧ H a = some (.ins A.c_FractionBox dx (fbF t b told))
  | .four ns st told x, a, fp => ∃ dx p tx fx, fp = a :: fx ∧ H a = some (.ins A.c_FourBox dx (foF p tx st told .non)) ∧ SqT K H p (ns.map V.int) ∧ BoxAt A K H x tx fx ∧ a ∉ fx
  | .fourR t b told, a, fp => ∃ dx p tx st told' r dr, fp = [a, r] ∧ H a = some (.ins A.c_FourBox dx (foF p tx st told' (.ref r))) ∧ H r = some (.ins A.c_FractionBox dr (fbF t b told)) ∧ a ≠ r
  | .eight ns i j told x y, a, fp => ∃ dx p t l tx ty fx fy, fp = a :: l :: (fx ++ fy) ∧ H a = some (.ins A.c_EightBox dx (eiF p t l told .non)) ∧ SqT K H p (ns.map V.int) ∧ SqT K H t [.ref tx, .ref ty] ∧ H l = some (.lst [.int i, .int j]) ∧
      BoxAt A K H x tx fx ∧ BoxAt A K H y ty fy ∧ a ∉ fx ∧ a ∉ fy ∧ l ∉ fx ∧ l ∉ fy ∧ ∀ c ∈ fx, c ∉ fy
  | .eightR r, a, fp => ∃ dx p t l told b fr, fp = a :: fr ∧ H a = some (.ins A.c_EightBox dx (eiF p t l told (.ref b))) ∧ BoxAt A K H r b fr ∧ a ∉ fr
section
variable {P : Program} {w : World} {K : PySem.W.Frag} {mg : Str → Option Value} {base : Heap} {A : Ad}
/-- no tuple, no locked thing -/
def Soft (H : Hp) (c : Addr) : Prop := (∃ C dx fs, H c = some (.ins C dx fs)) ∨ ∃ xs, H c = some (.lst xs)
theorem Soft.no {H : Hp} {c : Addr} {o : HO} (h : Soft H c) (e : H c = some o) : (∀ ys, o ≠ .tup ys) ∧ ∀ ob u, o ≠ .frz ob u := by
  rcases h with ⟨C, dx, fs, z⟩ | ⟨xs, z⟩
  · rw [z] at e; cases e; exact ⟨fun _ q => (by cases q), fun _ _ q => (by cases q)⟩
  · rw [z] at e; cases e; exact ⟨fun _ q => (by cases q), fun _ _ q => (by cases q)⟩
theorem BoxAt.soft {H : Hp} : ∀ {B : Box} {a : Addr} {fp : List Addr}, BoxAt A K H B a fp → ∀ c ∈ fp, Soft H c
  | .leaf ch, a, fp, h => by
    obtain ⟨ca, rfl, ⟨⟨dx, e⟩, hc⟩, _⟩ := h
    intro c hm
    simp only [List.mem_cons, List.not_mem_nil, or_false] at hm
    rcases hm with rfl | rfl
    · exact .inl ⟨_, _, _, e⟩
    · exact .inl hc.there
  | .fb t b told, a, fp, h => by
    obtain ⟨dx, rfl, e⟩ := h
    intro c hm
    simp only [List.mem_cons, List.not_mem_nil, or_false] at hm
    subst hm
    exact .inl ⟨_, _, _, e⟩
  | .four ns st told x, a, fp, h => by
    obtain ⟨dx, p, tx, fx, rfl, e, hp, hx, na⟩ := h
    intro c hm
    rcases List.mem_cons.mp hm with rfl | hm
    · exact .inl ⟨_, _, _, e⟩
    · exact BoxAt.soft hx c hm
  | .fourR t b told, a, fp, h => by
    obtain ⟨dx, p, tx, st, told', r, dr, rfl, e, er, _⟩ := h
    intro c hm
    simp only [List.mem_cons, List.not_mem_nil, or_false] at hm
    rcases hm with rfl | rfl
    · exact .inl ⟨_, _, _, e⟩
    · exact .inl ⟨_, _, _, er⟩
  | .eight ns i j told x y, a, fp, h => by
    obtain ⟨dx, p, t, l, tx, ty, fx, fy, rfl, e, hp, ht, hl, hx, hy, _⟩ := h
    intro c hm
    rcases List.mem_cons.mp hm with rfl | hm
    · exact .inl ⟨_, _, _, e⟩
    · rcases List.mem_cons.mp hm with rfl | hm
      · exact .inr ⟨_, hl⟩
      · rcases List.mem_append.mp hm with hm | hm
        · exact BoxAt.soft hx c hm
        · exact BoxAt.soft hy c hm
  | .eightR r, a, fp, h => by
    obtain ⟨dx, p, t, l, told, b, fr, rfl, e, hr, _⟩ := h
    intro c hm
    rcases List.mem_cons.mp hm with rfl | hm
    · exact .inl ⟨_, _, _, e⟩
    · exact BoxAt.soft hr c hm
theorem BoxAt.kept {H H' : Hp} {N : Addr → Prop} (k : ∀ c o, H c = some o → ¬ N c → H' c = some o) (hN : ∀ c o, N c → H c = some o → (∀ ys, o ≠ .tup ys) ∧ ∀ ob u, o ≠ .frz ob u) :
    ∀ {B : Box} {a : Addr} {fp : List Addr}, BoxAt A K H B a fp → (∀ c ∈ fp, ¬ N c) → BoxAt A K H' B a fp
  | .leaf ch, a, fp, h, n => by
    obtain ⟨ca, rfl, ⟨⟨dx, e⟩, hc⟩, ne⟩ := h
    exact ⟨ca, rfl, ⟨⟨dx, k _ _ e (n a (by simp))⟩, hc.kept (n ca (by simp)) k hN⟩, ne⟩
  | .fb t b told, a, fp, h, n => by
    obtain ⟨dx, rfl, e⟩ := h
    exact ⟨dx, rfl, k _ _ e (n a (by simp))⟩
  | .four ns st told x, a, fp, h, n => by
    obtain ⟨dx, p, tx, fx, rfl, e, hp, hx, na⟩ := h
    exact ⟨dx, p, tx, fx, rfl, k _ _ e (n a (by simp)), sqT_but hp k hN, BoxAt.kept k hN hx (fun c hc => n c (by simp [hc])), na⟩
  | .fourR t b told, a, fp, h, n => by
    obtain ⟨dx, p, tx, st, told', r, dr, rfl, e, er, ne⟩ := h
    exact ⟨dx, p, tx, st, told', r, dr, rfl, k _ _ e (n a (by simp)), k _ _ er (n r (by simp)), ne⟩
  | .eight ns i j told x y, a, fp, h, n => by
    obtain ⟨dx, p, t, l, tx, ty, fx, fy, rfl, e, hp, ht, hl, hx, hy, z⟩ := h
    exact ⟨dx, p, t, l, tx, ty, fx, fy, rfl, k _ _ e (n a (by simp)), sqT_but hp k hN, sqT_but ht k hN, k _ _ hl (n l (by simp)), BoxAt.kept k hN hx (fun c hc => n c (by simp [hc])), BoxAt.kept k hN hy (fun c hc => n c (by simp [hc])), z⟩
  | .eightR r, a, fp, h, n => by
    obtain ⟨dx, p, t, l, told, b, fr, rfl, e, hr, na⟩ := h
    exact ⟨dx, p, t, l, told, b, fr, rfl, k _ _ e (n a (by simp)), BoxAt.kept k hN hr (fun c hc => n c (by simp [hc])), na⟩
theorem BoxAt.same {H H' : Hp} {B : Box} {a : Addr} {fp : List Addr} (h : BoxAt A K H B a fp) (s : Same H H') : BoxAt A K H' B a fp :=
  h.kept (N := fun _ => False) (fun c o e _ => s c o e) (fun _ _ z => z.elim) fun _ _ z => z
/-- the box itself is of its footprint -/
theorem BoxAt.mem {H : Hp} {B : Box} {a : Addr} {fp : List Addr} (h : BoxAt A K H B a fp) : a ∈ fp := by
  cases B with
  | leaf c => obtain ⟨ca, rfl, _⟩ := h; simp
  | fb t b u => obtain ⟨dx, rfl, _⟩ := h; simp
  | four ns st told x => obtain ⟨dx, p, tx, fx, rfl, _⟩ := h; simp
  | fourR t b u => obtain ⟨dx, p, tx, st, told', r, dr, rfl, _⟩ := h; simp
  | eight ns i j told x y => obtain ⟨dx, p, t, l, tx, ty, fx, fy, rfl, _⟩ := h; simp
  | eightR r => obtain ⟨dx, p, t, l, told, b, fr, rfl, _⟩ := h; simp
theorem allFit_ns {ns : List Int} {cs : List (Int × Int)} (h : allFit ns cs = true) : (∀ z ∈ ns, fits z) ∧ ∀ c ∈ cs, fits c.1 ∧ fits c.2 := by
  unfold allFit at h
  rw [Bool.and_eq_true, List.all_eq_true, List.all_eq_true] at h
  refine ⟨fun z hz => of_decide_eq_true (h.1 z hz), fun c hc => ?_⟩
  have := h.2 c hc
  rw [Bool.and_eq_true] at this
  exact ⟨of_decide_eq_true this.1, of_decide_eq_true this.2⟩
theorem surePart_fits {cs : List (Int × Int)} {q : Int} (h : surePart cs = some q) (hf : ∀ c ∈ cs, fits c.1 ∧ fits c.2) (hc : 0 < cs.length) : fits q := by
  have hfd : ∀ d ∈ flipped cs, fits d.1 ∧ fits d.2 := by
    unfold flipped
    split
    · intro d hd
      obtain ⟨c, hc, rfl⟩ := List.mem_map.mp hd
      exact ⟨fits_neg (hf c hc).1, fits_neg (hf c hc).2⟩
    · exact hf
  have hlen : 0 < (flipped cs).length := by
    unfold flipped
    split
    · rw [List.length_map]; exact hc
    · exact hc
  unfold surePart at h
  simp only at h
  generalize flipped cs = ds at *
  match ds, hlen with
  | d0 :: dr, _ =>
    rw [List.getD_cons_zero] at h
    split at h
    · rename_i hp
      split at h
      · cases h
        have p0 : 0 < d0.2 := of_decide_eq_true (List.all_eq_true.mp hp d0 List.mem_cons_self)
        exact Nat.lt_of_le_of_lt (fdiv_abs (by omega)) (hfd d0 List.mem_cons_self).1
      · cases h
    · cases h
theorem turnedOver_len {ns : List Int} {q : Int} {h : Nat} (e : ns.length = 2 * h) : (turnedOver ns q).length = ns.length := by
  unfold turnedOver
  rw [List.length_append, List.length_drop, List.length_zipWith, List.length_take, List.length_drop]
  omega
theorem oneBox_ok {ns : List Int} {told : Bool} {x : Box} (hl : ns.length = 4) (hx : x.Ok) (hk : x.kind ≠ 1) : (oneBox ns told x).Ok ∧ (oneBox ns told x).wt ≤ x.wt + 1 ∧ ((oneBox ns told x).kind = 1 ∨ (oneBox ns told x).kind = 2) := by
  unfold oneBox
  split
  · exact ⟨⟨hl, hx, hk⟩, Nat.le_refl _, .inr rfl⟩
  · split
    · exact ⟨trivial, Nat.zero_le _, .inl rfl⟩
    · exact ⟨trivial, Nat.zero_le _, .inl rfl⟩
theorem askF_ok : ∀ {n : Nat} {B : Box} {l : Int} {o : Option Ans} {B' : Box} {l' : Int}, B.Ok → askF n B l = some (o, B', l') → B'.Ok ∧ B'.wt ≤ B.wt ∧ B'.kind = B.kind
  | 0, B, l, o, B', l', _, e => by cases B <;> cases e
  | n + 1, .leaf c, l, o, B', l', ok, e => by
    cases e
    exact ⟨Chain.Ok.then_ (ch := c) ok l, Nat.le_refl _, rfl⟩
  | n + 1, .fb t b told, l, o, B', l', ok, e => by
    simp only [askF, Option.map_eq_some_iff] at e
    obtain ⟨r, _, e⟩ := e
    cases e
    exact ⟨trivial, Nat.le_refl _, rfl⟩
  | n + 1, .fourR t b told, l, o, B', l', ok, e => by
    simp only [askF, Option.map_eq_some_iff] at e
    obtain ⟨r, _, e⟩ := e
    cases e
    exact ⟨trivial, Nat.le_refl _, rfl⟩
  | n + 1, .four ns st told x, l, o, B', l', ok, e => by
    obtain ⟨hl, hx, hk⟩ := ok
    simp only [askF] at e
    split at e
    · split at e
      · cases e
        exact ⟨⟨(turnedOver_len (h := 2) hl).trans hl, hx, hk⟩, Nat.le_refl _, rfl⟩
      · split at e
        · cases e
        · rename_i x' l1 ex
          cases e
          obtain ⟨a1, a2, a3⟩ := askF_ok hx ex
          exact ⟨⟨hl, a1, a3 ▸ hk⟩, Nat.succ_le_succ a2, rfl⟩
        · rename_i x' l1 ex
          cases e
          obtain ⟨a1, a2, a3⟩ := askF_ok hx ex
          exact ⟨⟨hl, a1, a3 ▸ hk⟩, Nat.succ_le_succ a2, rfl⟩
        · obtain ⟨a1, a2, a3⟩ := askF_ok (B := .fourR _ _ _) trivial e
          exact ⟨a1, Nat.le_trans a2 (Nat.succ_le_succ (Nat.zero_le _)), a3⟩
        · rename_i q x' l1 ex
          split at e
          · obtain ⟨a1, a2, a3⟩ := askF_ok hx ex
            obtain ⟨b1, b2, b3⟩ := askF_ok (B := .four (withOne ns q) true told x') ⟨rfl, a1, a3 ▸ hk⟩ e
            exact ⟨b1, Nat.le_trans b2 (Nat.succ_le_succ a2), b3⟩
          · cases e
    · cases e
  | n + 1, .eight ns i j told x y, l, o, B', l', ok, e => by
    obtain ⟨hl, hx, hy, hkx, hky, hi, hj⟩ := ok
    simp only [askF] at e
    have wx : x.wt ≤ max x.wt y.wt := Nat.le_max_left _ _
    have wy : y.wt ≤ max x.wt y.wt := Nat.le_max_right _ _
    split at e
    · split at e
      · cases e
        exact ⟨⟨(turnedOver_len (h := 4) hl).trans hl, hx, hy, hkx, hky, hi, hj⟩, Nat.le_refl _, rfl⟩
      · split at e
        · split at e
          · cases e
          · rename_i x' l1 ex
            cases e
            obtain ⟨a1, a2, a3⟩ := askF_ok hx ex
            exact ⟨⟨hl, a1, hy, a3 ▸ hkx, hky, hi, hj⟩, (by show max _ _ + 3 ≤ max _ _ + 3; omega), rfl⟩
          · rename_i x' l1 ex
            cases e
            obtain ⟨a1, a2, a3⟩ := askF_ok hx ex
            exact ⟨⟨hl, a1, hy, a3 ▸ hkx, hky, hi, hj⟩, (by show max _ _ + 3 ≤ max _ _ + 3; omega), rfl⟩
          · have z := oneBox_ok (ns := leftOf ns 0) (told := told) rfl hy hky
            obtain ⟨b1, b2, b3⟩ := askF_ok (B := .eightR (oneBox (leftOf ns 0) told y)) ⟨z.1, z.2.2⟩ e
            exact ⟨b1, Nat.le_trans b2 (by show _ + 2 ≤ max _ _ + 3; have := z.2.1; omega), b3⟩
          · rename_i q x' l1 ex
            split at e
            · obtain ⟨a1, a2, a3⟩ := askF_ok hx ex
              obtain ⟨b1, b2, b3⟩ := askF_ok (B := .eight (withFirst ns q) (i + 1) j told x' y) ⟨rfl, a1, hy, a3 ▸ hkx, hky, by omega, hj⟩ e
              exact ⟨b1, Nat.le_trans b2 (by show max _ _ + 3 ≤ max _ _ + 3; omega), b3⟩
            · cases e
        · split at e
          · cases e
          · rename_i x' l1 ex
            cases e
            obtain ⟨a1, a2, a3⟩ := askF_ok hy ex
            exact ⟨⟨hl, hx, a1, hkx, a3 ▸ hky, hi, hj⟩, (by show max _ _ + 3 ≤ max _ _ + 3; omega), rfl⟩
          · rename_i x' l1 ex
            cases e
            obtain ⟨a1, a2, a3⟩ := askF_ok hy ex
            exact ⟨⟨hl, hx, a1, hkx, a3 ▸ hky, hi, hj⟩, (by show max _ _ + 3 ≤ max _ _ + 3; omega), rfl⟩
          · have z := oneBox_ok (ns := leftOf ns 1) (told := told) rfl hx hkx
            obtain ⟨b1, b2, b3⟩ := askF_ok (B := .eightR (oneBox (leftOf ns 1) told x)) ⟨z.1, z.2.2⟩ e
            exact ⟨b1, Nat.le_trans b2 (by show _ + 2 ≤ max _ _ + 3; have := z.2.1; omega), b3⟩
          · rename_i q x' l1 ex
            split at e
            · obtain ⟨a1, a2, a3⟩ := askF_ok hy ex
              obtain ⟨b1, b2, b3⟩ := askF_ok (B := .eight (withSecond ns q) i (j + 1) told x x') ⟨rfl, hx, a1, hkx, a3 ▸ hky, hi, by omega⟩ e
              exact ⟨b1, Nat.le_trans b2 (by show max _ _ + 3 ≤ max _ _ + 3; omega), b3⟩
            · cases e
    · cases e
  | n + 1, .eightR r, l, o, B', l', ok, e => by
    simp only [askF, Option.map_eq_some_iff] at e
    obtain ⟨⟨o1, r1, l1⟩, e1, e⟩ := e
    cases e
    obtain ⟨a1, a2, a3⟩ := askF_ok ok.1 e1
    exact ⟨⟨a1, by rw [a3]; exact ok.2⟩, Nat.add_le_add_right a2 2, rfl⟩
end
/-! ### boxes, asked -/
/-- what follows of a box's asking, at a, with the meter at m: none: NoValue is raised -/
def FinB (A : Ad) (K : PySem.W.Frag) (Q : VK) (E : XK) (H : Hp) (a m : Addr) (fp : List Addr) (l s : Int) (o : Option Ans) (B' : Box) (l' : Int) : Prop :=
  ∀ (H' : Hp) (fp' : List Addr), BoxAt A K H' B' a fp' → MeterAt A H' m l' (s + (l - l')) → m ∉ fp' → (∀ c z, H c = some z → c ∉ fp → c ≠ m → H' c = some z) → (∀ c ∈ fp', c ∈ fp ∨ H c = none) →
    match o with
    | none => E (.ref A.c_NoValue) none H'
    | some an => ∀ v, an.At A H' v → Q v H'
theorem FinB.step {A : Ad} {K : PySem.W.Frag} {Q : VK} {E : XK} {H H1 : Hp} {a m : Addr} {fp fp1 : List Addr} {l s l1 s1 : Int} {o : Option Ans} {B' : Box} {l' : Int} (k : FinB A K Q E H a m fp l s o B' l')
    (fr : ∀ c z, H c = some z → c ∉ fp → c ≠ m → H1 c = some z) (sub : ∀ c ∈ fp1, c ∈ fp ∨ H c = none) (es : s1 + l1 = s + l) : FinB A K Q E H1 a m fp1 l1 s1 o B' l' := by
  intro H' fp' hB hm nm fr' sub'
  refine k H' fp' hB (by rw [show s + (l - l') = s1 + (l1 - l') by omega]; exact hm) nm (fun c z e hc hcm => fr' c z (fr c z e hc hcm) (fun q => ?_) hcm) (fun c hc => ?_)
  · rcases sub c q with q | q
    · exact hc q
    · rw [q] at e; cases e
  · rcases sub' c hc with q | q
    · exact sub c q
    · cases ec : H c with
      | none => exact .inr rfl
      | some z =>
        rcases Decidable.em (c ∈ fp) with q1 | q1
        · exact .inl q1
        · have := fr c z ec q1 (fun q2 => nm (q2 ▸ hc))
          rw [q] at this
          cases this
/-- a box of the class kd, no heavier than d, asked -/
def spB (A : Ad) (K : PySem.W.Frag) (kd d : Nat) : Sp := fun vs H Q E => ∃ (a m : Addr) (fp : List Addr) (B : Box) (l s : Int) (n : Nat) (o : Option Ans) (B' : Box) (l' : Int), vs = [.ref a, .ref m] ∧ BoxAt A K H B a fp ∧ B.Ok ∧ B.wt ≤ d ∧ B.kind = kd ∧ MeterAt A H m l s ∧ m ∉ fp ∧ askF n B l = some (o, B', l') ∧
  FinB A K Q E H a m fp l s o B' l'
section
variable {P : Program} {w : World} {K : PySem.W.Frag} {mg : Str → Option Value} {base : Heap} {A : Ad}
theorem ok_ask_leaf (T : CT K mg A) (D : DT K mg A) (d : Nat) : MOk P w K mg base CX0 2 A.c_Leaf "ask" ["self", "meter"] (spB A K 0 d) := by
  obtain ⟨cl, f, fd, F, M, B⟩ := ok_Leaf_ask (P := P) (w := w) (base := base) T D
  refine ⟨cl, f, fd, F.imp fun vs H Q E h => ?_, M, B⟩
  obtain ⟨a, m, fp, B, l, s, n, o, B', l', rfl, hB, ok, _, hk, hm, nm, e, k⟩ := h
  cases B with
  | leaf ch =>
    cases n with
    | zero => cases e
    | succ n =>
      cases e
      obtain ⟨ca, rfl, hL, ne⟩ := hB
      have n1 : m ≠ a := fun z => nm (by simp [z])
      have n2 : m ≠ ca := fun z => nm (by simp [z])
      refine ⟨a, ca, m, ch, l, s, rfl, hL, ok, hm, ne, n1.symm, n2.symm, fun v H' hl hm' ha kp => ?_⟩
      refine k H' [a, ca] ⟨ca, rfl, hl, ne⟩ (by rw [show s + (l - (l - ch.took l)) = s + ch.took l by omega]; exact hm') nm (fun c o e hc hcm => kp c o e (fun z => hc (by simp [z])) hcm) (fun c hc => .inl hc) v ha
  | fb t b u => cases hk
  | four ns st told x => cases hk
  | fourR t b u => cases hk
  | eight ns i j told x y => cases hk
  | eightR r => cases hk
theorem fb_sub (T : CT K mg A) {t b : Int} {told : Bool} {r : Option Ans × Int × Int × Bool} {a dx m : Addr} {H : Hp} {Q : VK} {E : XK} (e : fbAsk t b told = some r) (ha : H a = some (.ins A.c_FractionBox dx (fbF t b told)))
    (k : ∀ H', H' a = some (.ins A.c_FractionBox dx (fbF r.2.1 r.2.2.1 r.2.2.2)) → (∀ c o, H c = some o → c ≠ a → H' c = some o) → match r.1 with
      | none => E (.ref A.c_NoValue) none H'
      | some an => ∀ v, an.At A H' v → Q v H') : sp_fb A K [.ref a, .ref m] H Q E := by
  unfold fbAsk at e
  split at e
  · rename_i hf
    refine ⟨a, dx, _, t, b, told, rfl, ha, hf.1, hf.2, fun hb ht => ?_, fun hb ht => ?_, fun hb v H' hv hA kp => ?_⟩
    · rw [if_pos hb, if_pos ht] at e
      cases e
      exact k H ha (fun c o e _ => e) _ rfl
    · rw [if_pos hb, if_neg (by rw [ht]; decide)] at e
      cases e
      exact k H ha (fun c o e _ => e)
    · rw [if_neg hb] at e
      cases e
      exact k H' hA kp _ ⟨_, rfl, hv⟩
  · cases e
theorem ok_ask_fb (T : CT K mg A) (D : DT K mg A) (d : Nat) : MOk P w K mg base (L2.CX P w) 2 A.c_FractionBox "ask" ["self", "meter"] (spB A K 1 d) := by
  obtain ⟨cl, f, fd, F, M, B⟩ := ok_FractionBox_ask (P := P) (w := w) (base := base) T D
  refine ⟨cl, f, fd, F.imp fun vs H Q E h => ?_, M, B⟩
  obtain ⟨a, m, fp, B, l, s, n, o, B', l', rfl, hB, ok, _, hk, hm, nm, e, k⟩ := h
  cases B with
  | fb t b told =>
    cases n with
    | zero => cases e
    | succ n =>
      simp only [askF, Option.map_eq_some_iff] at e
      obtain ⟨r, er, e⟩ := e
      cases e
      obtain ⟨dx, rfl, ha⟩ := hB
      obtain ⟨dm, em⟩ := hm
      have nma : m ≠ a := fun z => nm (by simp [z])
      refine fb_sub T er ha fun H' hA kp => ?_
      exact k H' [a] ⟨dx, rfl, hA⟩ ⟨dm, by rw [show s + (l - l) = s by omega]; exact kp _ _ em nma⟩ nm (fun c o e hc _ => kp c o e (fun z => hc (by simp [z]))) (fun c hc => .inl hc)
  | leaf ch => cases hk
  | four ns st told x => cases hk
  | fourR t b u => cases hk
  | eight ns i j told x y => cases hk
  | eightR r => cases hk
theorem Box.kinds (B : Box) : B.kind = 0 ∨ B.kind = 1 ∨ B.kind = 2 ∨ B.kind = 3 := by
  cases B <;> simp [Box.kind]
theorem BoxAt.cls {H : Hp} {B : Box} {a : Addr} {fp : List Addr} (h : BoxAt A K H B a fp) : ∃ C dx fs, H a = some (.ins C dx fs) ∧ fs.lookup ("ask" : Str) = none ∧ (B.kind = 0 → C = A.c_Leaf) ∧ (B.kind = 1 → C = A.c_FractionBox) ∧ (B.kind = 2 → C = A.c_FourBox) ∧ (B.kind = 3 → C = A.c_EightBox) := by
  cases B with
  | leaf c => obtain ⟨ca, rfl, ⟨⟨dx, e⟩, _⟩, _⟩ := h; exact ⟨_, _, _, e, rfl, fun _ => rfl, fun z => (by cases z), fun z => (by cases z), fun z => (by cases z)⟩
  | fb t b u => obtain ⟨dx, rfl, e⟩ := h; exact ⟨_, _, _, e, rfl, fun z => (by cases z), fun _ => rfl, fun z => (by cases z), fun z => (by cases z)⟩
  | four ns st told x => obtain ⟨dx, p, tx, fx, rfl, e, _⟩ := h; exact ⟨_, _, _, e, rfl, fun z => (by cases z), fun z => (by cases z), fun _ => rfl, fun z => (by cases z)⟩
  | fourR t b u => obtain ⟨dx, p, tx, st, told', r, dr, rfl, e, _⟩ := h; exact ⟨_, _, _, e, rfl, fun z => (by cases z), fun z => (by cases z), fun _ => rfl, fun z => (by cases z)⟩
  | eight ns i j told x y => obtain ⟨dx, p, t, l, tx, ty, fx, fy, rfl, e, _⟩ := h; exact ⟨_, _, _, e, rfl, fun z => (by cases z), fun z => (by cases z), fun z => (by cases z), fun _ => rfl⟩
  | eightR r => obtain ⟨dx, p, t, l, told, b, fr, rfl, e, _⟩ := h; exact ⟨_, _, _, e, rfl, fun z => (by cases z), fun z => (by cases z), fun z => (by cases z), fun _ => rfl⟩
theorem leaf_some {n : Nat} {B B' : Box} {l l' : Int} (hk : B.kind = 0) (e : askF n B l = some (none, B', l')) : False := by
  cases B <;> cases hk
  cases n with
  | zero => cases e
  | succ n => cases e
/-- a tree within, asked: by its class -/
theorem ask_any {σ : St} {H : Hp} {to : TE} {ta : TA} {Q : VK} {E : XK} {d : Nat} {tx m : Addr} {fx : List Addr} {x x' : Box} {l s l' : Int} {n : Nat} {o : Option Ans} (hto : ∀ R : VK, R (.ref tx) H → to σ H R) (hta : ∀ R : List V → Hp → Prop, R [.ref m] H → ta σ H R)
    (hB : BoxAt A K H x tx fx) (ok : x.Ok) (hw : x.wt ≤ d) (hk : x.kind ≠ 1) (hm : MeterAt A H m l s) (nm : m ∉ fx) (e : askF n x l = some (o, x', l')) (k : FinB A K Q E H tx m fx l s o x' l') :
    tMeth A.c_Leaf "ask" (spB A K 0 d) [] E0 to ta σ H Q ∨ tMeth A.c_FourBox "ask" (spB A K 2 d) [] E to ta σ H Q ∨ tMeth A.c_EightBox "ask" (spB A K 3 d) [] E to ta σ H Q := by
  obtain ⟨C, dx, fs, ec, hl, c0, c1, c2, c3⟩ := hB.cls
  rcases x.kinds with z | z | z | z
  · refine .inl (hto _ ⟨tx, dx, fs, rfl, by rw [← c0 z]; exact ec, hl, hta _ ⟨tx, m, fx, x, l, s, n, o, x', l', rfl, hB, ok, hw, z, hm, nm, e, ?_⟩⟩)
    cases o with
    | none => exact (leaf_some z e).elim
    | some an => exact k
  · exact absurd z hk
  · exact .inr (.inl (hto _ ⟨tx, dx, fs, rfl, by rw [← c2 z]; exact ec, hl, hta _ ⟨tx, m, fx, x, l, s, n, o, x', l', rfl, hB, ok, hw, z, hm, nm, e, k⟩⟩))
  · exact .inr (.inr (hto _ ⟨tx, dx, fs, rfl, by rw [← c3 z]; exact ec, hl, hta _ ⟨tx, m, fx, x, l, s, n, o, x', l', rfl, hB, ok, hw, z, hm, nm, e, k⟩⟩))
theorem ok_ask_four {d : Nat} (T : CT K mg A) (D : DT K mg A) (M_four : MOk P w K mg base (L2.CX P w) (6 + d) A.c_FourBox "ask" ["self", "meter"] (spB A K 2 d)) (M_eight : MOk P w K mg base (L2.CX P w) (6 + d) A.c_EightBox "ask" ["self", "meter"] (spB A K 3 d)) :
    MOk P w K mg base (L2.CX P w) (6 + (d + 1)) A.c_FourBox "ask" ["self", "meter"] (spB A K 2 (d + 1)) := by
  have M_leaf := ok_ask_leaf (P := P) (w := w) (base := base) T D d
  have M_fb := ok_FractionBox_ask (P := P) (w := w) (base := base) T D
  have M_tell := ok_FourBox_tell (P := P) (w := w) (base := base) T D
  have M_take := ok_FourBox_take (P := P) (w := w) (base := base) T D
  have G_sure_part := ok_sure_part (P := P) (w := w) (base := base) T D
  have G_four_corners := ok_four_corners (P := P) (w := w) (base := base) T D
  refine MOk.of T.cl_FourBox D.FourBox_ask fun f fd F => ?_
  refine F.okX (k := 6 + d) sc_FourBox_ask (fun vs H Q E h => ?_) (fun cdv Ar outer s H vs Q E hr h => ?_)
  · obtain ⟨a, m, fp, B, l, s, n, o, B', l', rfl, _⟩ := h
    rfl
  · obtain ⟨a, m, fp, B, l, sp, n, o, B', l', rfl, hB, ok, hw, hk, hm, nm, e, k⟩ := h
    refine ⟨_, (pss_cons (ps_while (passes_of rfl) (pt_cmpR op_isN (pe_fld (pv 0) rfl) pe_non (nomark _))
      (C8.pss_cut (ps_set (i := 2) sc_FourBox_ask.nd rfl (Or.inl rfl) (pe_ifExp (pt_val (pe_fld (pv 0) rfl)) (pe_c G_sure_part (hr.mono (by first | decide | omega)) (pa_cons (pe_c G_four_corners (hr.mono (by first | decide | omega)) (pa_cons (pe_fld (pv 0) rfl) pa_nil)) pa_nil)) pe_non))
    (pss_cons (ps_if (pt_cmpR op_notN (pv 2) pe_non (nomark _))
      (pss_one (ps_ret (pe_m M_tell (hr.mono (by first | decide | omega)) (pv 0) (pa_cons (pv 2) pa_nil)))) pss_nil)
    (pss_cons (ps_set (i := 3) sc_FourBox_ask.nd rfl (Or.inl rfl) ((pe_alt (pe_m M_leaf (hr.mono (by first | decide | omega)) (pe_fld (pv 0) rfl) (pa_cons (pv 1) pa_nil)) (pe_alt (pe_mX M_four (hr.mono (by first | decide | omega)) (passes_tk (takes_of rfl rfl rfl rfl)) (pe_fld (pv 0) rfl) (pa_cons (pv 1) pa_nil)) (pe_mX M_eight (hr.mono (by first | decide | omega)) (passes_tk (takes_of rfl rfl rfl rfl)) (pe_fld (pv 0) rfl) (pa_cons (pv 1) pa_nil))))))
    (pss_cons (ps_if (pt_cmpR (op_eqD hr.units) (pv 3) (pe_glob (v := .ref A.k_WAITS) (by rfl) T.g_WAITS rfl) (nomark _))
      (pss_one (ps_ret (pv 3))) pss_nil)
    (pss_one (ps_expr (pe_m M_take (hr.mono (by first | decide | omega)) (pv 0) (pa_cons (pv 3) pa_nil)))))))))
    (pss_one (ps_ret (pe_mX M_fb (hr.mono (by first | decide | omega)) (passes_tk (takes_of rfl rfl rfl rfl)) (pe_fld (pv 0) rfl) (pa_cons (pv 1) pa_nil))))), ?_⟩
    have cl := T.cl_FourBox
    refine ⟨fun n1 σ H1 => ∃ v2 v3 fp1 B1 l1 s1, σ = [some (V.ref a), some (V.ref m), v2, v3] ∧ BoxAt A K H1 B1 a fp1 ∧ B1.Ok ∧ B1.wt ≤ d + 1 ∧ B1.kind = 2 ∧ MeterAt A H1 m l1 s1 ∧ m ∉ fp1 ∧ askF n1 B1 l1 = some (o, B', l') ∧ FinB A K Q E H1 a m fp1 l1 s1 o B' l',
      ⟨n, none, none, fp, B, l, sp, rfl, hB, ok, hw, hk, hm, nm, e, k⟩, ?_⟩
    rintro n1 σ H1 ⟨v2, v3, fp1, B1, l1, s1, rfl, hB1, ok1, hw1, hk1, hm1, nm1, e1, k1⟩
    cases B1 with
    | leaf c => cases hk1
    | fb t b u => cases hk1
    | eight ns i j told x y => cases hk1
    | eightR r => cases hk1
    | fourR t b told =>
      obtain ⟨dx, p, tx, st, told', r, dr, rfl, ea, er, ne⟩ := hB1
      obtain ⟨dm, em⟩ := hm1
      refine ⟨_, rfl, a, _, dx, _, _, rfl, ea, cl, T.n_FourBox_rest, rfl, rfl, _, rfl, ite2 (fun c => ?_) (fun c => ?_)⟩
      · exact absurd (of_decide_eq_true c) (by intro z; cases z)
      · cases n1 with
        | zero => cases e1
        | succ n1 =>
          simp only [askF, Option.map_eq_some_iff] at e1
          obtain ⟨z, ez, e1⟩ := e1
          cases e1
          have nma : m ≠ a := fun z => nm1 (by simp [z])
          have nmr : m ≠ r := fun z => nm1 (by simp [z])
          refine ⟨_, rfl, a, _, dx, _, _, rfl, ea, cl, T.n_FourBox_rest, rfl, r, dr, _, rfl, er, rfl, _, rfl, fb_sub T ez er fun H' hA kp => ?_⟩
          exact k1 H' [a, r] ⟨dx, p, tx, st, told', r, dr, rfl, kp _ _ ea ne, hA, ne⟩ ⟨dm, by rw [Int.sub_self, Int.add_zero]; exact kp _ _ em nmr⟩ nm1 (fun c o e hc _ => kp c o e (fun z => hc (by simp [z]))) (fun c hc => .inl hc)
    | four ns st told x =>
      obtain ⟨dx, p, tx, fx, rfl, ea, hp, hx, na⟩ := hB1
      obtain ⟨hl4, okx, kx⟩ := ok1
      refine ⟨_, rfl, a, _, dx, _, _, rfl, ea, cl, T.n_FourBox_rest, rfl, rfl, _, rfl, ite2 (fun c => ?_) (fun c => absurd (decide_eq_true rfl) c)⟩
      cases n1 with
      | zero => cases e1
      | succ n1 =>
      simp only [askF] at e1
      split at e1
      case isFalse => cases e1
      rename_i hfit
      obtain ⟨hf, hcf⟩ := allFit_ns hfit
      refine ⟨_, fun σ' H' z => z, fun σ' H' => ∃ pv, σ' = [some (V.ref a), some (V.ref m), some pv, v3] ∧ Same H1 H' ∧ pv = (match (if st = true then surePart (fourCorners ns) else none) with | some q => V.int q | none => V.non), ?_, ?_⟩
      · refine ⟨_, rfl, a, _, dx, _, _, rfl, ea, cl, T.n_FourBox_started, rfl, st, rfl, ?_⟩
        cases st with
        | true => exact ⟨_, rfl, a, _, dx, _, _, rfl, ea, cl, T.n_FourBox_numbers, rfl, p, ns, rfl, hp, hl4, fun L H2 hc s2 => ⟨L, fourCorners ns, rfl, hc, (by show 0 < 2; decide), (by show 2 ≤ 4; decide), hcf, fun H3 s3 => ⟨_, rfl, s2.trans s3, rfl⟩⟩⟩
        | false => exact ⟨_, rfl, Same.refl H1, rfl⟩
      · rintro σ' H3 ⟨pv, rfl, s3, rfl⟩
        have ea3 := s3 _ _ ea
        have hp3 := sqT_same hp s3
        have hx3 := hx.same s3
        obtain ⟨dm, em⟩ := hm1
        have em3 := s3 _ _ em
        have nma : m ≠ a := fun z => nm1 (by simp [z])
        have nmx : m ∉ fx := fun z => nm1 (by simp [z])
        have k3 : FinB A K Q E H3 a m (a :: fx) l1 s1 o B' l' := k1.step (fun c z e _ _ => s3 c z e) (fun c hc => .inl hc) rfl
        cases es : (if st = true then surePart (fourCorners ns) else none) with
        | some q =>
          rw [es] at e1
          cases e1
          have fq : fits q := by
            cases st with
            | true => exact surePart_fits es hcf (by show 0 < 2; decide)
            | false => cases es
          refine ⟨_, rfl, rfl, _, rfl, ite2 (fun _ => ?_) (fun c => absurd rfl c)⟩
          refine ⟨_, rfl, a, dx, _, rfl, ea3, rfl, _, rfl, a, dx, p, tx, ns, st, told, q, rfl, ea3, hp3, hl4, hf, fq, fun r p' H4 hr4 ha4 hp4 kp => ?_⟩
          have hx4 := hx3.kept (N := fun c => c = a) (fun c o e n => kp c o e n) (fun c o e z => by subst e; rw [ea3] at z; exact ins_no (Option.some.inj z).symm) (fun c hc z => na (z ▸ hc))
          exact k3 H4 (a :: fx) ⟨dx, p', tx, fx, rfl, ha4, hp4, hx4, na⟩ ⟨dm, by rw [Int.sub_self, Int.add_zero]; exact kp _ _ em3 nma⟩ nm1 (fun c o e hc _ => kp c o e (fun z => hc (by simp [z]))) (fun c hc => .inl hc) _ ⟨r, rfl, hr4⟩
        | none =>
          rw [es] at e1
          simp only at e1
          refine ⟨_, rfl, rfl, _, rfl, ite2 (fun c => absurd c (by decide)) (fun _ => ?_)⟩
          cases ex : askF n1 x l1 with
          | none => rw [ex] at e1; cases e1
          | some z =>
            obtain ⟨ox, x', l2⟩ := z
            rw [ex] at e1
            obtain ⟨okx', wx', kx'⟩ := askF_ok okx ex
            refine ask_any (tx := tx) (m := m) (fx := fx) (x := x) (l := l1) (s := s1) (n := n1) (fun R h => ⟨_, rfl, a, _, dx, _, _, rfl, ea3, cl, T.n_FourBox_tree, rfl, h⟩) (fun R h => ⟨_, rfl, h⟩) hx3 okx (by show x.wt ≤ d; exact Nat.le_of_succ_le_succ hw1) kx ⟨dm, em3⟩ nmx ex fun H4 fx' hx4 hm4 nm4 fr4 sub4 => ?_
            have ea4 := fr4 _ _ ea3 na nma.symm
            have hp4 : SqT K H4 p (ns.map V.int) := sqT_but (N := fun c => c ∈ fx ∨ c = m) hp3 (fun c o e n => fr4 c o e (fun z => n (.inl z)) (fun z => n (.inr z))) fun c o z e => by
              rcases z with z | rfl
              · exact (hx3.soft c z).no e
              · rw [em3] at e; exact ins_no (Option.some.inj e).symm
            have na4 : a ∉ fx' := fun z => by
              rcases sub4 a z with q | q
              · exact na q
              · rw [ea3] at q; cases q
            have nm5 : m ∉ a :: fx' := fun z => by
              rcases List.mem_cons.mp z with q | q
              · exact nma q
              · exact nm4 q
            have fr5 : ∀ c z, H3 c = some z → c ∉ a :: fx → c ≠ m → H4 c = some z := fun c z e hc hcm => fr4 c z e (fun q => hc (List.mem_cons_of_mem _ q)) hcm
            have sub5 : ∀ c ∈ a :: fx', c ∈ a :: fx ∨ H3 c = none := fun c hc => by
              rcases List.mem_cons.mp hc with rfl | hc
              · exact .inl List.mem_cons_self
              · rcases sub4 c hc with q | q
                · exact .inl (List.mem_cons_of_mem _ q)
                · exact .inr q
            cases ox with
            | none =>
              cases e1
              exact k3 H4 (a :: fx') ⟨dx, p, tx, fx', rfl, ea4, hp4, hx4, na4⟩ hm4 nm5 fr5 sub5
            | some an =>
              intro v hv
              obtain ⟨pv', rfl, hpv⟩ := hv.tup T
              have hW : SqT K H4 A.k_WAITS Ans.waits.vals := T.t_WAITS H4
              refine ⟨_, rfl, _, _, an.dp hpv, Ans.waits.dp hW, an.shaped, Ans.waits.shaped, _, rfl, ?_⟩
              rw [eqv_waits]
              cases an with
              | waits =>
                cases e1
                exact iteT ⟨_, rfl, k3 H4 (a :: fx') ⟨dx, p, tx, fx', rfl, ea4, hp4, hx4, na4⟩ hm4 nm5 fr5 sub5 _ hv⟩
              | fin =>
                simp only at e1
                refine iteF ⟨_, rfl, a, dx, _, rfl, ea4, rfl, _, rfl, a, dx, p, tx, ns, st, told, _, .fin, rfl, hv, ea4, hp4, hl4, hf, fun r dr H5 ha5 hr5 nr5 kp5 => ?_⟩
                have nar : a ≠ r := ne_of_none ea4 nr5
                obtain ⟨dm4, em4⟩ := hm4
                have nmr : m ≠ r := ne_of_none em4 nr5
                refine ⟨n1, Nat.lt_succ_self _, _, _, [a, r], .fourR (ns.getD 0 0) (ns.getD 2 0) told, l2, s1 + (l1 - l2), rfl, ⟨dx, p, tx, st, told, r, dr, rfl, ha5, hr5, nar⟩, trivial, (by show 1 ≤ d + 1; omega), rfl, ⟨dm4, kp5 _ _ em4 nma⟩, ?_, e1, ?_⟩
                · intro z
                  simp only [List.mem_cons, List.not_mem_nil, or_false] at z
                  rcases z with z | z
                  · exact nma z
                  · exact nmr z
                · refine k3.step (fun c z e hc hcm => ?_) (fun c hc => ?_) (by omega)
                  · exact kp5 c z (fr5 c z e hc hcm) (fun q => hc (q ▸ List.mem_cons_self))
                  · simp only [List.mem_cons, List.not_mem_nil, or_false] at hc
                    rcases hc with rfl | rfl
                    · exact .inl List.mem_cons_self
                    · cases q : H3 c with
                      | none => exact .inr rfl
                      | some z =>
                        rcases Decidable.em (c ∈ a :: fx) with q1 | q1
                        · exact .inl q1
                        · have := fr5 c z q q1 nmr.symm
                          rw [nr5] at this
                          cases this
              | part q =>
                simp only at e1
                split at e1
                case isFalse => cases e1
                rename_i fq
                refine iteF ⟨_, rfl, a, dx, _, rfl, ea4, rfl, _, rfl, a, dx, p, tx, ns, st, told, _, .part q, rfl, hv, ea4, hp4, hl4, hf, fq, fun p' H5 ha5 hp5 kp5 => ?_⟩
                obtain ⟨dm4, em4⟩ := hm4
                have hx5 := hx4.kept (N := fun c => c = a) (fun c o e n => kp5 c o e n) (fun c o e z => by subst e; rw [ea4] at z; exact ins_no (Option.some.inj z).symm) (fun c hc z => na4 (z ▸ hc))
                refine ⟨n1, Nat.lt_succ_self _, _, _, a :: fx', .four (withOne ns q) true told x', l2, s1 + (l1 - l2), rfl, ⟨dx, p', tx, fx', rfl, ha5, hp5, hx5, na4⟩, ⟨rfl, okx', kx' ▸ kx⟩, (by show x'.wt + 1 ≤ d + 1; exact Nat.succ_le_succ (Nat.le_trans wx' (Nat.le_of_succ_le_succ hw1))), rfl, ⟨dm4, kp5 _ _ em4 nma⟩, nm5, e1, ?_⟩
                exact k3.step (fun c z e hc hcm => kp5 c z (fr5 c z e hc hcm) (fun q => hc (q ▸ List.mem_cons_self))) sub5 (by omega)
end
/-! ### eights, asked -/
section
variable {P : Program} {w : World} {K : PySem.W.Frag} {mg : Str → Option Value} {base : Heap} {A : Ad}
theorem oneIs_at {H : Hp} {p z r dr C : Addr} {ns : List Int} {told : Bool} {fs : Flds} {x : Box} {fx : List Addr} (one : OneIs A p z ns told C fs) (hr : H r = some (.ins C dr fs)) (hp : SqT K H p (ns.map V.int)) (hx : BoxAt A K H x z fx) (nr : r ∉ fx) :
    ∃ fr, BoxAt A K H (oneBox ns told x) r fr ∧ ∀ c ∈ fr, c = r ∨ c ∈ fx := by
  unfold oneBox
  rcases one with ⟨h1, rfl, rfl⟩ | ⟨h1, h2, rfl, rfl⟩ | ⟨h1, h2, rfl, rfl⟩
  · rw [if_pos h1]
    exact ⟨r :: fx, ⟨dr, p, z, fx, rfl, hr, hp, hx, nr⟩, fun c hc => List.mem_cons.mp hc⟩
  · rw [if_neg (fun q => q h1), if_pos h2]
    exact ⟨[r], ⟨dr, rfl, hr⟩, fun c hc => .inl (by simpa using hc)⟩
  · rw [if_neg (fun q => q h1), if_neg (fun q => q h2)]
    exact ⟨[r], ⟨dr, rfl, hr⟩, fun c hc => .inl (by simpa using hc)⟩
theorem ask_rest {σ : St} {H : Hp} {to : TE} {ta : TA} {Q : VK} {E : XK} {d : Nat} {tx m : Addr} {fx : List Addr} {x x' : Box} {l s l' : Int} {n : Nat} {o : Option Ans} (hto : ∀ R : VK, R (.ref tx) H → to σ H R) (hta : ∀ R : List V → Hp → Prop, R [.ref m] H → ta σ H R)
    (hB : BoxAt A K H x tx fx) (ok : x.Ok) (hw : x.wt ≤ d) (hk : x.kind = 1 ∨ x.kind = 2) (hm : MeterAt A H m l s) (nm : m ∉ fx) (e : askF n x l = some (o, x', l')) (k : FinB A K Q E H tx m fx l s o x' l') :
    tMeth A.c_FractionBox "ask" (spB A K 1 d) [] E to ta σ H Q ∨ tMeth A.c_FourBox "ask" (spB A K 2 d) [] E to ta σ H Q := by
  obtain ⟨C, dx, fs, ec, hl, c0, c1, c2, c3⟩ := hB.cls
  rcases hk with z | z
  · exact .inl (hto _ ⟨tx, dx, fs, rfl, by rw [← c1 z]; exact ec, hl, hta _ ⟨tx, m, fx, x, l, s, n, o, x', l', rfl, hB, ok, hw, z, hm, nm, e, k⟩⟩)
  · exact .inr (hto _ ⟨tx, dx, fs, rfl, by rw [← c2 z]; exact ec, hl, hta _ ⟨tx, m, fx, x, l, s, n, o, x', l', rfl, hB, ok, hw, z, hm, nm, e, k⟩⟩)
theorem ok_ask_eight {d : Nat} (T : CT K mg A) (D : DT K mg A) (M_four : MOk P w K mg base (L2.CX P w) (6 + (d + 1)) A.c_FourBox "ask" ["self", "meter"] (spB A K 2 (d + 1))) (M_eight : MOk P w K mg base (L2.CX P w) (6 + (d + 1)) A.c_EightBox "ask" ["self", "meter"] (spB A K 3 (d + 1))) :
    MOk P w K mg base (L2.CX P w) (6 + (d + 2)) A.c_EightBox "ask" ["self", "meter"] (spB A K 3 (d + 2)) := by
  have M_leaf := ok_ask_leaf (P := P) (w := w) (base := base) T D (d + 1)
  have M_fb := ok_ask_fb (P := P) (w := w) (base := base) T D (d + 1)
  have M_tell := ok_EightBox_tell (P := P) (w := w) (base := base) T D
  have M_take := ok_EightBox_take (P := P) (w := w) (base := base) T D
  have G_sure_part := ok_sure_part (P := P) (w := w) (base := base) T D
  have G_eight_corners := ok_eight_corners (P := P) (w := w) (base := base) T D
  refine MOk.of T.cl_EightBox D.EightBox_ask fun f fd F => ?_
  refine F.okX (k := 6 + (d + 1)) sc_EightBox_ask (fun vs H Q E h => ?_) (fun cdv Ar outer s H vs Q E hr h => ?_)
  · obtain ⟨a, m, fp, B, l, s, n, o, B', l', rfl, _⟩ := h
    rfl
  · obtain ⟨a, m, fp, B, l, sp, n, o, B', l', rfl, hB, ok, hw, hk, hm, nm, e, k⟩ := h
    refine ⟨_, (pss_cons (ps_while (passes_of rfl) (pt_cmpR op_isN (pe_fld (pv 0) rfl) pe_non (nomark _))
      (C8.pss_cut (ps_set (i := 2) sc_EightBox_ask.nd rfl (Or.inl rfl) (pe_ifExp (pt_cmpR op_gt (pe_callB (cr_min rfl) (by rfl) T.b_min (by decide +kernel) (pa_cons (pe_fld (pv 0) rfl) pa_nil)) pe_int (nomark _)) (pe_c G_sure_part (hr.mono (by first | decide | omega)) (pa_cons (pe_c G_eight_corners (hr.mono (by first | decide | omega)) (pa_cons (pe_fld (pv 0) rfl) pa_nil)) pa_nil)) pe_non))
    (pss_cons (ps_if (pt_cmpR op_notN (pv 2) pe_non (nomark _))
      (pss_one (ps_ret (pe_m M_tell (hr.mono (by first | decide | omega)) (pv 0) (pa_cons (pv 2) pa_nil)))) pss_nil)
    (C8.pss_cut (ps_set (i := 3) sc_EightBox_ask.nd rfl (Or.inl rfl) (pe_ifExp (pt_cmpR op_le (pe_ix ix_list (pe_fld (pv 0) rfl) pe_int (fun _ _ => rfl)) (pe_ix ix_list (pe_fld (pv 0) rfl) pe_int (fun _ _ => rfl)) (nomark _)) pe_int pe_int))
    (pss_cons (ps_set (i := 4) sc_EightBox_ask.nd rfl (Or.inl rfl) ((pe_alt (pe_m M_leaf (hr.mono (by first | decide | omega)) (pe_ix ix_tup (pe_fld (pv 0) rfl) (pv 3) (fun _ _ => rfl)) (pa_cons (pv 1) pa_nil)) (pe_alt (pe_mX M_four (hr.mono (by first | decide | omega)) (passes_tk (takes_of rfl rfl rfl rfl)) (pe_ix ix_tup (pe_fld (pv 0) rfl) (pv 3) (fun _ _ => rfl)) (pa_cons (pv 1) pa_nil)) (pe_mX M_eight (hr.mono (by first | decide | omega)) (passes_tk (takes_of rfl rfl rfl rfl)) (pe_ix ix_tup (pe_fld (pv 0) rfl) (pv 3) (fun _ _ => rfl)) (pa_cons (pv 1) pa_nil))))))
    (pss_cons (ps_if (pt_cmpR (op_eqD hr.units) (pv 4) (pe_glob (v := .ref A.k_WAITS) (by rfl) T.g_WAITS rfl) (nomark _))
      (pss_one (ps_ret (pv 4))) pss_nil)
    (pss_one (ps_expr (pe_m M_take (hr.mono (by first | decide | omega)) (pv 0) (pa_cons (pv 3) (pa_cons (pv 4) pa_nil)))))))))))
    (pss_one (ps_ret ((pe_alt (pe_mX M_fb (hr.mono (by first | decide | omega)) (passes_tk (takes_of rfl rfl rfl rfl)) (pe_fld (pv 0) rfl) (pa_cons (pv 1) pa_nil)) (pe_mX M_four (hr.mono (by first | decide | omega)) (passes_tk (takes_of rfl rfl rfl rfl)) (pe_fld (pv 0) rfl) (pa_cons (pv 1) pa_nil))))))), ?_⟩
    have cl := T.cl_EightBox
    refine ⟨fun n1 σ H1 => ∃ v2 v3 v4 fp1 B1 l1 s1, σ = [some (V.ref a), some (V.ref m), v2, v3, v4] ∧ BoxAt A K H1 B1 a fp1 ∧ B1.Ok ∧ B1.wt ≤ d + 2 ∧ B1.kind = 3 ∧ MeterAt A H1 m l1 s1 ∧ m ∉ fp1 ∧ askF n1 B1 l1 = some (o, B', l') ∧ FinB A K Q E H1 a m fp1 l1 s1 o B' l',
      ⟨n, none, none, none, fp, B, l, sp, rfl, hB, ok, hw, hk, hm, nm, e, k⟩, ?_⟩
    rintro n1 σ H1 ⟨v2, v3, v4, fp1, B1, l1, s1, rfl, hB1, ok1, hw1, hk1, hm1, nm1, e1, k1⟩
    cases B1 with
    | leaf c => cases hk1
    | fb t b u => cases hk1
    | four ns st told x => cases hk1
    | fourR t b told => cases hk1
    | eightR r =>
      obtain ⟨dx, p, t, L, told, b, fr, rfl, ea, hr1, na⟩ := hB1
      refine ⟨_, rfl, a, _, dx, _, _, rfl, ea, cl, T.n_EightBox_rest, rfl, rfl, _, rfl, ite2 (fun c => ?_) (fun c => ?_)⟩
      · exact absurd (of_decide_eq_true c) (by intro z; cases z)
      · cases n1 with
        | zero => cases e1
        | succ n1 =>
          simp only [askF, Option.map_eq_some_iff] at e1
          obtain ⟨⟨o1, r1, l2⟩, er, e1⟩ := e1
          cases e1
          have nma : m ≠ a := fun z => nm1 (by simp [z])
          have nmr : m ∉ fr := fun z => nm1 (by simp [z])
          refine ask_rest (tx := b) (m := m) (fx := fr) (x := r) (l := l1) (s := s1) (n := n1) (fun R h => ⟨_, rfl, a, _, dx, _, _, rfl, ea, cl, T.n_EightBox_rest, rfl, h⟩) (fun R h => ⟨_, rfl, h⟩) hr1 ok1.1 (by have : r.wt + 2 ≤ d + 2 := hw1; omega) ok1.2 hm1 nmr er fun H4 fr' hr4 hm4 nm4 fr4 sub4 => ?_
          have ea4 := fr4 _ _ ea na nma.symm
          refine k1 H4 (a :: fr') ⟨dx, p, t, L, told, b, fr', rfl, ea4, hr4, fun z => ?_⟩ hm4 (fun z => ?_) (fun c z e hc hcm => fr4 c z e (fun q => hc (List.mem_cons_of_mem _ q)) hcm) (fun c hc => ?_)
          · rcases sub4 a z with q | q
            · exact na q
            · rw [ea] at q; cases q
          · rcases List.mem_cons.mp z with q | q
            · exact nma q
            · exact nm4 q
          · rcases List.mem_cons.mp hc with rfl | hc
            · exact .inl List.mem_cons_self
            · rcases sub4 c hc with q | q
              · exact .inl (List.mem_cons_of_mem _ q)
              · exact .inr q
    | eight ns i j told x y =>
      obtain ⟨dx, p, t, L, tx, ty, fx, fy, rfl, ea, hp, ht, hL, hx, hy, na1, na2, nl1, nl2, dj0⟩ := hB1
      obtain ⟨hl8, okx, oky, kx, ky, hi, hj⟩ := ok1
      have hwE : max x.wt y.wt + 3 ≤ d + 2 := hw1
      have wx : x.wt ≤ d + 1 := by omega
      have wy : y.wt ≤ d + 1 := by omega
      refine ⟨_, rfl, a, _, dx, _, _, rfl, ea, cl, T.n_EightBox_rest, rfl, rfl, _, rfl, ite2 (fun c => ?_) (fun c => absurd (decide_eq_true rfl) c)⟩
      cases n1 with
      | zero => cases e1
      | succ n1 =>
      simp only [askF] at e1
      split at e1
      case isFalse => cases e1
      rename_i hfit
      obtain ⟨hf, hcf⟩ := allFit_ns hfit
      refine ⟨_, fun σ' H' z => z, fun σ' H' => ∃ pv, σ' = [some (V.ref a), some (V.ref m), some pv, v3, v4] ∧ Same H1 H' ∧ pv = (match (if 0 < i ∧ 0 < j then surePart (eightCorners ns) else none) with | some q => V.int q | none => V.non), ?_, ?_⟩
      · refine ⟨_, rfl, a, _, dx, _, _, rfl, ea, cl, T.n_EightBox_taken, rfl, L, [i, j], rfl, SqL.of hL, (by show 0 < 2; decide), fun mn hmn hmin => ⟨_, _, rfl, rfl, _, rfl, ite2 (fun c => ?_) (fun c => ?_)⟩⟩
        · have c' : mn > 0 := of_decide_eq_true c
          have h1 := hmin i (by simp)
          have h2 := hmin j (by simp)
          rw [if_pos (show 0 < i ∧ 0 < j by omega)]
          exact ⟨_, rfl, a, _, dx, _, _, rfl, ea, cl, T.n_EightBox_numbers, rfl, p, ns, rfl, hp, hl8, fun Lc H2 hc s2 => ⟨Lc, eightCorners ns, rfl, hc, (by show 0 < 4; decide), (by show 4 ≤ 4; decide), hcf, fun H3 s3 => ⟨_, rfl, s2.trans s3, rfl⟩⟩⟩
        · have c' : ¬ mn > 0 := fun z => c (decide_eq_true z)
          rw [if_neg (show ¬ (0 < i ∧ 0 < j) from fun z => by
            simp only [List.mem_cons, List.not_mem_nil, or_false] at hmn
            rcases hmn with rfl | rfl <;> omega)]
          exact ⟨_, rfl, Same.refl H1, rfl⟩
      · rintro σ' H3 ⟨pv, rfl, s3, rfl⟩
        have ea3 := s3 _ _ ea
        have hp3 := sqT_same hp s3
        have ht3 := sqT_same ht s3
        have hL3 := s3 _ _ hL
        have hx3 := hx.same s3
        have hy3 := hy.same s3
        obtain ⟨dm, em⟩ := hm1
        have em3 := s3 _ _ em
        have nma : m ≠ a := fun z => nm1 (by simp [z])
        have nml : m ≠ L := fun z => nm1 (by simp [z])
        have nmx : m ∉ fx := fun z => nm1 (by simp [z])
        have nmy : m ∉ fy := fun z => nm1 (by simp [z])
        have k3 : FinB A K Q E H3 a m (a :: L :: (fx ++ fy)) l1 s1 o B' l' := k1.step (fun c z e _ _ => s3 c z e) (fun c hc => .inl hc) rfl
        cases es : (if 0 < i ∧ 0 < j then surePart (eightCorners ns) else none) with
        | some q =>
          rw [es] at e1
          cases e1
          have fq : fits q := by
            split at es
            · exact surePart_fits es hcf (by show 0 < 4; decide)
            · cases es
          refine ⟨_, rfl, rfl, _, rfl, ite2 (fun _ => ?_) (fun c => absurd rfl c)⟩
          refine ⟨_, rfl, a, dx, _, rfl, ea3, rfl, _, rfl, a, dx, p, t, L, ns, told, q, rfl, ea3, hp3, hl8, hf, fq, fun r p' H4 hr4 ha4 hp4 kp => ?_⟩
          have sf : ∀ c o, c = a → H3 c = some o → (∀ ys, o ≠ .tup ys) ∧ ∀ ob u, o ≠ .frz ob u := fun c o e z => by subst e; rw [ea3] at z; exact ins_no (Option.some.inj z).symm
          have hx4 := hx3.kept (N := fun c => c = a) (fun c o e n => kp c o e n) sf (fun c hc z => na1 (z ▸ hc))
          have hy4 := hy3.kept (N := fun c => c = a) (fun c o e n => kp c o e n) sf (fun c hc z => na2 (z ▸ hc))
          have ht4 := sqT_but (N := fun c => c = a) ht3 (fun c o e n => kp c o e n) sf
          have nLa : L ≠ a := ne_of hL3 ea3 (by intro z; cases z)
          exact k3 H4 (a :: L :: (fx ++ fy)) ⟨dx, p', t, L, tx, ty, fx, fy, rfl, ha4, hp4, ht4, kp _ _ hL3 nLa, hx4, hy4, na1, na2, nl1, nl2, dj0⟩ ⟨dm, by rw [Int.sub_self, Int.add_zero]; exact kp _ _ em3 nma⟩ nm1 (fun c o e hc _ => kp c o e (fun z => hc (by simp [z]))) (fun c hc => .inl hc) _ ⟨r, rfl, hr4⟩
        | none =>
          rw [es] at e1
          simp only at e1
          refine ⟨_, rfl, rfl, _, rfl, ite2 (fun c => absurd c (by decide)) (fun _ => ?_)⟩
          refine ⟨fun σ' H' => H3 = H' ∧ σ' = [some (V.ref a), some (V.ref m), some V.non, some (V.int (if i ≤ j then 0 else 1)), v4], ?_, ?_⟩
          · refine ⟨_, rfl, a, _, dx, _, _, rfl, ea3, cl, T.n_EightBox_taken, rfl, L, _, 0, _, rfl, rfl, SqL.of hL3, atI_nat (j := 0) rfl, _, rfl, a, _, dx, _, _, rfl, ea3, cl, T.n_EightBox_taken, rfl, L, _, 1, _, rfl, rfl, SqL.of hL3, atI_nat (j := 1) rfl, _, _, rfl, rfl, _, rfl, ite2 (fun c => ?_) (fun c => ?_)⟩
            · rw [if_pos (of_decide_eq_true c)]
              exact ⟨rfl, rfl⟩
            · rw [if_neg (fun z => c (decide_eq_true z))]
              exact ⟨rfl, rfl⟩
          rintro σ' H3' ⟨rfl, rfl⟩
          split at e1
          · rename_i cij
            rw [if_pos cij]
            cases ex : askF n1 x l1 with
            | none => rw [ex] at e1; cases e1
            | some z =>
              obtain ⟨ox, x', l2⟩ := z
              rw [ex] at e1
              obtain ⟨okc', wc', kc'⟩ := askF_ok okx ex
              refine ask_any (tx := tx) (m := m) (fx := fx) (x := x) (l := l1) (s := s1) (n := n1) (fun R h => ⟨_, rfl, a, _, dx, _, _, rfl, ea3, cl, T.n_EightBox_trees, rfl, _, rfl, t, _, 0, _, rfl, rfl, ht3, atI_nat (j := 0) rfl, h⟩) (fun R h => ⟨_, rfl, h⟩) hx3 okx wx kx ⟨dm, em3⟩ nmx ex fun H4 fc' hc4 hm4 nm4 fr4 sub4 => ?_
              have ea4 := fr4 _ _ ea3 na1 nma.symm
              have hL4 := fr4 _ _ hL3 nl1 nml.symm
              have soft4 : ∀ c o, (c ∈ fx ∨ c = m) → H3 c = some o → (∀ ys, o ≠ .tup ys) ∧ ∀ ob u, o ≠ .frz ob u := fun c o z e => by
                rcases z with z | rfl
                · exact (hx3.soft c z).no e
                · rw [em3] at e; exact ins_no (Option.some.inj e).symm
              have frN : ∀ c o, H3 c = some o → ¬ (c ∈ fx ∨ c = m) → H4 c = some o := fun c o e n => fr4 c o e (fun z => n (.inl z)) (fun z => n (.inr z))
              have hp4 : SqT K H4 p (ns.map V.int) := sqT_but hp3 frN soft4
              have ht4 : SqT K H4 t [.ref tx, .ref ty] := sqT_but ht3 frN soft4
              have ho4 := hy3.kept frN soft4 (fun c hc z => by
                rcases z with z | rfl
                · exact dj0 c z hc
                · exact nmy hc)
              have old : ∀ c z, H3 c = some z → c ∉ fx → c ∉ fc' := fun c z e hn q => by
                rcases sub4 c q with q | q
                · exact hn q
                · rw [e] at q; cases q
              have nac : a ∉ fc' := old _ _ ea3 na1
              have nlc : L ∉ fc' := old _ _ hL3 nl1
              have dj : ∀ c ∈ fc', c ∉ fy := fun c hc hd => by
                obtain ⟨z, ez⟩ : ∃ z, H3 c = some z := by
                  rcases hy3.soft c hd with ⟨_, _, _, q⟩ | ⟨_, q⟩
                  · exact ⟨_, q⟩
                  · exact ⟨_, q⟩
                exact old c z ez (fun q => dj0 c q hd) hc
              have nm5 : m ∉ a :: L :: (fc' ++ fy) := fun z => by
                simp only [List.mem_cons, List.mem_append] at z
                rcases z with z | z | z | z
                · exact nma z
                · exact nml z
                · exact nm4 z
                · exact nmy z
              have fr5 : ∀ c z, H3 c = some z → c ∉ a :: L :: (fx ++ fy) → c ≠ m → H4 c = some z := fun c z e hc hcm => fr4 c z e (fun q => hc (by simp [q])) hcm
              have sub5 : ∀ c ∈ a :: L :: (fc' ++ fy), c ∈ a :: L :: (fx ++ fy) ∨ H3 c = none := fun c hc => by
                simp only [List.mem_cons, List.mem_append] at hc ⊢
                rcases hc with z | z | z | z
                · exact .inl (.inl z)
                · exact .inl (.inr (.inl z))
                · rcases sub4 c z with q | q
                  · exact .inl (.inr (.inr (.inl q)))
                  · exact .inr q
                · exact .inl (.inr (.inr (.inr z)))


              cases ox with
              | none =>
                cases e1
                exact k3 H4 (a :: L :: (fc' ++ fy)) ⟨dx, p, t, L, tx, ty, fc', fy, rfl, ea4, hp4, ht4, hL4, hc4, ho4, nac, na2, nlc, nl2, dj⟩ hm4 nm5 fr5 sub5
              | some an =>
                intro v hv
                obtain ⟨pv', rfl, hpv⟩ := hv.tup T
                have hW : SqT K H4 A.k_WAITS Ans.waits.vals := T.t_WAITS H4
                refine ⟨_, rfl, _, _, an.dp hpv, Ans.waits.dp hW, an.shaped, Ans.waits.shaped, _, rfl, ?_⟩
                rw [eqv_waits]
                cases an with
                | waits =>
                  cases e1
                  exact iteT ⟨_, rfl, k3 H4 (a :: L :: (fc' ++ fy)) ⟨dx, p, t, L, tx, ty, fc', fy, rfl, ea4, hp4, ht4, hL4, hc4, ho4, nac, na2, nlc, nl2, dj⟩ hm4 nm5 fr5 sub5 _ hv⟩
                | fin =>
                  simp only at e1
                  refine iteF ⟨_, rfl, a, dx, _, rfl, ea4, rfl, _, rfl, _, rfl, a, dx, p, t, L, tx, ty, ns, told, 0, i, j, _, .fin, rfl, by decide, hv, ea4, hp4, ht4, hL4, hl8, hf, fun p' r dr C fs H5 hp5 nr5 ha5 kp5 hr5 one => ?_⟩
                  obtain ⟨dm4, em4⟩ := hm4
                  have nar : a ≠ r := ne_of_none ea4 nr5
                  have nmr : m ≠ r := ne_of_none em4 nr5
                  have ho5 := ho4.kept (N := fun c => c = a) (fun c o e n => kp5 c o e n) (fun c o e z => by subst e; rw [ea4] at z; exact ins_no (Option.some.inj z).symm) (fun c hc z => na2 (z ▸ hc))
                  have nro : r ∉ fy := fun z => by
                    rcases ho4.soft r z with ⟨_, _, _, q⟩ | ⟨_, q⟩
                    · rw [nr5] at q; cases q
                    · rw [nr5] at q; cases q
                  obtain ⟨fr, hr6, sub6⟩ := oneIs_at one hr5 hp5 ho5 nro
                  have z6 := oneBox_ok (ns := leftOf ns 0) (told := told) rfl oky ky
                  refine ⟨n1, Nat.lt_succ_self _, _, _, _, a :: fr, .eightR (oneBox (leftOf ns 0) told y), l2, s1 + (l1 - l2), rfl, ⟨dx, p, t, L, told, r, fr, rfl, ha5, hr6, ?_⟩, ⟨z6.1, z6.2.2⟩, (by show _ + 2 ≤ d + 2; have := z6.2.1; omega), rfl, ⟨dm4, kp5 _ _ em4 nma⟩, ?_, e1, ?_⟩
                  · intro z
                    rcases sub6 a z with q | q
                    · exact nar q
                    · exact na2 q
                  · intro z
                    rcases List.mem_cons.mp z with q | q
                    · exact nma q
                    · rcases sub6 m q with q | q
                      · exact nmr q
                      · exact nmy q
                  · refine k3.step (fun c z e hc hcm => ?_) (fun c hc => ?_) (by omega)
                    · exact kp5 c z (fr5 c z e hc hcm) (fun q => hc (q ▸ List.mem_cons_self))
                    · rcases List.mem_cons.mp hc with rfl | hc
                      · exact .inl List.mem_cons_self
                      · rcases sub6 c hc with rfl | q
                        · cases q : H3 c with
                          | none => exact .inr rfl
                          | some z =>
                            rcases Decidable.em (c ∈ a :: L :: (fx ++ fy)) with q1 | q1
                            · exact .inl q1
                            · have := fr5 c z q q1 nmr.symm
                              rw [nr5] at this
                              cases this
                        · exact .inl (by simp [q])
                | part q =>
                  simp only at e1
                  split at e1
                  case isFalse => cases e1
                  rename_i fq
                  refine iteF ⟨_, rfl, a, dx, _, rfl, ea4, rfl, _, rfl, _, rfl, a, dx, p, t, L, tx, ty, ns, told, 0, i, j, _, .part q, rfl, by decide, hv, ea4, hp4, ht4, hL4, hl8, hf, fq, fun p' H5 ha5 hp5 hL5 kp5 => ?_⟩
                  obtain ⟨dm4, em4⟩ := hm4
                  have frN5 : ∀ c o, H4 c = some o → ¬ (c = a ∨ c = L) → H5 c = some o := fun c o e n => kp5 c o e (fun z => n (.inl z)) (fun z => n (.inr z))
                  have soft5 : ∀ c o, (c = a ∨ c = L) → H4 c = some o → (∀ ys, o ≠ .tup ys) ∧ ∀ ob u, o ≠ .frz ob u := fun c o z e => by
                    rcases z with rfl | rfl
                    · exact Soft.no (.inl ⟨_, _, _, ea4⟩) e
                    · exact Soft.no (.inr ⟨_, hL4⟩) e
                  have hc5 := hc4.kept frN5 soft5 (fun c hc z => by
                    rcases z with rfl | rfl
                    · exact nac hc
                    · exact nlc hc)
                  have ho5 := ho4.kept frN5 soft5 (fun c hc z => by
                    rcases z with rfl | rfl
                    · exact na2 hc
                    · exact nl2 hc)
                  have ht5 : SqT K H5 t [.ref tx, .ref ty] := sqT_but ht4 frN5 soft5
                  refine ⟨n1, Nat.lt_succ_self _, _, _, _, a :: L :: (fc' ++ fy), .eight (withFirst ns q) (i + 1) j told x' y, l2, s1 + (l1 - l2), rfl, ⟨dx, p', t, L, tx, ty, fc', fy, rfl, ha5, hp5, ht5, hL5, hc5, ho5, nac, na2, nlc, nl2, dj⟩, ⟨rfl, okc', oky, kc' ▸ kx, ky, by omega, hj⟩, (by show max _ _ + 3 ≤ d + 2; omega), rfl, ⟨dm4, kp5 _ _ em4 nma nml⟩, nm5, e1, ?_⟩
                  exact k3.step (fun c z e hc hcm => kp5 c z (fr5 c z e hc hcm) (fun q => hc (by simp [q])) (fun q => hc (by simp [q]))) sub5 (by omega)
          · rename_i cij
            rw [if_neg cij]
            cases ex : askF n1 y l1 with
            | none => rw [ex] at e1; cases e1
            | some z =>
              obtain ⟨ox, x', l2⟩ := z
              rw [ex] at e1
              obtain ⟨okc', wc', kc'⟩ := askF_ok oky ex
              refine ask_any (tx := ty) (m := m) (fx := fy) (x := y) (l := l1) (s := s1) (n := n1) (fun R h => ⟨_, rfl, a, _, dx, _, _, rfl, ea3, cl, T.n_EightBox_trees, rfl, _, rfl, t, _, 1, _, rfl, rfl, ht3, atI_nat (j := 1) rfl, h⟩) (fun R h => ⟨_, rfl, h⟩) hy3 oky wy ky ⟨dm, em3⟩ nmy ex fun H4 fc' hc4 hm4 nm4 fr4 sub4 => ?_
              have ea4 := fr4 _ _ ea3 na2 nma.symm
              have hL4 := fr4 _ _ hL3 nl2 nml.symm
              have soft4 : ∀ c o, (c ∈ fy ∨ c = m) → H3 c = some o → (∀ ys, o ≠ .tup ys) ∧ ∀ ob u, o ≠ .frz ob u := fun c o z e => by
                rcases z with z | rfl
                · exact (hy3.soft c z).no e
                · rw [em3] at e; exact ins_no (Option.some.inj e).symm
              have frN : ∀ c o, H3 c = some o → ¬ (c ∈ fy ∨ c = m) → H4 c = some o := fun c o e n => fr4 c o e (fun z => n (.inl z)) (fun z => n (.inr z))
              have hp4 : SqT K H4 p (ns.map V.int) := sqT_but hp3 frN soft4
              have ht4 : SqT K H4 t [.ref tx, .ref ty] := sqT_but ht3 frN soft4
              have ho4 := hx3.kept frN soft4 (fun c hc z => by
                rcases z with z | rfl
                · exact dj0 c hc z
                · exact nmx hc)
              have old : ∀ c z, H3 c = some z → c ∉ fy → c ∉ fc' := fun c z e hn q => by
                rcases sub4 c q with q | q
                · exact hn q
                · rw [e] at q; cases q
              have nac : a ∉ fc' := old _ _ ea3 na2
              have nlc : L ∉ fc' := old _ _ hL3 nl2
              have dj : ∀ c ∈ fc', c ∉ fx := fun c hc hd => by
                obtain ⟨z, ez⟩ : ∃ z, H3 c = some z := by
                  rcases hx3.soft c hd with ⟨_, _, _, q⟩ | ⟨_, q⟩
                  · exact ⟨_, q⟩
                  · exact ⟨_, q⟩
                exact old c z ez (fun q => dj0 c hd q) hc
              have nm5 : m ∉ a :: L :: (fx ++ fc') := fun z => by
                simp only [List.mem_cons, List.mem_append] at z
                rcases z with z | z | z | z
                · exact nma z
                · exact nml z
                · exact nmx z
                · exact nm4 z
              have fr5 : ∀ c z, H3 c = some z → c ∉ a :: L :: (fx ++ fy) → c ≠ m → H4 c = some z := fun c z e hc hcm => fr4 c z e (fun q => hc (by simp [q])) hcm
              have sub5 : ∀ c ∈ a :: L :: (fx ++ fc'), c ∈ a :: L :: (fx ++ fy) ∨ H3 c = none := fun c hc => by
                simp only [List.mem_cons, List.mem_append] at hc ⊢
                rcases hc with z | z | z | z
                · exact .inl (.inl z)
                · exact .inl (.inr (.inl z))
                · exact .inl (.inr (.inr (.inl z)))


                · rcases sub4 c z with q | q
                  · exact .inl (.inr (.inr (.inr q)))
                  · exact .inr q
              cases ox with
              | none =>
                cases e1
                exact k3 H4 (a :: L :: (fx ++ fc')) ⟨dx, p, t, L, tx, ty, fx, fc', rfl, ea4, hp4, ht4, hL4, ho4, hc4, na1, nac, nl1, nlc, fun c h1 h2 => dj c h2 h1⟩ hm4 nm5 fr5 sub5
              | some an =>
                intro v hv
                obtain ⟨pv', rfl, hpv⟩ := hv.tup T
                have hW : SqT K H4 A.k_WAITS Ans.waits.vals := T.t_WAITS H4
                refine ⟨_, rfl, _, _, an.dp hpv, Ans.waits.dp hW, an.shaped, Ans.waits.shaped, _, rfl, ?_⟩
                rw [eqv_waits]
                cases an with
                | waits =>
                  cases e1
                  exact iteT ⟨_, rfl, k3 H4 (a :: L :: (fx ++ fc')) ⟨dx, p, t, L, tx, ty, fx, fc', rfl, ea4, hp4, ht4, hL4, ho4, hc4, na1, nac, nl1, nlc, fun c h1 h2 => dj c h2 h1⟩ hm4 nm5 fr5 sub5 _ hv⟩
                | fin =>
                  simp only at e1
                  refine iteF ⟨_, rfl, a, dx, _, rfl, ea4, rfl, _, rfl, _, rfl, a, dx, p, t, L, tx, ty, ns, told, 1, i, j, _, .fin, rfl, by decide, hv, ea4, hp4, ht4, hL4, hl8, hf, fun p' r dr C fs H5 hp5 nr5 ha5 kp5 hr5 one => ?_⟩
                  obtain ⟨dm4, em4⟩ := hm4
                  have nar : a ≠ r := ne_of_none ea4 nr5
                  have nmr : m ≠ r := ne_of_none em4 nr5
                  have ho5 := ho4.kept (N := fun c => c = a) (fun c o e n => kp5 c o e n) (fun c o e z => by subst e; rw [ea4] at z; exact ins_no (Option.some.inj z).symm) (fun c hc z => na1 (z ▸ hc))
                  have nro : r ∉ fx := fun z => by
                    rcases ho4.soft r z with ⟨_, _, _, q⟩ | ⟨_, q⟩
                    · rw [nr5] at q; cases q
                    · rw [nr5] at q; cases q
                  obtain ⟨fr, hr6, sub6⟩ := oneIs_at one hr5 hp5 ho5 nro
                  have z6 := oneBox_ok (ns := leftOf ns 1) (told := told) rfl okx kx
                  refine ⟨n1, Nat.lt_succ_self _, _, _, _, a :: fr, .eightR (oneBox (leftOf ns 1) told x), l2, s1 + (l1 - l2), rfl, ⟨dx, p, t, L, told, r, fr, rfl, ha5, hr6, ?_⟩, ⟨z6.1, z6.2.2⟩, (by show _ + 2 ≤ d + 2; have := z6.2.1; omega), rfl, ⟨dm4, kp5 _ _ em4 nma⟩, ?_, e1, ?_⟩
                  · intro z
                    rcases sub6 a z with q | q
                    · exact nar q
                    · exact na1 q
                  · intro z
                    rcases List.mem_cons.mp z with q | q
                    · exact nma q
                    · rcases sub6 m q with q | q
                      · exact nmr q
                      · exact nmx q
                  · refine k3.step (fun c z e hc hcm => ?_) (fun c hc => ?_) (by omega)
                    · exact kp5 c z (fr5 c z e hc hcm) (fun q => hc (q ▸ List.mem_cons_self))
                    · rcases List.mem_cons.mp hc with rfl | hc
                      · exact .inl List.mem_cons_self
                      · rcases sub6 c hc with rfl | q
                        · cases q : H3 c with
                          | none => exact .inr rfl
                          | some z =>
                            rcases Decidable.em (c ∈ a :: L :: (fx ++ fy)) with q1 | q1
                            · exact .inl q1
                            · have := fr5 c z q q1 nmr.symm
                              rw [nr5] at this
                              cases this
                        · exact .inl (by simp [q])
                | part q =>
                  simp only at e1
                  split at e1
                  case isFalse => cases e1
                  rename_i fq
                  refine iteF ⟨_, rfl, a, dx, _, rfl, ea4, rfl, _, rfl, _, rfl, a, dx, p, t, L, tx, ty, ns, told, 1, i, j, _, .part q, rfl, by decide, hv, ea4, hp4, ht4, hL4, hl8, hf, fq, fun p' H5 ha5 hp5 hL5 kp5 => ?_⟩
                  obtain ⟨dm4, em4⟩ := hm4
                  have frN5 : ∀ c o, H4 c = some o → ¬ (c = a ∨ c = L) → H5 c = some o := fun c o e n => kp5 c o e (fun z => n (.inl z)) (fun z => n (.inr z))
                  have soft5 : ∀ c o, (c = a ∨ c = L) → H4 c = some o → (∀ ys, o ≠ .tup ys) ∧ ∀ ob u, o ≠ .frz ob u := fun c o z e => by
                    rcases z with rfl | rfl
                    · exact Soft.no (.inl ⟨_, _, _, ea4⟩) e
                    · exact Soft.no (.inr ⟨_, hL4⟩) e
                  have hc5 := hc4.kept frN5 soft5 (fun c hc z => by
                    rcases z with rfl | rfl
                    · exact nac hc
                    · exact nlc hc)
                  have ho5 := ho4.kept frN5 soft5 (fun c hc z => by
                    rcases z with rfl | rfl
                    · exact na1 hc
                    · exact nl1 hc)
                  have ht5 : SqT K H5 t [.ref tx, .ref ty] := sqT_but ht4 frN5 soft5
                  refine ⟨n1, Nat.lt_succ_self _, _, _, _, a :: L :: (fx ++ fc'), .eight (withSecond ns q) i (j + 1) told x x', l2, s1 + (l1 - l2), rfl, ⟨dx, p', t, L, tx, ty, fx, fc', rfl, ha5, hp5, ht5, hL5, ho5, hc5, na1, nac, nl1, nlc, fun c h1 h2 => dj c h2 h1⟩, ⟨rfl, okx, okc', kx, kc' ▸ ky, hi, by omega⟩, (by show max _ _ + 3 ≤ d + 2; omega), rfl, ⟨dm4, kp5 _ _ em4 nma nml⟩, nm5, e1, ?_⟩
                  exact k3.step (fun c z e hc hcm => kp5 c z (fr5 c z e hc hcm) (fun q => hc (by simp [q])) (fun q => hc (by simp [q]))) sub5 (by omega)
theorem mok_no {k : Nat} {C : Addr} {m qual : Str} {ps : List Str} {sp : Sp} {st : Stmt} {CX : CXT} (c : Cls K C) (D : ∃ f fd, Fun K m qual st f fd ∧ Meth K C m f ∧ Binds K fd ps []) (no : ∀ vs H Q E, ¬ sp vs H Q E) : MOk P w K mg base CX k C m ps sp :=
  MOk.of c D fun f fd F => ⟨(fun vs H Q E h => (no vs H Q E h).elim), (fun _ _ _ _ _ _ _ _ _ _ _ _ _ h => (no _ _ _ _ h).elim)⟩
theorem no_four {vs : List V} {H : Hp} {Q : VK} {E : XK} : ¬ spB A K 2 0 vs H Q E := by
  rintro ⟨a, m, fp, B, l, s, n, o, B', l', rfl, hB, ok, hw, hk, _⟩
  cases B with
  | four ns st told x => exact absurd hw (by show ¬ x.wt + 1 ≤ 0; omega)
  | fourR t b u => exact absurd hw (by show ¬ 1 ≤ 0; omega)
  | leaf c => cases hk
  | fb t b u => cases hk
  | eight ns i j told x y => cases hk
  | eightR r => cases hk
theorem no_eight {d : Nat} (hd : d ≤ 1) {vs : List V} {H : Hp} {Q : VK} {E : XK} : ¬ spB A K 3 d vs H Q E := by
  rintro ⟨a, m, fp, B, l, s, n, o, B', l', rfl, hB, ok, hw, hk, _⟩
  cases B with
  | four ns st told x => cases hk
  | fourR t b u => cases hk
  | leaf c => cases hk
  | fb t b u => cases hk
  | eight ns i j told x y => exact absurd hw (by show ¬ max x.wt y.wt + 3 ≤ d; omega)
  | eightR r => exact absurd hw (by show ¬ r.wt + 2 ≤ d; omega)
/-- fours and eights, no heavier than d -/
theorem ok_asks (T : CT K mg A) (D : DT K mg A) : ∀ d : Nat, MOk P w K mg base (L2.CX P w) (6 + d) A.c_FourBox "ask" ["self", "meter"] (spB A K 2 d) ∧ MOk P w K mg base (L2.CX P w) (6 + d) A.c_EightBox "ask" ["self", "meter"] (spB A K 3 d)
  | 0 => ⟨mok_no T.cl_FourBox D.FourBox_ask fun _ _ _ _ => no_four, mok_no T.cl_EightBox D.EightBox_ask fun _ _ _ _ => no_eight (by omega)⟩
  | 1 => by
    have h := ok_asks T D 0
    exact ⟨ok_ask_four T D h.1 h.2, mok_no T.cl_EightBox D.EightBox_ask fun _ _ _ _ => no_eight (by omega)⟩
  | d + 2 => by
    have h := ok_asks T D (d + 1)
    exact ⟨ok_ask_four T D h.1 h.2, ok_ask_eight T D h.1 h.2⟩
end
/-! ### trees, and the boxes that are made of them -/
inductive Tree where
  | leaf (f : Leaf)
  | four (ns : List Int) (x : Tree)
  | eight (ns : List Int) (x y : Tree)
  | power (x : Tree) (n : Nat)
def Tree.ht : Tree → Nat
  | .leaf _ => 0
  | .four _ x => x.ht + 1
  | .eight _ x y => max x.ht y.ht + 1
  | .power x _ => x.ht + 1
def Tree.At (K : PySem.W.Frag) (H : Hp) : Tree → Addr → Prop
  | .leaf f, v => f.At K H v
  | .four ns x, v => ∃ p tx, SqT K H v [.str "four", .ref p, .ref tx] ∧ SqT K H p (ns.map V.int) ∧ x.At K H tx
  | .eight ns x y, v => ∃ p tx ty, SqT K H v [.str "eight", .ref p, .ref tx, .ref ty] ∧ SqT K H p (ns.map V.int) ∧ x.At K H tx ∧ y.At K H ty
  | .power x n, v => ∃ tx, SqT K H v [.str "power", .ref tx, .int n] ∧ x.At K H tx
/-- some two columns are not made of one another -/
def Crossed (ns : List Int) : Prop := ∃ i k : Nat, k < i ∧ i < ns.length / 2 ∧ ns.getD i 0 * ns.getD (k + ns.length / 2) 0 ≠ ns.getD k 0 * ns.getD (i + ns.length / 2) 0
def Tree.Good : Tree → Prop
  | .leaf f => f.Good
  | .four ns x => ns.length = 4 ∧ (∀ z ∈ ns, tame z) ∧ Crossed ns ∧ x.Good
  | .eight ns x y => ns.length = 8 ∧ (∀ z ∈ ns, tame z) ∧ Crossed ns ∧ x.Good ∧ y.Good
  | .power x n => 1 ≤ n ∧ n ≤ 4 ∧ x.Good
def timesN : List Int := [1, 0, 0, 0, 0, 0, 0, 1]
def powB (R : Box → Prop) : Nat → Box → Prop
  | 0, _ => False
  | 1, B => R B
  | n + 2, B => ∃ x y, R x ∧ powB R (n + 1) y ∧ B = .eight timesN 0 0 false x y
/-- the box that a tree begins with -/
def Tree.Starts : Tree → Box → Prop
  | .leaf f, B => ∃ ch, f.Starts ch ∧ B = .leaf ch
  | .four ns x, B => ∃ X, x.Starts X ∧ B = .four ns false false X
  | .eight ns x y, B => ∃ X Y, x.Starts X ∧ y.Starts Y ∧ B = .eight ns 0 0 false X Y
  | .power x n, B => powB x.Starts n B
section
variable {P : Program} {w : World} {K : PySem.W.Frag} {mg : Str → Option Value} {base : Heap} {A : Ad}
theorem Tree.At.same {H H' : Hp} (s : Same H H') : ∀ {t : Tree} {v : Addr}, t.At K H v → t.At K H' v
  | .leaf f, v, h => Leaf.At.same (f := f) h s
  | .four ns x, v, h => by
    obtain ⟨p, tx, h1, h2, h3⟩ := h
    exact ⟨p, tx, sqT_same h1 s, sqT_same h2 s, Tree.At.same s h3⟩
  | .eight ns x y, v, h => by
    obtain ⟨p, tx, ty, h1, h2, h3, h4⟩ := h
    exact ⟨p, tx, ty, sqT_same h1 s, sqT_same h2 s, Tree.At.same s h3, Tree.At.same s h4⟩
  | .power x n, v, h => by
    obtain ⟨tx, h1, h2⟩ := h
    exact ⟨tx, sqT_same h1 s, Tree.At.same s h2⟩
theorem powB_kind {R : Box → Prop} (h : ∀ B, R B → B.kind ≠ 1) : ∀ {n : Nat} {B : Box}, powB R n B → B.kind ≠ 1
  | 0, B, z => z.elim
  | 1, B, z => h B z
  | n + 2, B, z => by
    obtain ⟨x, y, _, _, rfl⟩ := z
    show 3 ≠ 1
    decide
theorem Tree.Starts.kind : ∀ {t : Tree} {B : Box}, t.Starts B → B.kind ≠ 1
  | .leaf f, B, h => by obtain ⟨ch, _, rfl⟩ := h; show 0 ≠ 1; decide
  | .four ns x, B, h => by obtain ⟨X, _, rfl⟩ := h; show 2 ≠ 1; decide
  | .eight ns x y, B, h => by obtain ⟨X, Y, _, _, rfl⟩ := h; show 3 ≠ 1; decide
  | .power x n, B, h => powB_kind (fun B z => Tree.Starts.kind z) h
/-- a box was made: new, and of the right beginning -/
def Made (A : Ad) (K : PySem.W.Frag) (R : Box → Prop) (H : Hp) (Q : VK) : Prop := ∀ (a : Addr) (fp : List Addr) (B : Box) (H' : Hp), BoxAt A K H' B a fp → R B → B.Ok → Same H H' → (∀ c ∈ fp, H c = none) → Q (.ref a) H'
def sp_box_of (A : Ad) (K : PySem.W.Frag) (d : Nat) : Sp := fun vs H Q _ => ∃ (v : Addr) (t : Tree), vs = [.ref v] ∧ t.At K H v ∧ t.Good ∧ t.ht ≤ d ∧ Made A K t.Starts H Q
def sp_power_box (A : Ad) (K : PySem.W.Frag) (d N : Nat) : Sp := fun vs H Q _ => ∃ (v : Addr) (t : Tree) (n : Nat), vs = [.ref v, .int n] ∧ t.At K H v ∧ t.Good ∧ t.ht ≤ d ∧ 1 ≤ n ∧ n ≤ N ∧ Made A K (powB t.Starts n) H Q
theorem cok_no {k : Nat} {x : Str} {st : Stmt} {ps : List Str} {sp : Sp} (D : ∃ f fd, DefAt K mg x st ps f fd) (no : ∀ vs H Q E, ¬ sp vs H Q E) : COk P w K mg base CX0 k x ps sp := by
  obtain ⟨f, fd, F⟩ := D
  exact .of F ⟨(fun _ _ _ _ h => (no _ _ _ _ h).elim), (fun _ _ _ _ _ _ _ _ _ _ _ _ _ h => (no _ _ _ _ h).elim)⟩
/-- an eight is made of two new boxes -/
theorem eight_made {H H1 H2 : Hp} {Q : VK} {p tx ty : Addr} {fx fy : List Addr} {X Y : Box} {ns : List Int} (T : CT K mg A) (hx : BoxAt A K H1 X tx fx) (hy : BoxAt A K H2 Y ty fy) (okX : X.Ok) (okY : Y.Ok) (kX : X.kind ≠ 1) (kY : Y.kind ≠ 1) (hl : ns.length = 8)
    (s1 : Same H H1) (s2 : Same H1 H2) (nx : ∀ c ∈ fx, H c = none) (ny : ∀ c ∈ fy, H1 c = none) (hp : SqT K H2 p (ns.map V.int))
    (k : ∀ (a : Addr) (fp : List Addr) (H' : Hp), BoxAt A K H' (.eight ns 0 0 false X Y) a fp → Box.Ok (.eight ns 0 0 false X Y) → Same H H' → (∀ c ∈ fp, H c = none) → Q (.ref a) H') {x dx : Addr} (nx2 : H2 x = none) (nd2 : H2 dx = none) (ne : dx ≠ x) :
    sp_EightBox_init A [.ref x, .ref p, .ref tx, .ref ty] (upd (upd H2 dx (.own x)) x (.ins A.c_EightBox dx [])) (fun v H' => v = .non ∧ Q (.ref x) H') E0 := by
  refine ⟨x, dx, p, tx, ty, rfl, upd_same, fun q l H' nq nl nlq ha hq hL kp => ⟨rfl, ?_⟩⟩
  have s3 : Same H2 H' := fun c o e => kp c o (by rw [upd_ne (ne_of_none e nx2), upd_ne (ne_of_none e nd2)]; exact e) (ne_of_none e nx2)
  have nlx : l ≠ x := fun z => by rw [z, upd_same] at nl; cases nl
  have nld : l ≠ dx := fun z => by rw [z, upd_ne ne, upd_same] at nl; cases nl
  have nl2 : H2 l = none := by rw [upd_ne nlx, upd_ne nld] at nl; exact nl
  have some_of : ∀ {H0 : Hp} {B : Box} {b : Addr} {f : List Addr} {c : Addr}, BoxAt A K H0 B b f → c ∈ f → ∃ o, H0 c = some o := fun h hc => by
    rcases h.soft _ hc with ⟨_, _, _, q⟩ | ⟨_, q⟩
    · exact ⟨_, q⟩
    · exact ⟨_, q⟩
  have hx2 := hx.same s2
  have out : ∀ {B : Box} {b : Addr} {f : List Addr} {c : Addr}, BoxAt A K H2 B b f → H2 c = none → c ∉ f := fun h e hc => by
    obtain ⟨o, q⟩ := some_of h hc
    rw [e] at q
    cases q
  refine k x (x :: l :: (fx ++ fy)) H' ⟨dx, p, q, l, tx, ty, fx, fy, rfl, ha, sqT_same hp s3, SqT.of hq, hL, hx2.same s3, hy.same s3, out hx2 nx2, out hy nx2, out hx2 nl2, out hy nl2, fun c h1 h2 => ?_⟩ ⟨hl, okX, okY, kX, kY, by decide, by decide⟩ ((s1.trans s2).trans s3) (fun c hc => ?_)
  · obtain ⟨o, q⟩ := some_of hx h1
    rw [ny c h2] at q
    cases q
  · simp only [List.mem_cons, List.mem_append] at hc
    rcases hc with rfl | rfl | hc | hc
    · exact (s1.trans s2).free nx2
    · exact (s1.trans s2).free nl2
    · exact nx c hc
    · exact s1.free (ny c hc)
theorem ok_power_box {d N k : Nat} (T : CT K mg A) (D : DT K mg A) (hk : 5 ≤ k) (G_box_of : COk P w K mg base CX0 k "box_of" ["tree"] (sp_box_of A K d)) (G_power_box : COk P w K mg base CX0 (k + N) "power_box" ["tree", "times"] (sp_power_box A K d N)) :
    COk P w K mg base CX0 (k + (N + 1)) "power_box" ["tree", "times"] (sp_power_box A K d (N + 1)) := by
  have I_EightBox := ok_EightBox_init (P := P) (w := w) (base := base) T D
  refine COk.by D.power_box fun f fd F => ?_
  refine F.ok (k := k + N) sc_power_box (fun vs H Q E h => ?_) (fun cdv Ar outer s H vs Q E hr h => ?_)
  · obtain ⟨v, t, n, rfl, _⟩ := h
    rfl
  · obtain ⟨v, t, n, rfl, ht, hg, hd, h1, hN, k'⟩ := h
    refine ⟨_, (pss_cons (ps_if (pt_cmpR op_eq (pv 1) pe_int (nomark _))
      (pss_one (ps_ret (pe_c G_box_of (hr.mono (by first | decide | omega)) (pa_cons (pv 0) pa_nil)))) pss_nil)
    (pss_one (ps_ret (pe_mk I_EightBox (hr.mono (by first | decide | omega)) (pa_cons (pe_glob (v := .ref A.k_TIMES) (by rfl) T.g_TIMES rfl) (pa_cons (pe_c G_box_of (hr.mono (by first | decide | omega)) (pa_cons (pv 0) pa_nil)) (pa_cons (pe_c G_power_box (hr.mono (by first | decide | omega)) (pa_cons (pv 0) (pa_cons (pe_op op_sub (pv 1) pe_int) pa_nil))) pa_nil))))))), ?_⟩
    refine ⟨_, rfl, rfl, _, rfl, ite2 (fun c => ?_) (fun c => ?_)⟩
    · have e : n = 1 := by
        have := V.int.inj (of_decide_eq_true c)
        omega
      subst e
      exact ⟨_, rfl, v, t, rfl, ht, hg, hd, k'⟩
    · have e : n ≠ 1 := fun z => c (decide_eq_true (by rw [z]; rfl))
      obtain ⟨n, rfl⟩ : ∃ j, n = j + 2 := ⟨n - 2, by omega⟩
      refine ⟨_, rfl, v, t, rfl, ht, hg, hd, fun tx fx X H1 hx sX okX s1 nx => ?_⟩
      refine ⟨_, rfl, _, rfl, _, _, rfl, rfl, ?_⟩
      have en : (((n + 2 : Nat) : Int) - 1) = ((n + 1 : Nat) : Int) := by omega
      refine cast (congrArg (fun z => sp_power_box A K d N [V.ref v, V.int z] H1 _ E0) en.symm) ?_
      refine ⟨v, t, n + 1, rfl, ht.same s1, hg, hd, by omega, by omega, fun ty fy Y H2 hy sY okY s2 ny => ?_⟩
      intro x dx nx2 nd2 ne
      exact eight_made T hx hy okX okY sX.kind (powB_kind (fun B z => Tree.Starts.kind z) sY) rfl s1 s2 nx ny (T.t_TIMES H2) (fun a fp H' hB ok s n' => k' a fp _ H' hB ⟨X, Y, sX, sY, rfl⟩ ok s n') nx2 nd2 ne
theorem ok_power_all {d k : Nat} (T : CT K mg A) (D : DT K mg A) (hk : 5 ≤ k) (G : COk P w K mg base CX0 k "box_of" ["tree"] (sp_box_of A K d)) : ∀ N : Nat, COk P w K mg base CX0 (k + N) "power_box" ["tree", "times"] (sp_power_box A K d N)
  | 0 => cok_no D.power_box fun vs H Q E h => by
    obtain ⟨v, t, n, _, _, _, _, h1, h2, _⟩ := h
    omega
  | N + 1 => ok_power_box T D hk G (ok_power_all T D hk G N)
theorem ok_box_of_step {d k : Nat} (T : CT K mg A) (D : DT K mg A) (hk : 5 ≤ k) (hd : ∀ t : Tree, t.ht < d + 1 → t.ht ≤ d) (G_box_of : COk P w K mg base CX0 k "box_of" ["tree"] (sp_box_of A K d)) : COk P w K mg base CX0 (k + 5) "box_of" ["tree"] (sp_box_of A K (d + 1)) := by
  have G_leaf_of := ok_leaf_of (P := P) (w := w) (base := base) T D
  have G_power_box := ok_power_all (P := P) (w := w) (base := base) T D hk G_box_of 4
  have I_EightBox := ok_EightBox_init (P := P) (w := w) (base := base) T D
  have I_FourBox := ok_FourBox_init (P := P) (w := w) (base := base) T D
  refine COk.by D.box_of fun f fd F => ?_
  refine F.ok (k := k + 4) sc_box_of (fun vs H Q E h => ?_) (fun cdv Ar outer s H vs Q E hr h => ?_)
  · obtain ⟨v, t, rfl, _⟩ := h
    rfl
  · obtain ⟨v, t, rfl, ht, hg, hh, k'⟩ := h
    refine ⟨_, (pss_cons (ps_set (i := 1) sc_box_of.nd rfl (Or.inl rfl) (pe_ix ix_tup (pv 0) pe_int (fun _ _ => rfl)))
    (pss_cons (ps_if (pt_cmpR op_eq (pv 1) pe_str (nomark _))
      (pss_one (ps_ret (pe_mk I_FourBox (hr.mono (by first | decide | omega)) (pa_cons (pe_ix ix_tup (pv 0) pe_int (fun _ _ => rfl)) (pa_cons (pe_c G_box_of (hr.mono (by first | decide | omega)) (pa_cons (pe_ix ix_tup (pv 0) pe_int (fun _ _ => rfl)) pa_nil)) (pa_cons pe_bl (pa_cons pe_bl pa_nil))))))) pss_nil)
    (pss_cons (ps_if (pt_cmpR op_eq (pv 1) pe_str (nomark _))
      (pss_one (ps_ret (pe_mk I_EightBox (hr.mono (by first | decide | omega)) (pa_cons (pe_ix ix_tup (pv 0) pe_int (fun _ _ => rfl)) (pa_cons (pe_c G_box_of (hr.mono (by first | decide | omega)) (pa_cons (pe_ix ix_tup (pv 0) pe_int (fun _ _ => rfl)) pa_nil)) (pa_cons (pe_c G_box_of (hr.mono (by first | decide | omega)) (pa_cons (pe_ix ix_tup (pv 0) pe_int (fun _ _ => rfl)) pa_nil)) pa_nil)))))) pss_nil)
    (pss_cons (ps_if (pt_cmpR op_eq (pv 1) pe_str (nomark _))
      (pss_one (ps_ret (pe_c G_power_box (hr.mono (by first | decide | omega)) (pa_cons (pe_ix ix_tup (pv 0) pe_int (fun _ _ => rfl)) (pa_cons (pe_ix ix_tup (pv 0) pe_int (fun _ _ => rfl)) pa_nil))))) pss_nil)
    (pss_one (ps_ret (pe_c G_leaf_of (hr.mono (by first | decide | omega)) (pa_cons (pv 0) pa_nil)))))))), ?_⟩
    cases t with
    | leaf f =>
      have fin : Q = Q → sp_leaf_of A K [.ref v] H Q E0 := fun _ => ⟨v, f, rfl, ht, hg, fun a c ch H' hl st ok s na nc ne => k' a [a, c] (.leaf ch) H' ⟨c, rfl, hl, ne⟩ ⟨ch, st, rfl⟩ ok s (fun z hz => by
        simp only [List.mem_cons, List.not_mem_nil, or_false] at hz
        rcases hz with rfl | rfl
        · exact na
        · exact nc)⟩
      cases f with
      | frac t b => exact ⟨_, rfl, v, _, 0, _, rfl, rfl, ht, atI_nat (j := 0) rfl, _, rfl, rfl, _, rfl, iteF ⟨_, rfl, rfl, _, rfl, iteF ⟨_, rfl, rfl, _, rfl, iteF ⟨_, rfl, fin rfl⟩⟩⟩⟩
      | root t s b => exact ⟨_, rfl, v, _, 0, _, rfl, rfl, ht, atI_nat (j := 0) rfl, _, rfl, rfl, _, rfl, iteF ⟨_, rfl, rfl, _, rfl, iteF ⟨_, rfl, rfl, _, rfl, iteF ⟨_, rfl, fin rfl⟩⟩⟩⟩
      | ruled ps ring steps =>
        obtain ⟨p, q, u, hv, h3⟩ := id ht
        exact ⟨_, rfl, v, _, 0, _, rfl, rfl, hv, atI_nat (j := 0) rfl, _, rfl, rfl, _, rfl, iteF ⟨_, rfl, rfl, _, rfl, iteF ⟨_, rfl, rfl, _, rfl, iteF ⟨_, rfl, fin rfl⟩⟩⟩⟩
    | four ns x =>
      obtain ⟨p, tx, hv, hp, hx⟩ := ht
      obtain ⟨hl, ht', hc, gx⟩ := hg
      refine ⟨_, rfl, v, _, 0, _, rfl, rfl, hv, atI_nat (j := 0) rfl, _, rfl, rfl, _, rfl, iteT ⟨_, rfl, v, _, 1, _, rfl, rfl, hv, atI_nat (j := 1) rfl, _, rfl, v, _, 2, _, rfl, rfl, hv, atI_nat (j := 2) rfl, tx, x, rfl, hx, gx, Nat.le_of_succ_le_succ hh, fun bx fx X H1 hbx sX okX s1 nx => ?_⟩⟩
      intro r dr nr nd ne
      refine ⟨r, dr, _, rfl, rfl, upd_same, rfl, ?_⟩
      rw [upd_upd]
      have s2 := made_same (o := .own r) (o' := .ins A.c_FourBox dr (foF p bx false false .non)) nr nd
      have nrx : r ∉ fx := fun z => by
        rcases hbx.soft r z with ⟨_, _, _, q⟩ | ⟨_, q⟩
        · rw [nr] at q; cases q
        · rw [nr] at q; cases q
      refine k' r (r :: fx) (.four ns false false X) _ ⟨dr, p, bx, fx, rfl, upd_same, sqT_same hp (s1.trans s2), hbx.same s2, nrx⟩ ⟨X, sX, rfl⟩ ⟨hl, okX, sX.kind⟩ (s1.trans s2) (fun c hc => ?_)
      rcases List.mem_cons.mp hc with rfl | hc
      · exact s1.free nr
      · exact nx c hc
    | eight ns x y =>
      obtain ⟨p, tx, ty, hv, hp, hx, hy⟩ := ht
      obtain ⟨hl, ht', hc, gx, gy⟩ := hg
      have hm : max x.ht y.ht + 1 ≤ d + 1 := hh
      refine ⟨_, rfl, v, _, 0, _, rfl, rfl, hv, atI_nat (j := 0) rfl, _, rfl, rfl, _, rfl, iteF ⟨_, rfl, rfl, _, rfl, iteT ⟨_, rfl, v, _, 1, _, rfl, rfl, hv, atI_nat (j := 1) rfl, _, rfl, v, _, 2, _, rfl, rfl, hv, atI_nat (j := 2) rfl, tx, x, rfl, hx, gx, by omega, fun bx fx X H1 hbx sX okX s1 nx => ?_⟩⟩⟩
      have hv1 := sqT_same hv s1
      refine ⟨_, rfl, v, _, 3, _, rfl, rfl, hv1, atI_nat (j := 3) rfl, ty, y, rfl, hy.same s1, gy, by omega, fun byy fy Y H2 hby sY okY s2 ny => ?_⟩
      intro r dr nr nd ne
      exact eight_made T hbx hby okX okY sX.kind sY.kind hl s1 s2 nx ny (sqT_same hp (s1.trans s2)) (fun a fp H' hB ok s n' => k' a fp _ H' hB ⟨X, Y, sX, sY, rfl⟩ ok s n') nr nd ne
    | power x n =>
      obtain ⟨tx, hv, hx⟩ := ht
      obtain ⟨h1, h4, gx⟩ := hg
      exact ⟨_, rfl, v, _, 0, _, rfl, rfl, hv, atI_nat (j := 0) rfl, _, rfl, rfl, _, rfl, iteF ⟨_, rfl, rfl, _, rfl, iteF ⟨_, rfl, rfl, _, rfl, iteT ⟨_, rfl, v, _, 1, _, rfl, rfl, hv, atI_nat (j := 1) rfl, _, rfl, v, _, 2, _, rfl, rfl, hv, atI_nat (j := 2) rfl, tx, x, n, rfl, hx, gx, Nat.le_of_succ_le_succ hh, h1, h4, k'⟩⟩⟩⟩
end
/-! ### readings of trees -/
section
variable {P : Program} {w : World} {K : PySem.W.Frag} {mg : Str → Option Value} {base : Heap} {A : Ad}
theorem ok_box_of_0 (T : CT K mg A) (D : DT K mg A) : COk P w K mg base CX0 6 "box_of" ["tree"] (sp_box_of A K 0) := by
  obtain ⟨f, fd, F, a, b, c⟩ := ok_box_of_leaf (P := P) (w := w) (base := base) T D
  refine ⟨f, fd, F.imp fun vs H Q E h => ?_, a, b, c⟩
  obtain ⟨v, t, rfl, ht, hg, hh, k'⟩ := h
  cases t with
  | leaf f => exact ⟨v, f, rfl, ht, hg, fun a c ch H' hl st ok s na nc ne => k' a [a, c] (.leaf ch) H' ⟨c, rfl, hl, ne⟩ ⟨ch, st, rfl⟩ ok s (fun z hz => by
        simp only [List.mem_cons, List.not_mem_nil, or_false] at hz
        rcases hz with rfl | rfl
        · exact na
        · exact nc)⟩
  | four ns x => exact absurd hh (by show ¬ x.ht + 1 ≤ 0; omega)
  | eight ns x y => exact absurd hh (by show ¬ max x.ht y.ht + 1 ≤ 0; omega)
  | power x n => exact absurd hh (by show ¬ x.ht + 1 ≤ 0; omega)
theorem ok_box_of_all (T : CT K mg A) (D : DT K mg A) : ∀ d : Nat, COk P w K mg base CX0 (6 + 5 * d) "box_of" ["tree"] (sp_box_of A K d)
  | 0 => ok_box_of_0 T D
  | d + 1 => (ok_box_of_step T D (by omega) (fun t h => Nat.le_of_lt_succ h) (ok_box_of_all T D d)).mono (by omega)
/-- a reading at r: its box, its meter -/
structure ReadB (A : Ad) (K : PySem.W.Frag) (H : Hp) (r a m : Addr) (fp : List Addr) (B : Box) (l s : Int) : Prop where
  rd : ∃ rx, H r = some (.ins A.c_Reading rx (reF a m))
  bx : BoxAt A K H B a fp
  mt : MeterAt A H m l s
  nr : r ∉ fp
  nm : m ∉ fp
  rm : r ≠ m
  ok : B.Ok
theorem ReadB.kept {H H' : Hp} {r a m : Addr} {fp : List Addr} {B : Box} {l s : Int} {N : Addr → Prop} (R : ReadB A K H r a m fp B l s) (k : ∀ c o, H c = some o → ¬ N c → H' c = some o) (hN : ∀ c o, N c → H c = some o → (∀ ys, o ≠ .tup ys) ∧ ∀ ob u, o ≠ .frz ob u)
    (n1 : ¬ N r) (n2 : ¬ N m) (n3 : ∀ c ∈ fp, ¬ N c) : ReadB A K H' r a m fp B l s := by
  obtain ⟨⟨rx, e⟩, hB, ⟨dm, em⟩, nr, nm, rm, ok⟩ := R
  exact ⟨⟨rx, k _ _ e n1⟩, hB.kept k hN n3, ⟨dm, k _ _ em n2⟩, nr, nm, rm, ok⟩
theorem ReadB.same {H H' : Hp} {r a m : Addr} {fp : List Addr} {B : Box} {l s : Int} (R : ReadB A K H r a m fp B l s) (k : Same H H') : ReadB A K H' r a m fp B l s :=
  R.kept (N := fun _ => False) (fun c o e _ => k c o e) (fun _ _ z => z.elim) (fun z => z) (fun z => z) (fun _ _ z => z)
/-- another list is written -/
theorem ReadB.put {H : Hp} {r a m d : Addr} {fp : List Addr} {B : Box} {l s : Int} {xs ys : List V} (R : ReadB A K H r a m fp B l s) (hd : H d = some (.lst xs)) (nd : d ∉ fp) : ReadB A K (upd H d (.lst ys)) r a m fp B l s := by
  obtain ⟨rx, e⟩ := R.rd
  obtain ⟨dm, em⟩ := R.mt
  refine R.kept (N := fun c => c = d) (fun c o e n => by rw [upd_ne n]; exact e) (fun c o z e => ?_) (fun z => ?_) (fun z => ?_) (fun c hc z => nd (z ▸ hc))
  · subst z
    exact Soft.no (.inr ⟨_, hd⟩) e
  · rw [z, hd] at e; cases e
  · rw [z, hd] at em; cases em
/-- one asking of a reading -/
def sp_partB (A : Ad) (K : PySem.W.Frag) (d : Nat) : Sp := fun vs H Q E => ∃ (r a m : Addr) (fp : List Addr) (B : Box) (l s q : Int) (n : Nat) (o : Option Ans) (B' : Box) (l' : Int), vs = [.ref r, .int q] ∧ ReadB A K H r a m fp B l s ∧ B.wt ≤ d ∧ askF n B q = some (o, B', l') ∧
  ∀ H' fp', ReadB A K H' r a m fp' B' l' (s + (q - l')) → (∀ c z, H c = some z → c ∉ fp → c ≠ m → H' c = some z) → (∀ c ∈ fp', c ∈ fp ∨ H c = none) →
    match o with
    | none => E (.ref A.c_NoValue) none H'
    | some an => ∀ v, an.At A H' v → Q v H'
/-- any box, asked: by its class -/
theorem ask_all {σ : St} {H : Hp} {to : TE} {ta : TA} {Q : VK} {E : XK} {d : Nat} {tx m : Addr} {fx : List Addr} {x x' : Box} {l s l' : Int} {n : Nat} {o : Option Ans} (hto : ∀ R : VK, R (.ref tx) H → to σ H R) (hta : ∀ R : List V → Hp → Prop, R [.ref m] H → ta σ H R)
    (hB : BoxAt A K H x tx fx) (ok : x.Ok) (hw : x.wt ≤ d) (hm : MeterAt A H m l s) (nm : m ∉ fx) (e : askF n x l = some (o, x', l')) (k : FinB A K Q E H tx m fx l s o x' l') :
    tMeth A.c_Leaf "ask" (spB A K 0 d) [] E0 to ta σ H Q ∨ tMeth A.c_FractionBox "ask" (spB A K 1 d) [] E to ta σ H Q ∨ tMeth A.c_FourBox "ask" (spB A K 2 d) [] E to ta σ H Q ∨ tMeth A.c_EightBox "ask" (spB A K 3 d) [] E to ta σ H Q := by
  by_cases hk : x.kind = 1
  · obtain ⟨C, dx, fs, ec, hl, c0, c1, c2, c3⟩ := hB.cls
    exact .inr (.inl (hto _ ⟨tx, dx, fs, rfl, by rw [← c1 hk]; exact ec, hl, hta _ ⟨tx, m, fx, x, l, s, n, o, x', l', rfl, hB, ok, hw, hk, hm, nm, e, k⟩⟩))
  · rcases ask_any hto hta hB ok hw hk hm nm e k with z | z | z
    · exact .inl z
    · exact .inr (.inr (.inl z))
    · exact .inr (.inr (.inr z))
theorem ok_partB (T : CT K mg A) (D : DT K mg A) (d : Nat) : MOk P w K mg base (L2.CX P w) (6 + d + 1) A.c_Reading "part" ["self", "most"] (sp_partB A K d) := by
  have M_allow := ok_Meter_allow (P := P) (w := w) (base := base) T D
  have M_leaf := ok_ask_leaf (P := P) (w := w) (base := base) T D d
  have M_fb := ok_ask_fb (P := P) (w := w) (base := base) T D d
  obtain ⟨M_four, M_eight⟩ := ok_asks (P := P) (w := w) (base := base) T D d
  refine MOk.of T.cl_Reading D.Reading_part fun f fd F => ?_
  refine F.okX (k := 6 + d) sc_Reading_part (fun vs H Q E h => ?_) (fun cdv Ar outer s H vs Q E hr h => ?_)
  · obtain ⟨r, a, m, fp, B, l, s, q, n, o, B', l', rfl, _⟩ := h
    rfl
  · obtain ⟨r, a, m, fp, B, l, sp, q, n, o, B', l', rfl, R, hw, e, k⟩ := h
    refine ⟨_, (pss_cons (ps_expr (pe_m M_allow (hr.mono (by first | decide | omega)) (pe_fld (pv 0) rfl) (pa_cons (pv 1) pa_nil)))
    (pss_one (ps_ret ((pe_alt (pe_m M_leaf (hr.mono (by first | decide | omega)) (pe_fld (pv 0) rfl) (pa_cons (pe_fld (pv 0) rfl) pa_nil)) (pe_alt (pe_mX M_fb (hr.mono (by first | decide | omega)) (passes_tk (takes_of rfl rfl rfl rfl)) (pe_fld (pv 0) rfl) (pa_cons (pe_fld (pv 0) rfl) pa_nil)) (pe_alt (pe_mX M_four (hr.mono (by first | decide | omega)) (passes_tk (takes_of rfl rfl rfl rfl)) (pe_fld (pv 0) rfl) (pa_cons (pe_fld (pv 0) rfl) pa_nil)) (pe_mX M_eight (hr.mono (by first | decide | omega)) (passes_tk (takes_of rfl rfl rfl rfl)) (pe_fld (pv 0) rfl) (pa_cons (pe_fld (pv 0) rfl) pa_nil))))))))), ?_⟩
    have cl := T.cl_Reading
    obtain ⟨⟨rx, er⟩, hB, ⟨dm, em⟩, nr, nm, rm, ok⟩ := R
    refine ⟨_, rfl, r, _, rx, _, _, rfl, er, cl, T.n_Reading_meter, rfl, m, dm, _, rfl, em, rfl, _, rfl, m, dm, l, sp, q, rfl, em, ?_⟩
    have fr1 : ∀ c o, H c = some o → ¬ c = m → (upd H m (.ins A.c_Meter dm (meF q sp))) c = some o := fun c o e n => by rw [upd_ne n]; exact e
    have hB1 := hB.kept (N := fun c => c = m) fr1 (fun c o z e => by subst z; rw [em] at e; exact ins_no (Option.some.inj e).symm) (fun c hc z => nm (z ▸ hc))
    have er1 := fr1 _ _ er rm
    refine ask_all (tx := a) (m := m) (fx := fp) (x := B) (l := q) (s := sp) (n := n) (fun R h => ⟨_, rfl, r, _, rx, _, _, rfl, er1, cl, T.n_Reading_box, rfl, h⟩) (fun R h => ⟨_, rfl, r, _, rx, _, _, rfl, er1, cl, T.n_Reading_meter, rfl, h⟩) hB1 ok hw ⟨dm, upd_same⟩ nm e fun H4 fp' hB4 hm4 nm4 fr4 sub4 => ?_
    obtain ⟨ok', _, _⟩ := askF_ok ok e
    have sub5 : ∀ c ∈ fp', c ∈ fp ∨ H c = none := fun c hc => by
      rcases sub4 c hc with z | z
      · exact .inl z
      · have ncm : c ≠ m := fun q => nm4 (q ▸ hc)
        rw [upd_ne ncm] at z
        exact .inr z
    refine k H4 fp' ⟨⟨rx, fr4 _ _ er1 nr rm⟩, hB4, hm4, fun z => ?_, nm4, rm, ok'⟩ (fun c z e hc hcm => fr4 c z (fr1 c z e hcm) hc hcm) sub5
    rcases sub5 r z with z | z
    · exact nr z
    · rw [er] at z; cases z
theorem ok_tookB (T : CT K mg A) (D : DT K mg A) : MOk P w K mg base CX0 1 A.c_Reading "took" ["self"] (fun vs H Q _ => ∃ r a m fp B l s, vs = [.ref r] ∧ ReadB A K H r a m fp B l s ∧ Q (.int s) H) := by
  obtain ⟨cl, f, fd, F, M, B⟩ := ok_Reading_took (P := P) (w := w) (base := base) T D
  refine ⟨cl, f, fd, F.imp fun vs H Q E h => ?_, M, B⟩
  obtain ⟨r, a, m, fp, B, l, s, rfl, ⟨⟨rx, e⟩, _, ⟨dm, e3⟩, _⟩, q⟩ := h
  exact ⟨r, rx, a, m, dm, l, s, rfl, e, e3, q⟩
end
/-! ### checks of fours, eights and powers -/
section
variable {P : Program} {w : World} {K : PySem.W.Frag} {mg : Str → Option Value} {base : Heap} {A : Ad}
def sp_check_line (K : PySem.W.Frag) : Sp := fun vs H Q _ => ∃ (p : Addr) (ns : List Int), vs = [.ref p] ∧ SqT K H p (ns.map V.int) ∧ (∃ h, ns.length = 2 * h ∧ 0 < h ∧ h ≤ 4) ∧ (∀ z ∈ ns, tame z) ∧ Crossed ns ∧ ∀ H', Same H H' → Q .non H'
theorem ok_check_line (T : CT K mg A) (D : DT K mg A) : COk P w K mg base CX0 2 "check_line" ["numbers"] (sp_check_line K) := by
  have G_require : COk P w K mg base CX0 1 "require" ["holds", "why"] sp_require := ok_require D
  refine COk.by D.check_line fun f fd F => ?_
  refine F.ok sc_check_line (fun vs H Q E h => ?_) (fun cdv Ar outer s H vs Q E hr h => ?_)
  · obtain ⟨p, ns, rfl, _⟩ := h
    rfl
  · obtain ⟨p, ns, rfl, hp, ⟨h, hl, h0, h4⟩, hf, hc, k⟩ := h
    refine ⟨_, (pss_cons (ps_set (i := 1) sc_check_line.nd rfl (Or.inl rfl) (pe_op op_fdiv (pe_callB call_len_seq (by rfl) T.b_len (by decide +kernel) (pa_cons (pv 0) pa_nil)) pe_int))
    (pss_cons (ps_asg (pe_tup (pa_cons (pe_slice sl_tupA (pv 0) po_none (po_some (pv 1))) (pa_cons (pe_slice sl_tupA (pv 0) (po_some (pv 1)) po_none) pa_nil))) (pg_tup rfl (pgs_cons (pg_name (i := 2) sc_check_line.nd rfl (Or.inr rfl)) (pgs_cons (pg_name (i := 3) sc_check_line.nd rfl (Or.inr rfl)) pgs_nil))))
    (pss_cons (ps_setLc2 (i := 4) (own := [("i", 5), ("k", 6)]) (vs1 := [6]) (g := gName 5) (g1 := gName 6) (tt := tYes) (tt1 := tYes) rfl sc_check_line.nd rfl rfl (sw_true rfl rfl rfl (by decide +kernel)) (pi_range1 rfl T.b_range (pa_cons (pv 1) pa_nil)) (blkOk_by (own := [("i", 5), ("k", 6)]) (N := ["numbers", "half", "above", "below", "crossed", "i", "k"]) (sc := defScope s_check_line) (by decide +kernel)) (by decide) (fun _ _ _ _ _ => (pg_name (i := 5) sc_check_line.nd rfl (Or.inl rfl))) (fun _ _ _ _ _ => pts_nil) (fun _ _ _ _ _ => (pi_range1 rfl T.b_range (pa_cons (pv 5) pa_nil))) (fun _ _ _ _ _ => (pg_name (i := 6) sc_check_line.nd rfl (Or.inl rfl))) (fun _ _ _ _ _ => pts_nil) (fun _ _ _ _ _ => (pe_cmpR op_ne (pe_op op_mul (pe_ix (show IxR _ (rIxT K) from ix_tup) (pv 2) (pv 5) (fun _ _ => rfl)) (pe_ix (show IxR _ (rIxT K) from ix_tup) (pv 3) (pv 6) (fun _ _ => rfl))) (pe_op op_mul (pe_ix (show IxR _ (rIxT K) from ix_tup) (pv 2) (pv 6) (fun _ _ => rfl)) (pe_ix (show IxR _ (rIxT K) from ix_tup) (pv 3) (pv 5) (fun _ _ => rfl))) (nomark _))))
    (pss_one (ps_expr (pe_c G_require (hr.mono (by first | decide | omega)) (pa_cons (pe_callB (cr_any rfl) (by rfl) T.b_any (by decide +kernel) (pa_cons (pv 4) pa_nil)) (pa_cons pe_str pa_nil)))))))), ?_⟩
    have e1 : (((ns.map V.int).length : Nat) : Int) / 2 = ((h : Nat) : Int) := by rw [List.length_map, hl]; omega
    have nf : ¬ (HT.sIx (ns.map V.int).length 0 none = 0 ∧ HT.sIx (ns.map V.int).length (ns.map V.int).length (some (h : Int)) = (ns.map V.int).length) := fun z => by
      have := z.2
      rw [HT.sIx_nat, List.length_map] at this
      omega
    have c1 : cutV (ns.map V.int) none (some (h : Int)) = (ns.take h).map V.int := by
      rw [cut_takeB, List.map_take]
    have c2 : cutV (ns.map V.int) (some (h : Int)) none = (ns.drop h).map V.int := by
      rw [cut_dropB, List.map_drop]
    have lt : (ns.take h).length = h := by rw [List.length_take]; omega
    have ld : (ns.drop h).length = h := by rw [List.length_drop]; omega
    refine ⟨_, rfl, p, _, rfl, .inr hp, _, _, rfl, rfl, ⟨by decide, by decide⟩, ?_⟩
    show tSeq _ _ _ [some (V.ref p), some (V.int ((((ns.map V.int).length : Nat) : Int) / 2)), none, none, none, none, none] H
    rw [e1]
    refine ⟨_, rfl, _, rfl, _, rfl, p, _, rfl, hp, fun z => absurd z nf, fun _ u nu => ?_⟩
    have s1 := same_upd (o := .tup (cutV (ns.map V.int) none (some (h : Int)))) nu
    have hu : SqT K (upd H u (.tup (cutV (ns.map V.int) none (some (h : Int))))) u ((ns.take h).map V.int) := by rw [← c1]; exact SqT.of upd_same
    generalize upd H u (.tup (cutV (ns.map V.int) none (some (h : Int)))) = H1 at s1 hu ⊢
    have hp1 := sqT_same hp s1
    refine ⟨_, rfl, _, rfl, _, rfl, p, _, rfl, hp1, fun z => absurd z (not_whole h0 (by rw [List.length_map]; omega)), fun _ v nv => ?_⟩
    have s2 := same_upd (o := .tup (cutV (ns.map V.int) (some (h : Int)) none)) nv
    have hv : SqT K (upd H1 v (.tup (cutV (ns.map V.int) (some (h : Int)) none))) v ((ns.drop h).map V.int) := by rw [← c2]; exact SqT.of upd_same
    generalize upd H1 v (.tup (cutV (ns.map V.int) (some (h : Int)) none)) = H2 at s2 hv ⊢
    have hu2 := sqT_same hu s2
    refine ⟨(by show 2 ≤ sizeLine; decide), fun q3 nq3 => ?_⟩
    have s3 := same_upd (o := .tup [V.ref u, .ref v]) nq3
    refine ⟨q3, _, rfl, SqT.of upd_same, rfl, _, _, rfl, _, _, rfl, rfl, ?_⟩
    have hu3 := sqT_same hu2 s3
    have hv3 := sqT_same hv s3
    generalize upd H2 q3 (.tup [V.ref u, .ref v]) = H3 at s3 hu3 hv3 ⊢
    have gt : ∀ j : Nat, j < h → ((ns.take h).map V.int)[j]? = some (.int (ns.getD j 0)) := fun j hj => by
      rw [List.getElem?_map, List.getElem?_take_of_lt hj, List.getD_eq_getElem?_getD, List.getElem?_eq_getElem (show j < ns.length by omega)]
      rfl
    have gd : ∀ j : Nat, j < h → ((ns.drop h).map V.int)[j]? = some (.int (ns.getD (j + h) 0)) := fun j hj => by
      rw [List.getElem?_map, List.getElem?_drop, List.getD_eq_getElem?_getD, Nat.add_comm h j, List.getElem?_eq_getElem (show j + h < ns.length by omega)]
      rfl
    have tm : ∀ j : Nat, j < ns.length → tame (ns.getD j 0) := fun j hj => hf _ (by
      rw [List.getD_eq_getElem?_getD, List.getElem?_eq_getElem hj]
      exact List.getElem_mem hj)
    have cm : ∀ a b : Int, tame a → CMul a b := fun a b ha => .inl (by
      have : (2 : Int) ^ 64 = 18446744073709551616 := by decide
      obtain ⟨h1, h2⟩ := ha
      omega)
    have hX : ∃ i k : Nat, k < i ∧ i < h ∧ ns.getD i 0 * ns.getD (k + h) 0 ≠ ns.getD k 0 * ns.getD (i + h) 0 := by
      obtain ⟨i, k, h1, h2, h3⟩ := hc
      rw [show ns.length / 2 = h by omega] at h2 h3
      exact ⟨i, k, h1, h2, h3⟩
    have fin : ∀ (D0 : Addr) (bs : List Bool) (H' : Hp), H' D0 = some (.lst (bs.map V.bl)) → Same H3 H' → true ∈ bs → tDrop (tCall sp_require [] E0 (tCons (tCB (rAny K) (tCons (tVar 4) tNil)) (tCons (tC (.str "the numbers above and below the line are told by one another")) tNil))) { nx := fun _ H' => Q .non H', rt := Q } [some (V.ref p), some (V.int h), some (V.ref u), some (V.ref v), some (V.ref D0), none, none] H' := fun D0 bs H' hD s4 hb => by
      refine ⟨_, rfl, D0, bs, rfl, SqL.of hD, _, _, rfl, ?_, k H' (((s1.trans s2).trans s3).trans s4)⟩
      rw [List.any_eq_true]
      exact ⟨true, hb, rfl⟩
    refine ⟨_, rfl, (h : Int), rfl, by omega, by omega, fun D0 nD => ?_⟩
    refine ⟨fun i m H' => m = h - i ∧ i ≤ h ∧ Same H3 H' ∧ ∃ bs : List Bool, H' D0 = some (.lst (bs.map V.bl)) ∧ bs.length ≤ 4 * i ∧ ∀ i' k' : Nat, k' < i' → i' < i → ns.getD i' 0 * ns.getD (k' + h) 0 ≠ ns.getD k' 0 * ns.getD (i' + h) 0 → true ∈ bs,
      ⟨h, by omega, Nat.zero_le _, same_upd nD, [], upd_same, Nat.zero_le _, fun i' k' _ z _ => absurd z (Nat.not_lt_zero _)⟩, ?_⟩
    rintro i m H' ⟨rfl, hi, s4, bs, hD, hb, hall⟩
    by_cases hlt : i < h
    · refine .inr ⟨hlt, fun H'' => i + 1 ≤ h ∧ Same H3 H'' ∧ ∃ bs : List Bool, H'' D0 = some (.lst (bs.map V.bl)) ∧ bs.length ≤ 4 * (i + 1) ∧ ∀ i' k' : Nat, k' < i' → i' < i + 1 → ns.getD i' 0 * ns.getD (k' + h) 0 ≠ ns.getD k' 0 * ns.getD (i' + h) 0 → true ∈ bs,
        fun H'' z => ⟨h - (i + 1), by omega, rfl, z⟩, fun x H'' y => ?_⟩
      obtain ⟨rfl, rfl⟩ := y
      refine ⟨rfl, ?_⟩
      refine ⟨_, rfl, 0 + (i : Int), rfl, by omega, by omega, ?_⟩
      refine ⟨fun j kk H5 => kk = i - j ∧ j ≤ i ∧ Same H3 H5 ∧ ∃ bs : List Bool, H5 D0 = some (.lst (bs.map V.bl)) ∧ bs.length ≤ 4 * i + j ∧ ∀ i' k' : Nat, k' < i' → (i' < i ∨ (i' = i ∧ k' < j)) → ns.getD i' 0 * ns.getD (k' + h) 0 ≠ ns.getD k' 0 * ns.getD (i' + h) 0 → true ∈ bs,
        ⟨i, by omega, Nat.zero_le _, s4, bs, hD, hb, fun i' k' z1 z2 => hall i' k' z1 (by omega)⟩, ?_⟩
      rintro j kk H5 ⟨rfl, hj, s5, bs5, hD5, hb5, hall5⟩
      have hti : (0 + (i : Int)).toNat = i := by omega
      by_cases hjl : j < i
      · refine .inr ⟨(by show j < (0 + (i : Int)).toNat; omega), fun H6 => j + 1 ≤ i ∧ Same H3 H6 ∧ ∃ bs : List Bool, H6 D0 = some (.lst (bs.map V.bl)) ∧ bs.length ≤ 4 * i + (j + 1) ∧ ∀ i' k' : Nat, k' < i' → (i' < i ∨ (i' = i ∧ k' < j + 1)) → ns.getD i' 0 * ns.getD (k' + h) 0 ≠ ns.getD k' 0 * ns.getD (i' + h) 0 → true ∈ bs,
          fun H6 z => ⟨i - (j + 1), by omega, rfl, z⟩, fun x H6 y => ?_⟩
        obtain ⟨rfl, rfl⟩ := y
        refine ⟨rfl, ?_⟩
        have hu5 := sqT_same hu3 s5
        have hv5 := sqT_same hv3 s5
        have zi : ∀ {xs : List V} {n : Nat} {z : V}, xs[n]? = some z → atI xs (0 + (n : Int)) = some z := fun {xs n z} e => by rw [Int.zero_add]; exact atI_nat e
        refine ⟨_, rfl, _, rfl, u, _, _, _, rfl, rfl, hu5, zi (gt i hlt), _, rfl, _, rfl, v, _, _, _, rfl, rfl, hv5, zi (gd j (by omega)), _, _, rfl, rfl, cm _ _ (tm i (by omega)), ?_⟩
        refine ⟨_, rfl, _, rfl, u, _, _, _, rfl, rfl, hu5, zi (gt j (by omega)), _, rfl, _, rfl, v, _, _, _, rfl, rfl, hv5, zi (gd i hlt), _, _, rfl, rfl, cm _ _ (tm j (by omega)), ?_⟩
        refine ⟨rfl, _, hD5, ?_, by omega, ?_, bs5 ++ [!decide (V.int (ns.getD i 0 * ns.getD (j + h) 0) = V.int (ns.getD j 0 * ns.getD (i + h) 0))], ?_, ?_, ?_⟩
        · rw [List.length_map]
          exact Nat.lt_of_le_of_lt hb5 (Nat.lt_of_lt_of_le (show 4 * i + j < 64 by omega) (by decide))
        · intro c o z
          rw [upd_ne (ne_of_none z nD)]
          exact s5 _ _ z
        · rw [upd_same, List.map_append]
          rfl
        · rw [List.length_append]
          show _ + 1 ≤ _
          omega
        · intro i' k' z1 z2 z3
          rw [List.mem_append]
          rcases z2 with z2 | ⟨rfl, z2⟩
          · exact .inl (hall5 i' k' z1 (.inl z2) z3)
          · by_cases hk : k' < j
            · exact .inl (hall5 i' k' z1 (.inr ⟨rfl, hk⟩) z3)
            · have ek : k' = j := by omega
              subst ek
              right
              rw [List.mem_singleton, decide_eq_false (fun q => z3 (V.int.inj q))]
              rfl
      · refine .inl ⟨(by show (0 + (i : Int)).toNat ≤ j; omega), by omega, s5, bs5, hD5, by omega, fun i' k' z1 z2 z3 => hall5 i' k' z1 ?_ z3⟩
        rcases Nat.lt_or_ge i' i with q | q
        · exact .inl q
        · exact .inr ⟨by omega, by omega⟩
    · have ei : i = h := by omega
      obtain ⟨i0, k0, z1, z2, z3⟩ := hX
      exact .inl ⟨(by show ((h : Int)).toNat ≤ i; omega), fin D0 bs H' hD s4 (hall i0 k0 z1 (by omega) z3)⟩
/-- a good tree, not too deep -/
def sp_chk (K : PySem.W.Frag) (N : Nat) : Sp := fun vs H Q _ => ∃ (v : Addr) (t : Tree) (d : Int), vs = [.ref v, .int d] ∧ t.At K H v ∧ t.Good ∧ d + t.ht ≤ 5 ∧ t.ht ≤ N ∧ ∀ H', Same H H' → Q .non H'
def sp_check_four (K : PySem.W.Frag) (N : Nat) : Sp := fun vs H Q _ => ∃ (a p tx : Addr) (ns : List Int) (x : Tree) (d : Int), vs = [.ref a, .int d] ∧ SqT K H a [.str "four", .ref p, .ref tx] ∧ SqT K H p (ns.map V.int) ∧ ns.length = 4 ∧ (∀ z ∈ ns, tame z) ∧ Crossed ns ∧ x.At K H tx ∧ x.Good ∧ d + 1 + x.ht ≤ 5 ∧ x.ht ≤ N ∧ ∀ H', Same H H' → Q .non H'
theorem ok_check_four {k N : Nat} (T : CT K mg A) (D : DT K mg A) (hk : 2 ≤ k) (G_check_at_depth : COk P w K mg base CX0 k "check_at_depth" ["tree", "depth"] (sp_chk K N)) : COk P w K mg base CX0 (k + 1) "check_four" ["tree", "depth"] (sp_check_four K N) := by
  have G_check_row := ok_check_row (P := P) (w := w) (base := base) T D
  have G_check_line := ok_check_line (P := P) (w := w) (base := base) T D
  refine COk.by D.check_four fun f fd F => ?_
  refine F.ok (k := k) sc_check_four (fun vs H Q E h => ?_) (fun cdv Ar outer s H vs Q E hr h => ?_)
  · obtain ⟨a, p, tx, ns, x, d, rfl, _⟩ := h
    rfl
  · obtain ⟨a, p, tx, ns, x, d, rfl, ha, hp, hl, ht, hc, hx, gx, hd, hn, q⟩ := h
    refine ⟨_, (pss_cons (ps_expr (pe_c G_check_row (hr.mono (by first | decide | omega)) (pa_cons (pe_ix ix_tup (pv 0) pe_int (fun _ _ => rfl)) (pa_cons pe_int (pa_cons pe_int pa_nil)))))
    (pss_cons (ps_expr (pe_c G_check_line (hr.mono (by first | decide | omega)) (pa_cons (pe_ix ix_tup (pv 0) pe_int (fun _ _ => rfl)) pa_nil)))
    (pss_one (ps_expr (pe_c G_check_at_depth (hr.mono (by first | decide | omega)) (pa_cons (pe_ix ix_tup (pv 0) pe_int (fun _ _ => rfl)) (pa_cons (pe_op op_add (pv 1) pe_int) pa_nil))))))), ?_⟩
    refine ⟨_, rfl, a, _, 1, _, rfl, rfl, ha, atI_nat (j := 1) rfl, p, ns, 4, 4, rfl, hp, by omega, by omega, ht, ?_⟩
    refine ⟨_, rfl, a, _, 1, _, rfl, rfl, ha, atI_nat (j := 1) rfl, p, ns, rfl, hp, ⟨2, hl, by decide, by decide⟩, ht, hc, fun H1 s1 => ?_⟩
    exact ⟨_, rfl, a, _, 2, _, rfl, rfl, sqT_same ha s1, atI_nat (j := 2) rfl, _, rfl, _, _, rfl, rfl, tx, x, d + 1, rfl, hx.same s1, gx, hd, hn, fun H2 s2 => q H2 (s1.trans s2)⟩
def sp_check_eight (K : PySem.W.Frag) (N : Nat) : Sp := fun vs H Q _ => ∃ (a p tx ty : Addr) (ns : List Int) (x y : Tree) (d : Int), vs = [.ref a, .int d] ∧ SqT K H a [.str "eight", .ref p, .ref tx, .ref ty] ∧ SqT K H p (ns.map V.int) ∧ ns.length = 8 ∧ (∀ z ∈ ns, tame z) ∧ Crossed ns ∧ x.At K H tx ∧ y.At K H ty ∧ x.Good ∧ y.Good ∧ d + 1 + x.ht ≤ 5 ∧ d + 1 + y.ht ≤ 5 ∧ x.ht ≤ N ∧ y.ht ≤ N ∧ ∀ H', Same H H' → Q .non H'
theorem ok_check_eight {k N : Nat} (T : CT K mg A) (D : DT K mg A) (hk : 2 ≤ k) (G_check_at_depth : COk P w K mg base CX0 k "check_at_depth" ["tree", "depth"] (sp_chk K N)) : COk P w K mg base CX0 (k + 1) "check_eight" ["tree", "depth"] (sp_check_eight K N) := by
  have G_check_row := ok_check_row (P := P) (w := w) (base := base) T D
  have G_check_line := ok_check_line (P := P) (w := w) (base := base) T D
  refine COk.by D.check_eight fun f fd F => ?_
  refine F.ok (k := k) sc_check_eight (fun vs H Q E h => ?_) (fun cdv Ar outer s H vs Q E hr h => ?_)
  · obtain ⟨a, p, tx, ty, ns, x, y, d, rfl, _⟩ := h
    rfl
  · obtain ⟨a, p, tx, ty, ns, x, y, d, rfl, ha, hp, hl, ht, hc, hx, hy, gx, gy, hd, hd2, hn, hn2, q⟩ := h
    refine ⟨_, (pss_cons (ps_expr (pe_c G_check_row (hr.mono (by first | decide | omega)) (pa_cons (pe_ix ix_tup (pv 0) pe_int (fun _ _ => rfl)) (pa_cons pe_int (pa_cons pe_int pa_nil)))))
    (pss_cons (ps_expr (pe_c G_check_line (hr.mono (by first | decide | omega)) (pa_cons (pe_ix ix_tup (pv 0) pe_int (fun _ _ => rfl)) pa_nil)))
    (pss_cons (ps_expr (pe_c G_check_at_depth (hr.mono (by first | decide | omega)) (pa_cons (pe_ix ix_tup (pv 0) pe_int (fun _ _ => rfl)) (pa_cons (pe_op op_add (pv 1) pe_int) pa_nil))))
    (pss_one (ps_expr (pe_c G_check_at_depth (hr.mono (by first | decide | omega)) (pa_cons (pe_ix ix_tup (pv 0) pe_int (fun _ _ => rfl)) (pa_cons (pe_op op_add (pv 1) pe_int) pa_nil)))))))), ?_⟩
    refine ⟨_, rfl, a, _, 1, _, rfl, rfl, ha, atI_nat (j := 1) rfl, p, ns, 8, 8, rfl, hp, by omega, by omega, ht, ?_⟩
    refine ⟨_, rfl, a, _, 1, _, rfl, rfl, ha, atI_nat (j := 1) rfl, p, ns, rfl, hp, ⟨4, hl, by decide, by decide⟩, ht, hc, fun H1 s1 => ?_⟩
    refine ⟨_, rfl, a, _, 2, _, rfl, rfl, sqT_same ha s1, atI_nat (j := 2) rfl, _, rfl, _, _, rfl, rfl, tx, x, d + 1, rfl, hx.same s1, gx, hd, hn, fun H2 s2 => ?_⟩
    exact ⟨_, rfl, a, _, 3, _, rfl, rfl, sqT_same ha (s1.trans s2), atI_nat (j := 3) rfl, _, rfl, _, _, rfl, rfl, ty, y, d + 1, rfl, hy.same (s1.trans s2), gy, hd2, hn2, fun H3 s3 => q H3 ((s1.trans s2).trans s3)⟩
def sp_check_power (K : PySem.W.Frag) (N : Nat) : Sp := fun vs H Q _ => ∃ (a tx : Addr) (x : Tree) (n : Nat) (d : Int), vs = [.ref a, .int d] ∧ SqT K H a [.str "power", .ref tx, .int n] ∧ 1 ≤ n ∧ n ≤ 4 ∧ x.At K H tx ∧ x.Good ∧ d + 1 + x.ht ≤ 5 ∧ x.ht ≤ N ∧ ∀ H', Same H H' → Q .non H'
theorem ok_check_power {k N : Nat} (T : CT K mg A) (D : DT K mg A) (hk : 2 ≤ k) (G_check_at_depth : COk P w K mg base CX0 k "check_at_depth" ["tree", "depth"] (sp_chk K N)) : COk P w K mg base CX0 (k + 1) "check_power" ["tree", "depth"] (sp_check_power K N) := by
  have G_check_row := ok_check_row (P := P) (w := w) (base := base) T D
  have G_require : COk P w K mg base CX0 1 "require" ["holds", "why"] sp_require := ok_require D
  obtain ⟨tP, gi_MOST_POWER⟩ := T.i_MOST_POWER
  refine COk.by D.check_power fun f fd F => ?_
  refine F.ok (k := k) sc_check_power (fun vs H Q E h => ?_) (fun cdv Ar outer s H vs Q E hr h => ?_)
  · obtain ⟨a, tx, x, n, d, rfl, _⟩ := h
    rfl
  · obtain ⟨a, tx, x, n, d, rfl, ha, h1, h4, hx, gx, hd, hn, q⟩ := h
    refine ⟨_, (pss_cons (ps_expr (pe_c G_check_row (hr.mono (by first | decide | omega)) (pa_cons (pe_slice sl_tup (pv 0) (po_some pe_int) po_none) (pa_cons pe_int (pa_cons pe_int pa_nil)))))
    (pss_cons (ps_expr (pe_c G_require (hr.mono (by first | decide | omega)) (pa_cons (pe_chain op_le op_le pe_int (pe_ix ix_tup (pv 0) pe_int (fun _ _ => rfl)) (pe_glob (v := .int 4) (by rfl) gi_MOST_POWER ⟨_, rfl⟩)) (pa_cons pe_str pa_nil))))
    (pss_one (ps_expr (pe_c G_check_at_depth (hr.mono (by first | decide | omega)) (pa_cons (pe_ix ix_tup (pv 0) pe_int (fun _ _ => rfl)) (pa_cons (pe_op op_add (pv 1) pe_int) pa_nil))))))), ?_⟩
    refine ⟨_, rfl, _, rfl, a, _, rfl, ha, not_whole (k := 2) (by decide) (by show 2 ≤ 3; decide), fun u nu => ?_⟩
    have s1 := same_upd (o := .tup (cutV [.str "power", .ref tx, .int n] (some 2) none)) nu
    have hu : SqT K (upd H u (.tup (cutV [.str "power", .ref tx, .int n] (some 2) none))) u ([(n : Int)].map V.int) := by
      rw [cutV2]
      exact SqT.of upd_same
    refine ⟨u, [(n : Int)], 1, 1, rfl, hu, Int.le_refl _, Int.le_refl _, fun z hz => ?_, ?_⟩
    · rw [List.mem_singleton] at hz
      subst hz
      exact ⟨by omega, by omega⟩
    have ha1 := sqT_same ha s1
    refine ⟨_, rfl, a, _, 2, _, rfl, rfl, ha1, atI_nat (j := 2) rfl, _, _, rfl, rfl, true, (congrArg V.bl (decide_eq_true (show (1 : Int) ≤ (n : Int) by omega))), iteT ⟨_, _, rfl, rfl, _, _, rfl, decide_eq_true (by omega), ?_⟩⟩
    exact ⟨_, rfl, a, _, 1, _, rfl, rfl, ha1, atI_nat (j := 1) rfl, _, rfl, _, _, rfl, rfl, tx, x, d + 1, rfl, hx.same s1, gx, hd, hn, fun H2 s2 => q H2 (s1.trans s2)⟩
theorem chk_leaf {H : Hp} {Q : VK} {v : Addr} {f : Leaf} {d : Int} {sO sE sP : Sp} (ht : f.At K H v) (hg : f.Good) (hd : d ≤ 5) (q : ∀ H', Same H H' → Q .non H') : sp_check_at K (sp_check_fraction K) (sp_check_root K) (sp_check_ruled K) sO sE sP [.ref v, .int d] H Q E0 := by
  cases f with
  | frac t b => exact ⟨v, "fraction", [.int t, .int b], d, rfl, hd, ht, .inl ⟨rfl, rfl, v, t, b, d, rfl, ht, hg.1, hg.2.1, hg.2.2, fun H' s' => q H' s'⟩⟩
  | root t s b => exact ⟨v, "root", [.int t, .int s, .int b], d, rfl, hd, ht, .inr (.inl ⟨rfl, rfl, v, t, s, b, d, rfl, ht, hg.1, hg.2.1, hg.2.2.1, hg.2.2.2.1, hg.2.2.2.2, fun H' s' => q H' s'⟩)⟩
  | ruled ps ring steps =>
    obtain ⟨p, q', u, hv, hp, hq, hu⟩ := id ht
    exact ⟨v, "ruled", [.ref p, .ref q', .ref u], d, rfl, hd, hv, .inr (.inr (.inl ⟨rfl, rfl, v, p, q', u, ps, ring, steps, d, rfl, hv, hp, hq, hu, hg, fun H' s' => q H' s'⟩))⟩
theorem COk.imp {k : Nat} {x : Str} {ps : List Str} {sp sp' : Sp} (h : COk P w K mg base CX0 k x ps sp) (i : ∀ vs H Q E, sp' vs H Q E → sp vs H Q E) : COk P w K mg base CX0 k x ps sp' := by
  obtain ⟨f, fd, F, a, b, c⟩ := h
  exact ⟨f, fd, F.imp i, a, b, c⟩
theorem ok_chk (T : CT K mg A) (TT : TB K w mg A) (D : DT K mg A) : ∀ N : Nat, COk P w K mg base CX0 (4 + 2 * N) "check_at_depth" ["tree", "depth"] (sp_chk K N)
  | 0 => by
    refine (ok_check_at_depth (P := P) (w := w) (base := base) (k := 3) T TT D (by decide) (ok_check_fraction T D) (ok_check_root T D) (ok_check_ruled T D) (ok_no D.check_four) (ok_no D.check_eight) (ok_no D.check_power)).imp fun vs H Q E h => ?_
    obtain ⟨v, t, d, rfl, ht, hg, hd, hn, q⟩ := h
    cases t with
    | leaf f => exact chk_leaf ht hg (by have : d + 0 ≤ 5 := hd; omega) q
    | four ns x => exact absurd hn (by show ¬ x.ht + 1 ≤ 0; omega)
    | eight ns x y => exact absurd hn (by show ¬ max x.ht y.ht + 1 ≤ 0; omega)
    | power x n => exact absurd hn (by show ¬ x.ht + 1 ≤ 0; omega)
  | N + 1 => by
    have G := ok_chk T TT D N
    refine ((ok_check_at_depth (P := P) (w := w) (base := base) (k := 4 + 2 * N + 1) T TT D (by omega) ((ok_check_fraction T D).mono (by omega)) ((ok_check_root T D).mono (by omega)) ((ok_check_ruled T D).mono (by omega)) (ok_check_four T D (by omega) G) (ok_check_eight T D (by omega) G) (ok_check_power T D (by omega) G)).mono (by omega)).imp fun vs H Q E h => ?_
    obtain ⟨v, t, d, rfl, ht, hg, hd, hn, q⟩ := h
    cases t with
    | leaf f => exact chk_leaf ht hg (by have : d + 0 ≤ 5 := hd; omega) q
    | four ns x =>
      obtain ⟨p, tx, hv, hp, hx⟩ := ht
      obtain ⟨hl, ht', hc, gx⟩ := hg
      have h1 : d + ((x.ht + 1 : Nat) : Int) ≤ 5 := hd
      exact ⟨v, "four", [.ref p, .ref tx], d, rfl, by omega, hv, .inr (.inr (.inr (.inl ⟨rfl, rfl, v, p, tx, ns, x, d, rfl, hv, hp, hl, ht', hc, hx, gx, by omega, Nat.le_of_succ_le_succ hn, q⟩)))⟩
    | eight ns x y =>
      obtain ⟨p, tx, ty, hv, hp, hx, hy⟩ := ht
      obtain ⟨hl, ht', hc, gx, gy⟩ := hg
      have h1 : d + ((max x.ht y.ht + 1 : Nat) : Int) ≤ 5 := hd
      have h2 : max x.ht y.ht + 1 ≤ N + 1 := hn
      exact ⟨v, "eight", [.ref p, .ref tx, .ref ty], d, rfl, by omega, hv, .inr (.inr (.inr (.inr (.inl ⟨rfl, rfl, v, p, tx, ty, ns, x, y, d, rfl, hv, hp, hl, ht', hc, hx, hy, gx, gy, by omega, by omega, by omega, by omega, q⟩))))⟩
    | power x n =>
      obtain ⟨tx, hv, hx⟩ := ht
      obtain ⟨g1, g4, gx⟩ := hg
      have h1 : d + ((x.ht + 1 : Nat) : Int) ≤ 5 := hd
      exact ⟨v, "power", [.ref tx, .int n], d, rfl, by omega, hv, .inr (.inr (.inr (.inr (.inr ⟨rfl, rfl, v, tx, x, n, d, rfl, hv, g1, g4, hx, gx, by omega, Nat.le_of_succ_le_succ hn, q⟩))))⟩
/-- a reader of any good tree, up to five deep -/
def sp_readerB (A : Ad) (K : PySem.W.Frag) : Sp := fun vs H Q _ => ∃ (v : Addr) (t : Tree), vs = [.ref v] ∧ t.At K H v ∧ t.Good ∧ t.ht ≤ 4 ∧
  ∀ r a m fp B H', ReadB A K H' r a m fp B 0 0 → t.Starts B → Same H H' → H r = none → H m = none → (∀ c ∈ fp, H c = none) → Q (.ref r) H'
theorem ok_readerB (T : CT K mg A) (TT : TB K w mg A) (D : DT K mg A) : COk P w K mg base CX0 27 "reader" ["tree"] (sp_readerB A K) := by
  have G_box_of := ok_box_of_all (P := P) (w := w) (base := base) T D 4
  have I_Reading := ok_Reading_init (P := P) (w := w) (base := base) T D
  have G_check_tree := ok_check_tree D (ok_chk (P := P) (w := w) (base := base) T TT D 4)
  refine COk.by D.reader fun f fd F => ?_
  refine F.ok (k := 26) sc_reader (fun vs H Q E h => ?_) (fun cdv Ar outer s H vs Q E hr h => ?_)
  · obtain ⟨v, t, rfl, _⟩ := h
    rfl
  · obtain ⟨v, t, rfl, ht, hg, hh, k⟩ := h
    refine ⟨_, (pss_cons (ps_expr (pe_c G_check_tree (hr.mono (by first | decide | omega)) (pa_cons (pv 0) pa_nil)))
    (pss_one (ps_ret (pe_mk I_Reading (hr.mono (by first | decide | omega)) (pa_cons (pe_c G_box_of (hr.mono (by first | decide | omega)) (pa_cons (pv 0) pa_nil)) pa_nil))))), ?_⟩
    refine ⟨_, rfl, _, rfl, v, t, 1, rfl, ht, hg, by omega, hh, fun H1 s1 => ?_⟩
    refine ⟨_, rfl, v, t, rfl, ht.same s1, hg, hh, fun a fp B H2 hB sB ok s2 nf => ?_⟩
    intro x dx nx nd ne
    refine ⟨x, dx, a, rfl, upd_same, fun m H3 nm hx hm kp => ⟨rfl, ?_⟩⟩
    have s3 : Same H2 H3 := fun b o e => kp b o (by rw [upd_ne (ne_of_none e nx), upd_ne (ne_of_none e nd)]; exact e) (ne_of_none e nx)
    have nm2 : H2 m = none := by
      cases q : H2 m with
      | none => rfl
      | some o =>
        have hmx : m ≠ x := fun z => by rw [z, upd_same] at nm; cases nm
        have hmd : m ≠ dx := fun z => by rw [z, upd_ne ne, upd_same] at nm; cases nm
        rw [upd_ne hmx, upd_ne hmd, q] at nm
        cases nm
    have hxm : x ≠ m := fun z => by rw [← z, upd_same] at nm; cases nm
    have out : ∀ c, H2 c = none → c ∉ fp := fun c e hc => by
      rcases hB.soft c hc with ⟨_, _, _, q⟩ | ⟨_, q⟩
      · rw [e] at q; cases q
      · rw [e] at q; cases q
    exact k x a m fp B H3 ⟨⟨dx, hx⟩, hB.same s3, hm, out x nx, out m nm2, hxm, ok⟩ sB ((s1.trans s2).trans s3) ((s1.trans s2).free nx) ((s1.trans s2).free nm2) (fun c hc => s1.free (nf c hc))
end
/-! ### askings, one step at a time -/
theorem upd_at {H : Hp} {p : Addr} {o : HO} (_ : Same H (upd H p o)) : (upd H p o) p = some o := upd_same
theorem turned4 (a b c d q : Int) : turnedOver [a, b, c, d] q = [c, d, a - q * c, b - q * d] := by simp [turnedOver]
theorem turned8 (a b c d e f g h q : Int) : turnedOver [a, b, c, d, e, f, g, h] q = [e, f, g, h, a - q * e, b - q * f, c - q * g, d - q * h] := by simp [turnedOver]
theorem askF_pos {n : Nat} {B : Box} {l : Int} {r : Option Ans × Box × Int} (e : askF n B l = some r) : ∃ m, n = m + 1 := by
  cases n with
  | zero => cases B <;> cases e
  | succ m => exact ⟨m, rfl⟩
theorem askF_leaf (n : Nat) (c : Chain) (l : Int) : askF (n + 1) (.leaf c) l = some (some (c.ans l), .leaf (c.then_ l), l - c.took l) := rfl
/-- what stands ahead of taking -/
abbrev sureF (ns : List Int) (st : Bool) : Option Int := if st = true then surePart (fourCorners ns) else none
section
variable {n : Nat} {ns : List Int} {st told : Bool} {x x' : Box} {l l' q : Int}
theorem askF_four_tell (hf : allFit ns (fourCorners ns) = true) (hs : sureF ns st = some q) : askF (n + 1) (.four ns st told x) l = some (some (.part q), .four (turnedOver ns q) st true x, l) := by
  simp only [askF, if_pos hf, hs]
theorem askF_four_none (hf : allFit ns (fourCorners ns) = true) (hs : sureF ns st = none) (e : askF n x l = some (none, x', l')) : askF (n + 1) (.four ns st told x) l = some (none, .four ns st told x', l') := by
  simp only [askF, if_pos hf, hs, e]
theorem askF_four_waits (hf : allFit ns (fourCorners ns) = true) (hs : sureF ns st = none) (e : askF n x l = some (some .waits, x', l')) : askF (n + 1) (.four ns st told x) l = some (some .waits, .four ns st told x', l') := by
  simp only [askF, if_pos hf, hs, e]
theorem askF_four_fin (hf : allFit ns (fourCorners ns) = true) (hs : sureF ns st = none) (e : askF n x l = some (some .fin, x', l')) : askF (n + 1) (.four ns st told x) l = askF n (.fourR (ns.getD 0 0) (ns.getD 2 0) told) l' := by
  simp only [askF, if_pos hf, hs, e]
theorem askF_four_part (hf : allFit ns (fourCorners ns) = true) (hs : sureF ns st = none) (e : askF n x l = some (some (.part q), x', l')) (hq : fits q) : askF (n + 1) (.four ns st told x) l = askF n (.four (withOne ns q) true told x') l' := by
  simp only [askF, if_pos hf, hs, e, if_pos hq]
end
abbrev sureE (ns : List Int) (i j : Int) : Option Int := if 0 < i ∧ 0 < j then surePart (eightCorners ns) else none
section
variable {n : Nat} {ns : List Int} {i j : Int} {told : Bool} {x x' y y' : Box} {l l' q : Int}
theorem askF_eight_tell (hf : allFit ns (eightCorners ns) = true) (hs : sureE ns i j = some q) : askF (n + 1) (.eight ns i j told x y) l = some (some (.part q), .eight (turnedOver ns q) i j true x y, l) := by
  simp only [askF, if_pos hf, hs]
theorem askF_eight_none0 (hf : allFit ns (eightCorners ns) = true) (hs : sureE ns i j = none) (h : i ≤ j) (e : askF n x l = some (none, x', l')) : askF (n + 1) (.eight ns i j told x y) l = some (none, .eight ns i j told x' y, l') := by
  simp only [askF, if_pos hf, hs, if_pos h, e]
theorem askF_eight_waits0 (hf : allFit ns (eightCorners ns) = true) (hs : sureE ns i j = none) (h : i ≤ j) (e : askF n x l = some (some .waits, x', l')) : askF (n + 1) (.eight ns i j told x y) l = some (some .waits, .eight ns i j told x' y, l') := by
  simp only [askF, if_pos hf, hs, if_pos h, e]
theorem askF_eight_fin0 (hf : allFit ns (eightCorners ns) = true) (hs : sureE ns i j = none) (h : i ≤ j) (e : askF n x l = some (some .fin, x', l')) : askF (n + 1) (.eight ns i j told x y) l = askF n (.eightR (oneBox (leftOf ns 0) told y)) l' := by
  simp only [askF, if_pos hf, hs, if_pos h, e]
theorem askF_eight_part0 (hf : allFit ns (eightCorners ns) = true) (hs : sureE ns i j = none) (h : i ≤ j) (e : askF n x l = some (some (.part q), x', l')) (hq : fits q) : askF (n + 1) (.eight ns i j told x y) l = askF n (.eight (withFirst ns q) (i + 1) j told x' y) l' := by
  simp only [askF, if_pos hf, hs, if_pos h, e, if_pos hq]
theorem askF_eight_none1 (hf : allFit ns (eightCorners ns) = true) (hs : sureE ns i j = none) (h : ¬ i ≤ j) (e : askF n y l = some (none, y', l')) : askF (n + 1) (.eight ns i j told x y) l = some (none, .eight ns i j told x y', l') := by
  simp only [askF, if_pos hf, hs, if_neg h, e]
theorem askF_eight_waits1 (hf : allFit ns (eightCorners ns) = true) (hs : sureE ns i j = none) (h : ¬ i ≤ j) (e : askF n y l = some (some .waits, y', l')) : askF (n + 1) (.eight ns i j told x y) l = some (some .waits, .eight ns i j told x y', l') := by
  simp only [askF, if_pos hf, hs, if_neg h, e]
theorem askF_eight_fin1 (hf : allFit ns (eightCorners ns) = true) (hs : sureE ns i j = none) (h : ¬ i ≤ j) (e : askF n y l = some (some .fin, y', l')) : askF (n + 1) (.eight ns i j told x y) l = askF n (.eightR (oneBox (leftOf ns 1) told x)) l' := by
  simp only [askF, if_pos hf, hs, if_neg h, e]
theorem askF_eight_part1 (hf : allFit ns (eightCorners ns) = true) (hs : sureE ns i j = none) (h : ¬ i ≤ j) (e : askF n y l = some (some (.part q), y', l')) (hq : fits q) : askF (n + 1) (.eight ns i j told x y) l = askF n (.eight (withSecond ns q) i (j + 1) told x y') l' := by
  simp only [askF, if_pos hf, hs, if_neg h, e, if_pos hq]
end
theorem askF_rest {n : Nat} {r r' : Box} {l l' : Int} {o : Option Ans} (e : askF n r l = some (o, r', l')) : askF (n + 1) (.eightR r) l = some (o, .eightR r', l') := by
  simp only [askF, e, Option.map_some]
theorem ans_end {n : Nat} {c : Chain} (h : c.ended = true) (l : Int) : askF (n + 1) (.leaf c) l = some (some .fin, .leaf c, l) := by
  have e1 : c.ans l = .fin := by unfold Chain.ans; rw [if_pos h]
  have e2 : c.then_ l = c := by unfold Chain.then_; rw [if_pos h]
  have e3 : c.took l = 0 := by unfold Chain.took; rw [if_pos h]
  rw [askF_leaf, e1, e2, e3, Int.sub_zero]
theorem ans_waits {n : Nat} {c : Chain} (h : c.ended = false) {l : Int} (hl : l < 1) : askF (n + 1) (.leaf c) l = some (some .waits, .leaf c, l) := by
  have e1 : c.ans l = .waits := by unfold Chain.ans; rw [h, if_neg (by decide), if_pos hl]
  have e2 : c.then_ l = c := by unfold Chain.then_; rw [h, if_neg (by decide), if_pos hl]
  have e3 : c.took l = 0 := by unfold Chain.took; rw [h, if_neg (by decide), if_pos hl]
  rw [askF_leaf, e1, e2, e3, Int.sub_zero]
theorem ans_part {n : Nat} {c : Chain} (h : c.ended = false) {l : Int} (hl : ¬ l < 1) : askF (n + 1) (.leaf c) l = some (some (.part c.part), .leaf c.next, l - 1) := by
  have e1 : c.ans l = .part c.part := by unfold Chain.ans; rw [h, if_neg (by decide), if_neg hl]
  have e2 : c.then_ l = c.next := by unfold Chain.then_; rw [h, if_neg (by decide), if_neg hl]
  have e3 : c.took l = 1 := by unfold Chain.took; rw [h, if_neg (by decide), if_neg hl]
  rw [askF_leaf, e1, e2, e3]
/-! ### what a box's reading tells is what is due -/
theorem passX0 {X : Cx} : Passes (L2.CX X.prog X.w) X E0 := fun _ _ _ _ _ _ _ h => by
  obtain ⟨_, _, _, _, _, _, _, _, _, _, _, _, hE⟩ := h
  exact hE.elim
theorem while_nat {c : TT} {tb : TS} {D : Ends} {σ : St} {H : Hp} (Pv : Nat → St → Hp → Prop) {m0 : Nat} (h0 : Pv m0 σ H)
    (hs : ∀ m σ H, Pv m σ H → c σ H fun b H1 => if b = true then tb { D with nx := fun σ' H' => ∃ m', m' < m ∧ Pv m' σ' H', ct := fun σ' H' => ∃ m', m' < m ∧ Pv m' σ' H', bk := D.nx } σ H1 else D.nx σ H1)
    (mono : ∀ σ H Q Q', (∀ b H1, Q b H1 → Q' b H1) → c σ H Q → c σ H Q') : tWhile c tb D σ H := by
  refine ⟨Pv, ⟨_, h0⟩, ?_⟩
  intro m σ H p
  refine mono σ H _ _ (fun b H1 q => ?_) (hs m σ H p)
  cases b with
  | true => exact ⟨_, fun σ' H' z => z, q⟩
  | false => exact q
section
variable {P : Program} {w : World} {K : PySem.W.Frag} {mg : Str → Option Value} {base : Heap} {A : Ad}
/-- what a reading changes is no tuple -/
theorem sqT_frame {H H' : Hp} {b m : Addr} {fp : List Addr} {xs : List V} (h : SqT K H b xs) (hf : ∀ c ∈ fp, Soft H c) (hm : ∃ C dx fs, H m = some (.ins C dx fs)) (k : ∀ c z, H c = some z → c ∉ fp → c ≠ m → H' c = some z) : SqT K H' b xs :=
  sqT_but (N := fun z => z ∈ fp ∨ z = m) h (fun b o e n => k b o e (fun z => n (.inl z)) fun z => n (.inr z)) fun b o e z => by
    rcases e with e | rfl
    · exact (hf b e).no z
    · obtain ⟨C, dx, fs, e⟩ := hm; rw [e] at z; exact ins_no (Option.some.inj z).symm
end
/-! ### calls of defs that may raise -/
section
variable {X : Cx} {k : Nat} {x m : Str} {ps : List Str} {sp : Sp} {o e : Expr} {es : List Expr} {ta : TE} {t : TA} {p pos apos : Pos} {C : Addr}
theorem pe_cX {E : XK} (C : COk X.prog X.w X.K X.mg X.base (L2.CX X.prog X.w) k x ps sp) (hr : Room k X.A) (hx : Passes (L2.CX X.prog X.w) X E) (ha : PA X (e :: es) t) (hg : Gl X x := by rfl)
    (hdb : (x == ("__debug__" : Str)) = false := by decide) (he : starEach (e :: es) X.env = (false, eval e X.env) :: starEach es X.env := by rfl) (hpl : (backTo pos (starEach es X.env)).any (·.1) = false := by rfl) :
    PE X (.Call (.Name x p) (e :: es) [] pos) (tCall sp [] E t) := by
  obtain ⟨f, fd, F, a, b, c⟩ := C
  exact pe_call F hr hg a b c .nil hx ha hdb he hpl
def tCallS (sp : Sp) (E : L2.St → XK) (t : TA) : TE := fun σ H Q => t σ H fun vs H2 => sp vs H2 Q (E σ)
open PySem.Spec PyProof.Rows in
theorem pe_cS {E : L2.St → XK} (C : COk X.prog X.w X.K X.mg X.base (L2.CX X.prog X.w) k x ps sp) (hr : Room k X.A) (hx : ∀ σ, PassesAt (L2.CX X.prog X.w) X σ (E σ)) (ha : PA X (e :: es) t) (hg : Gl X x := by rfl)
    (hdb : (x == ("__debug__" : Str)) = false := by decide) (he : starEach (e :: es) X.env = (false, eval e X.env) :: starEach es X.env := by rfl) (hpl : (backTo pos (starEach es X.env)).any (·.1) = false := by rfl) :
    PE X (.Call (.Name x p) (e :: es) [] pos) (tCallS sp E t) := by
  obtain ⟨f, fd, F, a, b, c⟩ := C
  refine ⟨fun pins s σ H Q I h => ?_⟩
  refine wpAny_Call_Name_kw (ld_glob I hg a ?_ hdb)
  refine PySem.W.callWith_K (h₀ := X.base) I.ok.mod.kin b (thn (ha.run pos pins s σ H _ I h) fun us s1 ⟨vs, H1, I1, r, q⟩ => ⟨I1.kIn, ?_⟩) he hpl
  exact run_fnS F hr c (hx σ) I1 r q
end
/-! ### the sure part, told otherwise -/
theorem fdiv_negs (x y : Int) : (-x).fdiv (-y) = x.fdiv y := Int.neg_fdiv_neg x y
theorem fdiv_bounds {a b : Int} (hb : 0 < b) : a.fdiv b * b ≤ a ∧ a < (a.fdiv b + 1) * b := by
  have h1 := fmod_eq a b
  have h2 := fmod_pos (a := a) hb
  have e : (a.fdiv b + 1) * b = a.fdiv b * b + b := by rw [Int.add_mul, Int.one_mul]
  rw [e]
  generalize a.fdiv b * b = z at *
  omega
theorem fdiv_is {a b q : Int} (hb : 0 < b) (h0 : q * b ≤ a) (h1 : a < (q + 1) * b) : a.fdiv b = q := by
  have e : (q + 1) * b = q * b + b := by rw [Int.add_mul, Int.one_mul]
  rw [e] at h1
  exact (fdiv_unique (q := q) (r := a - q * b) hb (by omega) (by omega) (by omega)).1
/-- all lie from q to q + 1, the first one below q + 1 -/
def Lies (ds : List (Int × Int)) (q : Int) : Prop := (∀ d ∈ ds, 0 < d.2 ∧ q * d.2 ≤ d.1 ∧ d.1 ≤ (q + 1) * d.2) ∧ ∀ d, ds.head? = some d → d.1 < (q + 1) * d.2
def negs (cs : List (Int × Int)) : List (Int × Int) := cs.map fun c => (-c.1, -c.2)
def Sure (cs : List (Int × Int)) (q : Int) : Prop := Lies cs q ∨ Lies (negs cs) q
def coreS (ds : List (Int × Int)) : Option Int :=
  if ds.all (fun d => decide (0 < d.2)) then
    let q := (ds.getD 0 (0, 0)).1.fdiv (ds.getD 0 (0, 0)).2
    if ds.all (fun d => decide (q * d.2 ≤ d.1) && decide (d.1 ≤ (q + 1) * d.2)) then some q else none
  else none
theorem coreS_iff {d0 : Int × Int} {dr : List (Int × Int)} {q : Int} : coreS (d0 :: dr) = some q ↔ Lies (d0 :: dr) q := by
  unfold coreS
  simp only [List.getD_cons_zero]
  constructor
  · intro h
    split at h
    · rename_i hp
      split at h
      · rename_i hq
        cases h
        have p : ∀ d ∈ d0 :: dr, 0 < d.2 := fun d hd => of_decide_eq_true (List.all_eq_true.mp hp d hd)
        refine ⟨fun d hd => ⟨p d hd, ?_⟩, fun d hd => ?_⟩
        · have := List.all_eq_true.mp hq d hd
          rw [Bool.and_eq_true] at this
          exact ⟨of_decide_eq_true this.1, of_decide_eq_true this.2⟩
        · cases hd
          exact (fdiv_bounds (p d0 List.mem_cons_self)).2
      · cases h
    · cases h
  · rintro ⟨h1, h2⟩
    have h0 := h1 d0 List.mem_cons_self
    have e : d0.1.fdiv d0.2 = q := fdiv_is h0.1 h0.2.1 (h2 d0 rfl)
    rw [if_pos (List.all_eq_true.mpr fun d hd => decide_eq_true (h1 d hd).1), e]
    rw [if_pos (List.all_eq_true.mpr fun d hd => by rw [Bool.and_eq_true]; exact ⟨decide_eq_true (h1 d hd).2.1, decide_eq_true (h1 d hd).2.2⟩)]
theorem surePart_core (cs : List (Int × Int)) : surePart cs = coreS (flipped cs) := rfl
theorem sure_iff {cs : List (Int × Int)} {q : Int} (hc : cs ≠ []) : surePart cs = some q ↔ Sure cs q := by
  match cs, hc with
  | c0 :: cr, _ =>
    rw [surePart_core]
    unfold flipped
    rw [List.getD_cons_zero]
    by_cases h : c0.2 < 0
    · rw [if_pos h]
      show coreS ((-c0.1, -c0.2) :: negs cr) = some q ↔ _
      rw [coreS_iff]
      constructor
      · exact fun z => .inr z
      · rintro (z | z)
        · have := (z.1 c0 List.mem_cons_self).1
          omega
        · exact z
    · rw [if_neg h, coreS_iff]
      constructor
      · exact fun z => .inl z
      · rintro (z | z)
        · exact z
        · have := (z.1 (-c0.1, -c0.2) List.mem_cons_self).1
          dsimp only at this
          omega
theorem sure_none {cs : List (Int × Int)} (hc : cs ≠ []) : surePart cs = none ↔ ∀ q, ¬ Sure cs q := by
  constructor
  · intro h q z
    rw [(sure_iff hc).mpr z] at h
    cases h
  · intro h
    cases e : surePart cs with
    | none => rfl
    | some q => exact absurd ((sure_iff hc).mp e) (h q)
theorem chain_scale : ∀ (n : Nat) {k x y : Int}, y.natAbs ≤ n → k ≠ 0 → chain (x * k) (y * k) = chain x y
  | 0, k, x, y, hn, hk => by
    have : y = 0 := by omega
    subst this
    rw [Int.zero_mul, chain_zero, chain_zero]
  | n + 1, k, x, y, hn, hk => by
    by_cases hy : y = 0
    · subst hy
      rw [Int.zero_mul, chain_zero, chain_zero]
    · have hyk : y * k ≠ 0 := Int.mul_ne_zero hy hk
      have ef : (x * k).fdiv (y * k) = x.fdiv y := by
        rcases Int.lt_or_gt_of_ne hk with h | h
        · have z := Int.mul_fdiv_mul_of_pos_left x y (b := -k) (by omega)
          rw [Int.mul_neg, Int.mul_neg, fdiv_negs] at z
          exact z
        · exact Int.mul_fdiv_mul_of_pos_left x y h
      have em : (x * k).fmod (y * k) = x.fmod y * k := by
        rw [← fmod_eq, ef, ← fmod_eq, Int.sub_mul, Int.mul_assoc]
      rw [chain_cons hyk, chain_cons hy, ef, em, chain_scale n (by have := fmod_abs (a := x) hy; omega) hk]
/-! ### order: two readings compared -/
/-- a is greater than b: an end is without bound -/
def gtA : Ans → Ans → Bool
  | .fin, _ => true
  | .part p, .part q => decide (q < p)
  | _, _ => false
def ordWord (i : Nat) (a b : Ans) : Str := if gtA a b ≠ decide (i % 2 = 1) then "more" else "less"
/-- two boxes compared, part by part -/
inductive Ord : Nat → Nat → Box → Box → Int → Option Str → Prop
  | w1 {n i m B C B' l l1} : askF m B l = some (some .waits, B', l1) → Ord (n + 1) i B C l (some "waits")
  | x1 {n i m B C B' l l1} : askF m B l = some (none, B', l1) → Ord (n + 1) i B C l none
  | w2 {n i m m' B C B' C' l l1 l2 a} : askF m B l = some (some a, B', l1) → a ≠ .waits → askF m' C l1 = some (some .waits, C', l2) → Ord (n + 1) i B C l (some "waits")
  | x2 {n i m m' B C B' C' l l1 l2 a} : askF m B l = some (some a, B', l1) → a ≠ .waits → askF m' C l1 = some (none, C', l2) → Ord (n + 1) i B C l none
  | df {n i m m' B C B' C' l l1 l2 a b} : askF m B l = some (some a, B', l1) → a ≠ .waits → askF m' C l1 = some (some b, C', l2) → b ≠ .waits → a ≠ b → Ord (n + 1) i B C l (some (ordWord i a b))
  | sm {n i m m' B C B' C' l l1 l2} : askF m B l = some (some .fin, B', l1) → askF m' C l1 = some (some .fin, C', l2) → Ord (n + 1) i B C l (some "same")
  | nx {n i m m' B C B' C' l l1 l2 p r} : askF m B l = some (some (.part p), B', l1) → askF m' C l1 = some (some (.part p), C', l2) → Ord n (i + 1) B' C' l2 r → Ord (n + 1) i B C l r
theorem eqv_parts (p q : Int) : PyData.eqv (.tuple (Ans.part p).data) (.tuple (Ans.part q).data) = decide (p = q) := by
  show PyData.eqv (.tuple [.str "part", .int p]) (.tuple [.str "part", .int q]) = decide (p = q)
  have h := SeqAt.eqv_refl (.tuple [.str "part", .int p]) (SeqAt.canLay_of_shaped (Ans.shaped (.part p)))
  by_cases e : p = q
  · subst e
    rw [h, decide_eq_true rfl]
  · rw [decide_eq_false e]
    cases z : PyData.eqv (.tuple [.str "part", .int p]) (.tuple [.str "part", .int q]) with
    | false => rfl
    | true =>
      exfalso
      simp [PyData.eqv, PyData.eqvAll, e] at z
section
variable {P : Program} {w : World} {K : PySem.W.Frag} {mg : Str → Option Value} {base : Heap} {A : Ad}
def sp_is_greater (A : Ad) (K : PySem.W.Frag) : Sp := fun vs H Q _ => ∃ (p q : Addr) (a b : Ans), vs = [.ref p, .ref q] ∧ SqT K H p a.vals ∧ SqT K H q b.vals ∧ a ≠ .waits ∧ b ≠ .waits ∧ (a ≠ .fin ∨ b ≠ .fin) ∧ Q (.bl (gtA a b)) H
theorem ok_is_greater (T : CT K mg A) (D : DT K mg A) : COk P w K mg base CX0 1 "is_greater" ["first", "second"] (sp_is_greater A K) := by
  refine COk.by D.is_greater fun f fd F => ?_
  refine F.ok sc_is_greater (fun vs H Q E h => ?_) (fun cdv Ar outer s H vs Q E hr h => ?_)
  · obtain ⟨p, q, a, b, rfl, _⟩ := h
    rfl
  · obtain ⟨p, q, a, b, rfl, hp, hq, na, nb, nf, k⟩ := h
    refine ⟨_, (pss_cons (ps_if (PW.pt (pw_or (pt_cmpR (op_eqD hr.units) (pv 0) (pe_glob (v := .ref A.k_END) (by rfl) T.g_END rfl) (nomark _)) (pw_or1 (pt_cmpR (op_eqD hr.units) (pv 1) (pe_glob (v := .ref A.k_END) (by rfl) T.g_END rfl) (nomark _)))))
      (pss_one (ps_ret (pe_cmpR (op_eqD hr.units) (pv 0) (pe_glob (v := .ref A.k_END) (by rfl) T.g_END rfl) (nomark _)))) pss_nil)
    (pss_one (ps_ret (pe_cmpR op_gt (pe_ix ix_tup (pv 0) pe_int (fun _ _ => rfl)) (pe_ix ix_tup (pv 1) pe_int (fun _ _ => rfl)) (nomark _))))), ?_⟩
    have hE := Ans.dp .fin (T.t_END H)
    refine ⟨_, rfl, _, _, a.dp hp, hE, a.shaped, Ans.shaped .fin, _, rfl, ?_⟩
    rw [eqv_fin]
    cases a with
    | waits => exact absurd rfl na
    | fin =>
      refine iteT ⟨_, rfl, _, _, Ans.dp .fin hp, hE, Ans.shaped .fin, Ans.shaped .fin, ?_⟩
      rw [eqv_fin]
      exact k
    | part x =>
      refine iteF ⟨_, rfl, _, _, b.dp hq, hE, b.shaped, Ans.shaped .fin, _, rfl, ?_⟩
      rw [eqv_fin]
      cases b with
      | waits => exact absurd rfl nb
      | fin =>
        refine iteT ⟨_, rfl, _, _, Ans.dp (.part x) hp, hE, Ans.shaped _, Ans.shaped .fin, ?_⟩
        rw [eqv_fin]
        exact k
      | part y =>
        exact iteF ⟨_, rfl, p, _, 1, _, rfl, rfl, hp, atI_nat (j := 1) rfl, _, rfl, q, _, 1, _, rfl, rfl, hq, atI_nat (j := 1) rfl, _, _, rfl, rfl, k⟩
def sp_order_at (A : Ad) (K : PySem.W.Frag) : Sp := fun vs H Q _ => ∃ (i : Nat) (p q : Addr) (a b : Ans), vs = [.int i, .ref p, .ref q] ∧ SqT K H p a.vals ∧ SqT K H q b.vals ∧ a ≠ .waits ∧ b ≠ .waits ∧ (a ≠ .fin ∨ b ≠ .fin) ∧ Q (.str (ordWord i a b)) H
theorem ok_order_at (T : CT K mg A) (D : DT K mg A) : COk P w K mg base CX0 2 "order_at" ["at", "first", "second"] (sp_order_at A K) := by
  have G_is_greater := ok_is_greater (P := P) (w := w) (base := base) T D
  refine COk.by D.order_at fun f fd F => ?_
  refine F.ok sc_order_at (fun vs H Q E h => ?_) (fun cdv Ar outer s H vs Q E hr h => ?_)
  · obtain ⟨i, p, q, a, b, rfl, _⟩ := h
    rfl
  · obtain ⟨i, p, q, a, b, rfl, hp, hq, na, nb, nf, k⟩ := h
    refine ⟨_, (pss_cons (ps_set (i := 3) sc_order_at.nd rfl (Or.inl rfl) (pe_cmpR op_eq (pe_op op_mod (pv 0) pe_int) pe_int (nomark _)))
    (pss_one (ps_ret (pe_ifExp (pt_cmpR op_ne (pe_c G_is_greater (hr.mono (by first | decide | omega)) (pa_cons (pv 1) (pa_cons (pv 2) pa_nil))) (pv 3) (nomark _)) pe_str pe_str)))), ?_⟩
    refine ⟨_, rfl, _, _, rfl, rfl, (by show (0 : Int) < 2; decide), rfl, ?_⟩
    have e1 : decide (V.int ((i : Int) % 2) = V.int 1) = decide (i % 2 = 1) := by
      rw [dec_int]
      by_cases h : i % 2 = 1
      · rw [decide_eq_true h]; exact beq_iff_eq.mpr (by omega)
      · rw [decide_eq_false h]; exact beq_eq_false_iff_ne.mpr (by omega)
    refine ⟨_, rfl, _, rfl, p, q, a, b, rfl, hp, hq, na, nb, nf, ?_⟩
    refine ⟨_, rfl, rfl, _, rfl, ?_⟩
    rw [e1]
    unfold ordWord at k
    by_cases h : gtA a b ≠ decide (i % 2 = 1)
    · rw [if_pos h] at k
      have e2 : (!decide (V.bl (gtA a b) = V.bl (decide (i % 2 = 1)))) = true := by
        rw [decide_eq_false (fun z => h (V.bl.inj z))]
        rfl
      rw [e2]
      exact iteT k
    · rw [if_neg h] at k
      have e2 : (!decide (V.bl (gtA a b) = V.bl (decide (i % 2 = 1)))) = false := by
        rw [decide_eq_true (congrArg V.bl (Classical.not_not.mp h))]
        rfl
      rw [e2]
      exact iteF k
theorem eqv_ne {a b : Ans} (ha : a ≠ .waits) (hb : b ≠ .waits) (h : a ≠ b) : PyData.eqv (.tuple a.data) (.tuple b.data) = false := by
  cases a with
  | waits => exact absurd rfl ha
  | fin =>
    cases b with
    | waits => exact absurd rfl hb
    | fin => exact absurd rfl h
    | part y => rfl
  | part x =>
    cases b with
    | waits => exact absurd rfl hb
    | fin => rfl
    | part y =>
      rw [eqv_parts, decide_eq_false (fun z => h (by rw [z]))]
theorem isW {a : Ans} (h : a ≠ .waits) : a.isWaits = false := by
  cases a with
  | waits => exact absurd rfl h
  | part n => rfl
  | fin => rfl
/-- two readings apart from each other -/
structure Two (A : Ad) (K : PySem.W.Frag) (H : Hp) (r1 a1 m1 : Addr) (fp1 : List Addr) (B1 : Box) (l1 s1 : Int) (r2 a2 m2 : Addr) (fp2 : List Addr) (B2 : Box) (l2 s2 : Int) : Prop where
  one : ReadB A K H r1 a1 m1 fp1 B1 l1 s1
  two : ReadB A K H r2 a2 m2 fp2 B2 l2 s2
  ff : ∀ c ∈ fp1, c ∉ fp2
  m1f : m1 ∉ fp2
  m2f : m2 ∉ fp1
  mm : m1 ≠ m2
  r1f : r1 ∉ fp2
  r2f : r2 ∉ fp1
  r1m : r1 ≠ m2
  r2m : r2 ≠ m1
theorem Two.swap {H : Hp} {r1 a1 m1 r2 a2 m2 : Addr} {fp1 fp2 : List Addr} {B1 B2 : Box} {l1 s1 l2 s2 : Int} (h : Two A K H r1 a1 m1 fp1 B1 l1 s1 r2 a2 m2 fp2 B2 l2 s2) : Two A K H r2 a2 m2 fp2 B2 l2 s2 r1 a1 m1 fp1 B1 l1 s1 :=
  ⟨h.two, h.one, fun c hc z => h.ff c z hc, h.m2f, h.m1f, h.mm.symm, h.r2f, h.r1f, h.r2m, h.r1m⟩
theorem Two.same {H H' : Hp} {r1 a1 m1 r2 a2 m2 : Addr} {fp1 fp2 : List Addr} {B1 B2 : Box} {l1 s1 l2 s2 : Int} (h : Two A K H r1 a1 m1 fp1 B1 l1 s1 r2 a2 m2 fp2 B2 l2 s2) (s : Same H H') : Two A K H' r1 a1 m1 fp1 B1 l1 s1 r2 a2 m2 fp2 B2 l2 s2 :=
  ⟨h.one.same s, h.two.same s, h.ff, h.m1f, h.m2f, h.mm, h.r1f, h.r2f, h.r1m, h.r2m⟩
/-- the first one was asked -/
theorem Two.ask {H H' : Hp} {r1 a1 m1 r2 a2 m2 : Addr} {fp1 fp2 fp' : List Addr} {B1 B2 B' : Box} {l1 s1 l2 s2 l' s' : Int} (h : Two A K H r1 a1 m1 fp1 B1 l1 s1 r2 a2 m2 fp2 B2 l2 s2) (R : ReadB A K H' r1 a1 m1 fp' B' l' s') (fr : ∀ c z, H c = some z → c ∉ fp1 → c ≠ m1 → H' c = some z) (sub : ∀ c ∈ fp', c ∈ fp1 ∨ H c = none) : Two A K H' r1 a1 m1 fp' B' l' s' r2 a2 m2 fp2 B2 l2 s2 := by
  obtain ⟨dm, em⟩ := h.one.mt
  have free : ∀ c, H c = none → c ∉ fp2 ∧ c ≠ m2 ∧ c ≠ r2 := fun c e => by
    refine ⟨fun z => ?_, fun z => ?_, fun z => ?_⟩
    · rcases h.two.bx.soft c z with ⟨_, _, _, q⟩ | ⟨_, q⟩
      · rw [e] at q; cases q
      · rw [e] at q; cases q
    · obtain ⟨dm2, em2⟩ := h.two.mt
      rw [z, em2] at e; cases e
    · obtain ⟨rx2, er2⟩ := h.two.rd
      rw [z, er2] at e; cases e
  refine ⟨R, h.two.kept (N := fun c => c ∈ fp1 ∨ c = m1) (fun c o e n => fr c o e (fun z => n (.inl z)) fun z => n (.inr z)) (fun c o z e => ?_) (fun z => ?_) (fun z => ?_) (fun c hc z => ?_), fun c hc => ?_, h.m1f, fun z => ?_, h.mm, h.r1f, fun z => ?_, h.r1m, h.r2m⟩
  · rcases z with z | z
    · exact (h.one.bx.soft c z).no e
    · rw [z, em] at e; exact ins_no (Option.some.inj e).symm
  · exact z.elim h.r2f h.r2m
  · exact z.elim h.m2f h.mm.symm
  · rcases z with z | z
    · exact h.ff c z hc
    · exact h.m1f (z ▸ hc)
  · rcases sub c hc with z | z
    · exact h.ff c z
    · exact (free c z).1
  · rcases sub m2 z with y | y
    · exact h.m2f y
    · exact (free m2 y).2.1 rfl
  · rcases sub r2 z with y | y
    · exact h.r2f y
    · exact (free r2 y).2.2 rfl
theorem Ord.pos {n i : Nat} {B C : Box} {l : Int} {r : Option Str} (h : Ord n i B C l r) : ∃ m, n = m + 1 := by
  cases h <;> exact ⟨_, rfl⟩
/-- the word that is told, or NoValue -/
def OrdQ (A : Ad) (Q : VK) (E : XK) (H : Hp) : Option Str → Prop
  | some wd => Q (.str wd) H
  | none => E (.ref A.c_NoValue) none H
def sp_order_of (A : Ad) (K : PySem.W.Frag) (d : Nat) : Sp := fun vs H Q E => ∃ (r1 a1 m1 r2 a2 m2 : Addr) (fp1 fp2 : List Addr) (B1 B2 : Box) (l1 s1 l2 s2 most : Int) (n : Nat) (res : Option Str), vs = [.ref r1, .ref r2, .int most] ∧ Two A K H r1 a1 m1 fp1 B1 l1 s1 r2 a2 m2 fp2 B2 l2 s2 ∧ B1.wt ≤ d ∧ B2.wt ≤ d ∧ Ord n 0 B1 B2 (most - s1 - s2) res ∧
  ∀ H', (∀ c z, H c = some z → c ∉ fp1 → c ∉ fp2 → c ≠ m1 → c ≠ m2 → H' c = some z) → OrdQ A Q E H' res
theorem ok_order_of (T : CT K mg A) (D : DT K mg A) (d : Nat) : COk P w K mg base (L2.CX P w) (6 + d + 2) "order_of" ["one", "other", "most"] (sp_order_of A K d) := by
  have G_order_at := ok_order_at (P := P) (w := w) (base := base) T D
  have M_part := ok_partB (P := P) (w := w) (base := base) T D d
  have M_took := ok_tookB (P := P) (w := w) (base := base) T D
  refine COk.by D.order_of fun f fd F => ?_
  refine F.okX (k := 6 + d + 1) sc_order_of (fun vs H Q E h => ?_) (fun cdv Ar outer s H vs Q E hr h => ?_)
  · obtain ⟨r1, a1, m1, r2, a2, m2, fp1, fp2, B1, B2, l1, s1, l2, s2, most, n, res, rfl, _⟩ := h
    rfl
  · obtain ⟨r1, a1, m1, r2, a2, m2, fp1, fp2, B1, B2, l1, s1, l2, s2, most, n, res, rfl, T2, w1, w2, od, k⟩ := h
    refine ⟨_, (pss_cons (ps_set (i := 3) sc_order_of.nd rfl (Or.inl rfl) pe_int)
    (pss_one (ps_while (passes_of rfl) (pt_val pe_bl)
      (pss_cons (ps_set (i := 4) sc_order_of.nd rfl (Or.inl rfl) (pe_mX M_part (hr.mono (by first | decide | omega)) (passes_tk (takes_of rfl rfl rfl rfl)) (pv 0) (pa_cons (pe_op op_sub (pe_op op_sub (pv 2) (pe_m0 M_took (hr.mono (by first | decide | omega)) (pv 0))) (pe_m0 M_took (hr.mono (by first | decide | omega)) (pv 1))) pa_nil)))
    (pss_cons (ps_if (pt_cmpR (op_eqD hr.units) (pv 4) (pe_glob (v := .ref A.k_WAITS) (by rfl) T.g_WAITS rfl) (nomark _))
      (pss_one (ps_ret pe_str)) pss_nil)
    (pss_cons (ps_set (i := 5) sc_order_of.nd rfl (Or.inl rfl) (pe_mX M_part (hr.mono (by first | decide | omega)) (passes_tk (takes_of rfl rfl rfl rfl)) (pv 1) (pa_cons (pe_op op_sub (pe_op op_sub (pv 2) (pe_m0 M_took (hr.mono (by first | decide | omega)) (pv 0))) (pe_m0 M_took (hr.mono (by first | decide | omega)) (pv 1))) pa_nil)))
    (pss_cons (ps_if (pt_cmpR (op_eqD hr.units) (pv 5) (pe_glob (v := .ref A.k_WAITS) (by rfl) T.g_WAITS rfl) (nomark _))
      (pss_one (ps_ret pe_str)) pss_nil)
    (pss_cons (ps_if (pt_cmpR (op_neD hr.units) (pv 4) (pv 5) (nomark _))
      (pss_one (ps_ret (pe_c G_order_at (hr.mono (by first | decide | omega)) (pa_cons (pv 3) (pa_cons (pv 4) (pa_cons (pv 5) pa_nil)))))) pss_nil)
    (pss_cons (ps_if (pt_cmpR (op_eqD hr.units) (pv 4) (pe_glob (v := .ref A.k_END) (by rfl) T.g_END rfl) (nomark _))
      (pss_one (ps_ret pe_str)) pss_nil)
    (pss_one (ps_aug (i := 3) sc_order_of.nd rfl (Or.inl rfl) pe_int ip_add))))))))))), ?_⟩
    obtain ⟨own, hown⟩ : ∃ own : Addr → Prop, own = fun c => c ∈ fp1 ∨ c ∈ fp2 ∨ c = m1 ∨ c = m2 := ⟨_, rfl⟩
    have kk : ∀ H', (∀ c z, H c = some z → ¬ own c → H' c = some z) → OrdQ A Q E H' res := fun H' h => k H' fun c z e n1 n2 n3 n4 => h c z e (by rw [hown]; rintro (y | y | y | y); exact n1 y; exact n2 y; exact n3 y; exact n4 y)
    have om1 : own m1 := by rw [hown]; exact .inr (.inr (.inl rfl))
    have om2 : own m2 := by rw [hown]; exact .inr (.inr (.inr rfl))
    refine while_nat (fun n σ H' => ∃ (i : Nat) (fp1' fp2' : List Addr) (B1 B2 : Box) (l1 s1 l2 s2 : Int) (v4 v5 : Option V), σ = [some (.ref r1), some (.ref r2), some (.int most), some (.int i), v4, v5] ∧ Two A K H' r1 a1 m1 fp1' B1 l1 s1 r2 a2 m2 fp2' B2 l2 s2 ∧ B1.wt ≤ d ∧ B2.wt ≤ d ∧ Ord n i B1 B2 (most - s1 - s2) res ∧
        (∀ c z, H c = some z → ¬ own c → H' c = some z) ∧ (∀ c ∈ fp1', own c ∨ H c = none) ∧ (∀ c ∈ fp2', own c ∨ H c = none))
      (m0 := n) ⟨0, fp1, fp2, B1, B2, l1, s1, l2, s2, none, none, rfl, T2, w1, w2, od, fun c z e _ => e, fun c hc => .inl (by rw [hown]; exact .inl hc), fun c hc => .inl (by rw [hown]; exact .inr (.inl hc))⟩ ?_ ?_
    · rintro n σ H1 ⟨i, fp1', fp2', B1, B2, l1, s1, l2, s2, v4, v5, rfl, T2, w1, w2, od, fr1, sub1, sub2⟩
      refine ⟨_, rfl, iteT ?_⟩
      obtain ⟨rx1, er1⟩ := T2.one.rd
      obtain ⟨rx2, er2⟩ := T2.two.rd
      -- what is kept where one of them is asked
      have step : ∀ {Ha Hb : Hp} {fpa fpb : List Addr} {ma : Addr}, own ma → (∀ c z, H c = some z → ¬ own c → Ha c = some z) → (∀ c ∈ fpa, own c ∨ H c = none) → (∀ c z, Ha c = some z → c ∉ fpa → c ≠ ma → Hb c = some z) → (∀ c ∈ fpb, c ∈ fpa ∨ Ha c = none) →
          (∀ c z, H c = some z → ¬ own c → Hb c = some z) ∧ (∀ c ∈ fpb, own c ∨ H c = none) := fun {Ha Hb fpa fpb ma} oma fra suba frb subb => by
        refine ⟨fun c z e n => frb c z (fra c z e n) (fun q => ?_) (fun q => n (q ▸ oma)), fun c hc => ?_⟩
        · rcases suba c q with y | y
          · exact n y
          · rw [e] at y; cases y
        · rcases subb c hc with y | y
          · exact suba c y
          · cases z : H c with
            | none => exact .inr rfl
            | some o =>
              rcases Classical.em (own c) with q | q
              · exact .inl q
              · rw [fra c o z q] at y; cases y
      have ew : ∀ x : Int, most - (s1 + (most - s1 - s2 - x)) - s2 = x := fun x => by omega
      have ew2 : ∀ x y : Int, most - (s1 + (most - s1 - s2 - x)) - (s2 + (x - y)) = y := fun x y => by omega
      -- the first one is asked
      have first : ∀ {m : Nat} {o : Option Ans} {B' : Box} {l' : Int}, askF m B1 (most - s1 - s2) = some (o, B', l') → ∀ {H2 : Hp} {fp' : List Addr}, ReadB A K H2 r1 a1 m1 fp' B' l' (s1 + (most - s1 - s2 - l')) → (∀ c z, H1 c = some z → c ∉ fp1' → c ≠ m1 → H2 c = some z) → (∀ c ∈ fp', c ∈ fp1' ∨ H1 c = none) →
          Two A K H2 r1 a1 m1 fp' B' l' (s1 + (most - s1 - s2 - l')) r2 a2 m2 fp2' B2 l2 s2 ∧ B'.wt ≤ d ∧ (∀ c z, H c = some z → ¬ own c → H2 c = some z) ∧ (∀ c ∈ fp', own c ∨ H c = none) := fun {m o B' l'} e {H2 fp'} R2 fr2 subx => by
        obtain ⟨g1, g2⟩ := step om1 fr1 sub1 fr2 subx
        exact ⟨T2.ask R2 fr2 subx, Nat.le_trans (askF_ok T2.one.ok e).2.1 w1, g1, g2⟩
      have second : ∀ {H2 : Hp} {fpx : List Addr} {B' : Box} {l' : Int}, Two A K H2 r1 a1 m1 fpx B' l' (s1 + (most - s1 - s2 - l')) r2 a2 m2 fp2' B2 l2 s2 → (∀ c z, H c = some z → ¬ own c → H2 c = some z) → (∀ c ∈ fpx, own c ∨ H c = none) → ∀ {m : Nat} {o : Option Ans} {C' : Box} {l3 : Int}, askF m B2 l' = some (o, C', l3) →
          ∀ {H3 : Hp} {fp' : List Addr}, ReadB A K H3 r2 a2 m2 fp' C' l3 (s2 + (l' - l3)) → (∀ c z, H2 c = some z → c ∉ fp2' → c ≠ m2 → H3 c = some z) → (∀ c ∈ fp', c ∈ fp2' ∨ H2 c = none) →
          Two A K H3 r1 a1 m1 fpx B' l' (s1 + (most - s1 - s2 - l')) r2 a2 m2 fp' C' l3 (s2 + (l' - l3)) ∧ C'.wt ≤ d ∧ (∀ c z, H c = some z → ¬ own c → H3 c = some z) ∧ (∀ c ∈ fp', own c ∨ H c = none) ∧ (∀ p xs, SqT K H2 p xs → SqT K H3 p xs) := fun {H2 fpx B' l'} T3 fr2 subx {m o C' l3} e {H3 fp'} R3 fr3 suby => by
        obtain ⟨g1, g2⟩ := step om2 fr2 sub2 fr3 suby
        obtain ⟨dm2, em2⟩ := T3.two.mt
        exact ⟨(T3.swap.ask R3 fr3 suby).swap, Nat.le_trans (askF_ok T2.two.ok e).2.1 w2, g1, g2, fun p xs hp => sqT_frame hp T3.two.bx.soft ⟨_, _, _, em2⟩ fr3⟩
      have hW : ∀ H0 : Hp, Dp K H0 (.ref A.k_WAITS) (.tuple Ans.waits.data) := fun H0 => Ans.dp .waits (T.t_WAITS H0)
      have hE : ∀ H0 : Hp, Dp K H0 (.ref A.k_END) (.tuple Ans.fin.data) := fun H0 => Ans.dp .fin (T.t_END H0)
      cases od with
      | w1 e =>
        refine ⟨_, rfl, r1, rx1, _, rfl, er1, rfl, _, rfl, _, rfl, r1, rx1, _, rfl, er1, rfl, r1, a1, m1, fp1', B1, l1, s1, rfl, T2.one, _, _, rfl, rfl, _, rfl, r2, rx2, _, rfl, er2, rfl, r2, a2, m2, fp2', B2, l2, s2, rfl, T2.two, _, _, rfl, rfl, r1, a1, m1, fp1', B1, l1, s1, _, _, _, _, _, rfl, T2.one, w1, e, fun H2 fpx R2 fr2 subx => ?_⟩
        obtain ⟨T3, w3, fr2, subx⟩ := first e R2 fr2 subx
        intro v hv
        obtain ⟨p, rfl, hp⟩ := Ans.At.tup T hv
        refine ⟨_, rfl, _, _, Ans.dp _ hp, hW H2, Ans.shaped _, Ans.shaped _, _, rfl, ?_⟩
        rw [eqv_waits]
        exact iteT (kk H2 fr2)
      | x1 e =>
        refine ⟨_, rfl, r1, rx1, _, rfl, er1, rfl, _, rfl, _, rfl, r1, rx1, _, rfl, er1, rfl, r1, a1, m1, fp1', B1, l1, s1, rfl, T2.one, _, _, rfl, rfl, _, rfl, r2, rx2, _, rfl, er2, rfl, r2, a2, m2, fp2', B2, l2, s2, rfl, T2.two, _, _, rfl, rfl, r1, a1, m1, fp1', B1, l1, s1, _, _, _, _, _, rfl, T2.one, w1, e, fun H2 fpx R2 fr2 subx => ?_⟩
        obtain ⟨T3, w3, fr2, subx⟩ := first e R2 fr2 subx
        exact kk H2 fr2
      | w2 e na e2 =>
        refine ⟨_, rfl, r1, rx1, _, rfl, er1, rfl, _, rfl, _, rfl, r1, rx1, _, rfl, er1, rfl, r1, a1, m1, fp1', B1, l1, s1, rfl, T2.one, _, _, rfl, rfl, _, rfl, r2, rx2, _, rfl, er2, rfl, r2, a2, m2, fp2', B2, l2, s2, rfl, T2.two, _, _, rfl, rfl, r1, a1, m1, fp1', B1, l1, s1, _, _, _, _, _, rfl, T2.one, w1, e, fun H2 fpx R2 fr2 subx => ?_⟩
        obtain ⟨T3, w3, fr2, subx⟩ := first e R2 fr2 subx
        intro v hv
        obtain ⟨p, rfl, hp⟩ := Ans.At.tup T hv
        refine ⟨_, rfl, _, _, Ans.dp _ hp, hW H2, Ans.shaped _, Ans.shaped _, _, rfl, ?_⟩
        rw [eqv_waits, isW na]
        obtain ⟨rx1, er1⟩ := T3.one.rd
        obtain ⟨rx2, er2⟩ := T3.two.rd
        refine iteF ⟨_, rfl, r2, rx2, _, rfl, er2, rfl, _, rfl, _, rfl, r1, rx1, _, rfl, er1, rfl, r1, a1, m1, fpx, _, _, _, rfl, T3.one, _, _, rfl, rfl, _, rfl, r2, rx2, _, rfl, er2, rfl, r2, a2, m2, fp2', B2, l2, s2, rfl, T3.two, _, _, rfl, rfl, r2, a2, m2, fp2', B2, l2, s2, _, _, _, _, _, rfl, T3.two, w2, by rw [ew]; exact e2, ?_⟩
        rw [ew]
        intro H3 fpy R3 fr3 suby
        obtain ⟨T4, w4, fr3, suby, tk⟩ := second T3 fr2 subx e2 R3 fr3 suby
        intro v hv
        obtain ⟨p2, rfl, hp2⟩ := Ans.At.tup T hv
        refine ⟨_, rfl, _, _, Ans.dp _ hp2, hW H3, Ans.shaped _, Ans.shaped _, _, rfl, ?_⟩
        rw [eqv_waits]
        exact iteT (kk H3 fr3)
      | x2 e na e2 =>
        refine ⟨_, rfl, r1, rx1, _, rfl, er1, rfl, _, rfl, _, rfl, r1, rx1, _, rfl, er1, rfl, r1, a1, m1, fp1', B1, l1, s1, rfl, T2.one, _, _, rfl, rfl, _, rfl, r2, rx2, _, rfl, er2, rfl, r2, a2, m2, fp2', B2, l2, s2, rfl, T2.two, _, _, rfl, rfl, r1, a1, m1, fp1', B1, l1, s1, _, _, _, _, _, rfl, T2.one, w1, e, fun H2 fpx R2 fr2 subx => ?_⟩
        obtain ⟨T3, w3, fr2, subx⟩ := first e R2 fr2 subx
        intro v hv
        obtain ⟨p, rfl, hp⟩ := Ans.At.tup T hv
        refine ⟨_, rfl, _, _, Ans.dp _ hp, hW H2, Ans.shaped _, Ans.shaped _, _, rfl, ?_⟩
        rw [eqv_waits, isW na]
        obtain ⟨rx1, er1⟩ := T3.one.rd
        obtain ⟨rx2, er2⟩ := T3.two.rd
        refine iteF ⟨_, rfl, r2, rx2, _, rfl, er2, rfl, _, rfl, _, rfl, r1, rx1, _, rfl, er1, rfl, r1, a1, m1, fpx, _, _, _, rfl, T3.one, _, _, rfl, rfl, _, rfl, r2, rx2, _, rfl, er2, rfl, r2, a2, m2, fp2', B2, l2, s2, rfl, T3.two, _, _, rfl, rfl, r2, a2, m2, fp2', B2, l2, s2, _, _, _, _, _, rfl, T3.two, w2, by rw [ew]; exact e2, ?_⟩
        rw [ew]
        intro H3 fpy R3 fr3 suby
        obtain ⟨T4, w4, fr3, suby, tk⟩ := second T3 fr2 subx e2 R3 fr3 suby
        exact kk H3 fr3
      | @df n _ m m' _ _ _ _ _ _ _ aa bb e na e2 nb ne =>
        refine ⟨_, rfl, r1, rx1, _, rfl, er1, rfl, _, rfl, _, rfl, r1, rx1, _, rfl, er1, rfl, r1, a1, m1, fp1', B1, l1, s1, rfl, T2.one, _, _, rfl, rfl, _, rfl, r2, rx2, _, rfl, er2, rfl, r2, a2, m2, fp2', B2, l2, s2, rfl, T2.two, _, _, rfl, rfl, r1, a1, m1, fp1', B1, l1, s1, _, _, _, _, _, rfl, T2.one, w1, e, fun H2 fpx R2 fr2 subx => ?_⟩
        obtain ⟨T3, w3, fr2, subx⟩ := first e R2 fr2 subx
        intro v hv
        obtain ⟨p, rfl, hp⟩ := Ans.At.tup T hv
        refine ⟨_, rfl, _, _, Ans.dp _ hp, hW H2, Ans.shaped _, Ans.shaped _, _, rfl, ?_⟩
        rw [eqv_waits, isW na]
        obtain ⟨rx1, er1⟩ := T3.one.rd
        obtain ⟨rx2, er2⟩ := T3.two.rd
        refine iteF ⟨_, rfl, r2, rx2, _, rfl, er2, rfl, _, rfl, _, rfl, r1, rx1, _, rfl, er1, rfl, r1, a1, m1, fpx, _, _, _, rfl, T3.one, _, _, rfl, rfl, _, rfl, r2, rx2, _, rfl, er2, rfl, r2, a2, m2, fp2', B2, l2, s2, rfl, T3.two, _, _, rfl, rfl, r2, a2, m2, fp2', B2, l2, s2, _, _, _, _, _, rfl, T3.two, w2, by rw [ew]; exact e2, ?_⟩
        rw [ew]
        intro H3 fpy R3 fr3 suby
        obtain ⟨T4, w4, fr3, suby, tk⟩ := second T3 fr2 subx e2 R3 fr3 suby
        intro v hv
        obtain ⟨p2, rfl, hp2⟩ := Ans.At.tup T hv
        refine ⟨_, rfl, _, _, Ans.dp _ hp2, hW H3, Ans.shaped _, Ans.shaped _, _, rfl, ?_⟩
        rw [eqv_waits, isW nb]
        have hp' := tk _ _ hp
        refine iteF ⟨_, rfl, _, rfl, _, _, Ans.dp aa hp', Ans.dp bb hp2, Ans.shaped _, Ans.shaped _, _, rfl, ?_⟩
        have e3 : (!PyData.eqv (.tuple aa.data) (.tuple bb.data)) = true := by rw [eqv_ne na nb ne]; rfl
        rw [e3]
        refine iteT ⟨_, rfl, _, rfl, _, rfl, i, p, p2, aa, bb, rfl, hp', hp2, na, nb, ?_, kk H3 fr3⟩
        cases aa with
        | fin => exact .inr fun z => ne z.symm
        | part x => exact .inl (by intro z; cases z)
        | waits => exact absurd rfl na
      | sm e e2 =>
        refine ⟨_, rfl, r1, rx1, _, rfl, er1, rfl, _, rfl, _, rfl, r1, rx1, _, rfl, er1, rfl, r1, a1, m1, fp1', B1, l1, s1, rfl, T2.one, _, _, rfl, rfl, _, rfl, r2, rx2, _, rfl, er2, rfl, r2, a2, m2, fp2', B2, l2, s2, rfl, T2.two, _, _, rfl, rfl, r1, a1, m1, fp1', B1, l1, s1, _, _, _, _, _, rfl, T2.one, w1, e, fun H2 fpx R2 fr2 subx => ?_⟩
        obtain ⟨T3, w3, fr2, subx⟩ := first e R2 fr2 subx
        intro v hv
        obtain ⟨p, rfl, hp⟩ := Ans.At.tup T hv
        refine ⟨_, rfl, _, _, Ans.dp _ hp, hW H2, Ans.shaped _, Ans.shaped _, _, rfl, ?_⟩
        rw [eqv_waits, isW (a := .fin) (by intro z; cases z)]
        obtain ⟨rx1, er1⟩ := T3.one.rd
        obtain ⟨rx2, er2⟩ := T3.two.rd
        refine iteF ⟨_, rfl, r2, rx2, _, rfl, er2, rfl, _, rfl, _, rfl, r1, rx1, _, rfl, er1, rfl, r1, a1, m1, fpx, _, _, _, rfl, T3.one, _, _, rfl, rfl, _, rfl, r2, rx2, _, rfl, er2, rfl, r2, a2, m2, fp2', B2, l2, s2, rfl, T3.two, _, _, rfl, rfl, r2, a2, m2, fp2', B2, l2, s2, _, _, _, _, _, rfl, T3.two, w2, by rw [ew]; exact e2, ?_⟩
        rw [ew]
        intro H3 fpy R3 fr3 suby
        obtain ⟨T4, w4, fr3, suby, tk⟩ := second T3 fr2 subx e2 R3 fr3 suby
        intro v hv
        obtain ⟨p2, rfl, hp2⟩ := Ans.At.tup T hv
        refine ⟨_, rfl, _, _, Ans.dp _ hp2, hW H3, Ans.shaped _, Ans.shaped _, _, rfl, ?_⟩
        rw [eqv_waits, isW (a := .fin) (by intro z; cases z)]
        have hp' := tk _ _ hp
        refine iteF ⟨_, rfl, _, rfl, _, _, Ans.dp .fin hp', Ans.dp .fin hp2, Ans.shaped _, Ans.shaped _, _, rfl, ?_⟩
        rw [SeqAt.eqv_refl _ (SeqAt.canLay_of_shaped (Ans.shaped .fin))]
        refine iteF ⟨_, rfl, _, _, Ans.dp .fin hp', hE H3, Ans.shaped _, Ans.shaped _, _, rfl, ?_⟩
        rw [eqv_fin]
        exact iteT (kk H3 fr3)
      | @nx n _ m m' _ _ B3 C3 _ x1 x2 pp _ e e2 od =>
        refine ⟨_, rfl, r1, rx1, _, rfl, er1, rfl, _, rfl, _, rfl, r1, rx1, _, rfl, er1, rfl, r1, a1, m1, fp1', B1, l1, s1, rfl, T2.one, _, _, rfl, rfl, _, rfl, r2, rx2, _, rfl, er2, rfl, r2, a2, m2, fp2', B2, l2, s2, rfl, T2.two, _, _, rfl, rfl, r1, a1, m1, fp1', B1, l1, s1, _, _, _, _, _, rfl, T2.one, w1, e, fun H2 fpx R2 fr2 subx => ?_⟩
        obtain ⟨T3, w3, fr2, subx⟩ := first e R2 fr2 subx
        intro v hv
        obtain ⟨p, rfl, hp⟩ := Ans.At.tup T hv
        refine ⟨_, rfl, _, _, Ans.dp _ hp, hW H2, Ans.shaped _, Ans.shaped _, _, rfl, ?_⟩
        rw [eqv_waits, isW (a := .part pp) (by intro z; cases z)]
        obtain ⟨rx1, er1⟩ := T3.one.rd
        obtain ⟨rx2, er2⟩ := T3.two.rd
        refine iteF ⟨_, rfl, r2, rx2, _, rfl, er2, rfl, _, rfl, _, rfl, r1, rx1, _, rfl, er1, rfl, r1, a1, m1, fpx, _, _, _, rfl, T3.one, _, _, rfl, rfl, _, rfl, r2, rx2, _, rfl, er2, rfl, r2, a2, m2, fp2', B2, l2, s2, rfl, T3.two, _, _, rfl, rfl, r2, a2, m2, fp2', B2, l2, s2, _, _, _, _, _, rfl, T3.two, w2, by rw [ew]; exact e2, ?_⟩
        rw [ew]
        intro H3 fpy R3 fr3 suby
        obtain ⟨T4, w4, fr3, suby, tk⟩ := second T3 fr2 subx e2 R3 fr3 suby
        intro v hv
        obtain ⟨p2, rfl, hp2⟩ := Ans.At.tup T hv
        refine ⟨_, rfl, _, _, Ans.dp _ hp2, hW H3, Ans.shaped _, Ans.shaped _, _, rfl, ?_⟩
        rw [eqv_waits, isW (a := .part pp) (by intro z; cases z)]
        have hp' := tk _ _ hp
        refine iteF ⟨_, rfl, _, rfl, _, _, Ans.dp (.part pp) hp', Ans.dp (.part pp) hp2, Ans.shaped _, Ans.shaped _, _, rfl, ?_⟩
        rw [SeqAt.eqv_refl _ (SeqAt.canLay_of_shaped (Ans.shaped (.part pp)))]
        refine iteF ⟨_, rfl, _, _, Ans.dp (.part pp) hp', hE H3, Ans.shaped _, Ans.shaped _, _, rfl, ?_⟩
        rw [eqv_fin]
        refine iteF ⟨_, rfl, _, _, rfl, rfl, n, Nat.lt_succ_self _, i + 1, fpx, fpy, B3, C3, _, _, _, _, _, _, rfl, T4, w3, w4, ?_, fr3, ?_, suby⟩
        · rw [ew2]; exact od
        · exact subx
    · intro σ H2 Q1 Q2 im hq
      obtain ⟨b, e, z⟩ := hq
      exact ⟨b, e, im _ _ z⟩
end
/-! ### two chains compared -/
def cmpL : List Int → List Int → Nat → Int → Str
  | [], [], _, _ => "same"
  | [], q :: _, i, l => if l < 1 then "waits" else ordWord i .fin (.part q)
  | p :: _, [], i, l => if l < 1 then "waits" else ordWord i (.part p) .fin
  | p :: cs, q :: ds, i, l => if l < 2 then "waits" else if p = q then cmpL cs ds (i + 1) (l - 2) else ordWord i (.part p) (.part q)
/-- how many parts of both that wants -/
def want : List Int → List Int → Int
  | [], [] => 0
  | [], _ :: _ => 1
  | _ :: _, [] => 1
  | p :: cs, q :: ds => if p = q then 2 + want cs ds else 2
theorem want_nn : ∀ cs ds : List Int, 0 ≤ want cs ds
  | [], [] => by decide
  | [], _ :: _ => by show (0 : Int) ≤ 1; decide
  | _ :: _, [] => by show (0 : Int) ≤ 1; decide
  | p :: cs, q :: ds => by
    have := want_nn cs ds
    unfold want
    split <;> omega
theorem want_le : ∀ cs ds : List Int, want cs ds ≤ 2 * cs.length + 1
  | [], [] => by show (0 : Int) ≤ 1; decide
  | [], _ :: _ => by show (1 : Int) ≤ 1; decide
  | _ :: _, [] => by show (1 : Int) ≤ _; rw [List.length_cons]; omega
  | p :: cs, q :: ds => by
    have := want_le cs ds
    rw [List.length_cons]
    unfold want
    split <;> omega
theorem want_comm : ∀ cs ds : List Int, want cs ds = want ds cs
  | [], [] => rfl
  | [], _ :: _ => rfl
  | _ :: _, [] => rfl
  | p :: cs, q :: ds => by
    have := want_comm cs ds
    unfold want
    by_cases h : p = q
    · rw [if_pos h, if_pos h.symm, this]
    · rw [if_neg h, if_neg (fun z => h z.symm)]
/-- 1 where the first number is the greater one, -1 where it is the lesser -/
def sgnL : List Int → List Int → Int
  | [], [] => 0
  | [], _ :: _ => 1
  | _ :: _, [] => -1
  | p :: cs, q :: ds => if p = q then -sgnL cs ds else if q < p then 1 else -1
def wordOf (z : Int) : Str := if z < 0 then "less" else if 0 < z then "more" else "same"
def par (i : Nat) (z : Int) : Int := if i % 2 = 1 then -z else z
theorem par_succ (i : Nat) (z : Int) : par (i + 1) z = par i (-z) := by
  unfold par
  rcases Nat.mod_two_eq_zero_or_one i with h | h
  · rw [if_pos (by omega), if_neg (by omega)]
  · rw [if_neg (by omega), if_pos h]; omega
theorem ordWord_is (i : Nat) (a b : Ans) : ordWord i a b = wordOf (par i (if gtA a b = true then 1 else -1)) := by
  unfold ordWord par wordOf
  rcases Nat.mod_two_eq_zero_or_one i with h | h
  · rw [if_neg (show ¬ i % 2 = 1 by omega), decide_eq_false (show ¬ i % 2 = 1 by omega)]
    cases gtA a b with
    | true => rfl
    | false => rfl
  · rw [if_pos h, decide_eq_true h]
    cases gtA a b with
    | true => rfl
    | false => rfl
theorem cmpL_is : ∀ (cs ds : List Int) (i : Nat) (l : Int), cmpL cs ds i l = if l < want cs ds then (if cs = [] ∧ ds = [] then ("same" : Str) else "waits") else wordOf (par i (sgnL cs ds))
  | [], [], i, l => by
    show ("same" : Str) = _
    have e : wordOf (par i (sgnL [] [])) = "same" := by
      show wordOf (par i 0) = "same"
      unfold par
      split <;> rfl
    by_cases h : l < want [] []
    · rw [if_pos h, if_pos ⟨rfl, rfl⟩]
    · rw [if_neg h, e]
  | [], q :: ds, i, l => by
    show (if l < 1 then ("waits" : Str) else ordWord i .fin (.part q)) = if l < 1 then _ else _
    rw [ordWord_is]
    rfl
  | p :: cs, [], i, l => by
    show (if l < 1 then ("waits" : Str) else ordWord i (.part p) .fin) = if l < 1 then _ else _
    rw [ordWord_is]
    rfl
  | p :: cs, q :: ds, i, l => by
    have ih := cmpL_is cs ds (i + 1) (l - 2)
    have nn := want_nn cs ds
    have ne : ¬ (p :: cs = [] ∧ q :: ds = []) := fun z => by cases z.1
    by_cases h : p = q
    · have e1 : want (p :: cs) (q :: ds) = 2 + want cs ds := if_pos h
      have e2 : sgnL (p :: cs) (q :: ds) = -sgnL cs ds := if_pos h
      show (if l < 2 then ("waits" : Str) else if p = q then cmpL cs ds (i + 1) (l - 2) else _) = _
      rw [e1, e2, if_pos h, ih, par_succ]
      by_cases h2 : l < 2
      · rw [if_pos h2, if_pos (show l < 2 + want cs ds by omega), if_neg ne]
      · rw [if_neg h2]
        by_cases h3 : l - 2 < want cs ds
        · have n2 : ¬ (cs = [] ∧ ds = []) := by
            rintro ⟨rfl, rfl⟩
            have : want [] [] = 0 := rfl
            omega
          rw [if_pos h3, if_neg n2, if_pos (show l < 2 + want cs ds by omega), if_neg ne]
        · rw [if_neg h3, if_neg (show ¬ l < 2 + want cs ds by omega)]
    · have e1 : want (p :: cs) (q :: ds) = 2 := if_neg h
      have e2 : sgnL (p :: cs) (q :: ds) = if q < p then 1 else -1 := if_neg h
      show (if l < 2 then ("waits" : Str) else if p = q then _ else ordWord i (.part p) (.part q)) = _
      rw [e1, e2, if_neg h, ordWord_is, if_neg ne]
      have : (if gtA (.part p) (.part q) = true then (1 : Int) else -1) = if q < p then 1 else -1 := by
        show (if decide (q < p) = true then (1 : Int) else -1) = _
        simp
      rw [this]
theorem sgnL_comm : ∀ cs ds : List Int, sgnL ds cs = -sgnL cs ds
  | [], [] => rfl
  | [], _ :: _ => rfl
  | _ :: _, [] => rfl
  | p :: cs, q :: ds => by
    have := sgnL_comm cs ds
    unfold sgnL
    by_cases h : p = q
    · rw [if_pos h, if_pos h.symm, this]
    · rw [if_neg h, if_neg (fun z => h z.symm)]
      by_cases h2 : q < p
      · rw [if_pos h2, if_neg (by omega)]
      · rw [if_neg h2, if_pos (by omega)]; rfl
/-- of fractions, by their products -/
theorem sgnL_frac : ∀ (n : Nat) (t s u v : Int), s.natAbs ≤ n → (0 < s ∨ (s = 0 ∧ 0 < t)) → (0 < v ∨ (v = 0 ∧ 0 < u)) →
    (0 < sgnL (chain t s) (chain u v) ↔ u * s < t * v) ∧ (sgnL (chain t s) (chain u v) < 0 ↔ t * v < u * s)
  | n, t, s, u, v, hn, hs, hv => by
    rcases hs with hs | ⟨rfl, ht⟩
    · rcases hv with hv | ⟨rfl, hu⟩
      · rw [chain_cons (show s ≠ 0 by omega), chain_cons (show v ≠ 0 by omega)]
        obtain ⟨a1, a2⟩ := fdiv_bounds (a := t) hs
        obtain ⟨b1, b2⟩ := fdiv_bounds (a := u) hv
        have et := fdm t s
        have eu := fdm u v
        by_cases h : t.fdiv s = u.fdiv v
        · have e : sgnL (t.fdiv s :: chain s (t.fmod s)) (u.fdiv v :: chain v (u.fmod v)) = -sgnL (chain s (t.fmod s)) (chain v (u.fmod v)) := if_pos h
          rw [e]
          have ms := fmod_pos (a := t) hs
          have mv := fmod_pos (a := u) hv
          match n, hn with
          | 0, hn => omega
          | n + 1, hn =>
            obtain ⟨i1, i2⟩ := sgnL_frac n s (t.fmod s) v (u.fmod v) (by omega) (by omega) (by omega)
            have p1 : u * s - t * v = u.fmod v * s - t.fmod s * v := by
              rw [← fmod_eq t s, ← fmod_eq u v, h]
              grind
            have c1 : v * t.fmod s = t.fmod s * v := Int.mul_comm _ _
            have c2 : s * u.fmod v = u.fmod v * s := Int.mul_comm _ _
            rw [c1, c2] at i1 i2
            constructor
            · constructor
              · intro z; have := i2.mp (by omega); omega
              · intro z; have := i2.mpr (by omega); omega
            · constructor
              · intro z; have := i1.mp (by omega); omega
              · intro z; have := i1.mpr (by omega); omega
        · have e : sgnL (t.fdiv s :: chain s (t.fmod s)) (u.fdiv v :: chain v (u.fmod v)) = if u.fdiv v < t.fdiv s then 1 else -1 := if_neg h
          rw [e]
          have key : ∀ {x y z o : Int}, 0 < y → 0 < o → (x.fdiv y + 1) ≤ z.fdiv o → x * o < z * y := fun {x y z o} hy ho hl => by
            obtain ⟨c1, c2⟩ := fdiv_bounds (a := x) hy
            obtain ⟨d1, d2⟩ := fdiv_bounds (a := z) ho
            have m1 := Int.mul_lt_mul_of_pos_right c2 ho
            have m2 := Int.mul_le_mul_of_nonneg_right d1 (Int.le_of_lt hy)
            have m3 := Int.mul_le_mul_of_nonneg_right hl (Int.le_of_lt (Int.mul_pos hy ho))
            have w1 : (x.fdiv y + 1) * y * o = (x.fdiv y + 1) * (y * o) := by grind
            have w2 : z.fdiv o * o * y = z.fdiv o * (y * o) := by grind
            rw [w1] at m1
            rw [w2] at m2
            omega
          by_cases h2 : u.fdiv v < t.fdiv s
          · rw [if_pos h2]
            have := key hv hs (show u.fdiv v + 1 ≤ t.fdiv s by omega)
            constructor <;> constructor <;> intro z <;> omega
          · rw [if_neg h2]
            have := key hs hv (show t.fdiv s + 1 ≤ u.fdiv v by omega)
            constructor <;> constructor <;> intro z <;> omega
      · rw [chain_cons (show s ≠ 0 by omega), chain_zero]
        have e : sgnL (t.fdiv s :: chain s (t.fmod s)) [] = -1 := rfl
        have := Int.mul_pos hu hs
        rw [e, Int.mul_zero]
        constructor <;> constructor <;> intro z <;> omega
    · rcases hv with hv | ⟨rfl, hu⟩
      · rw [chain_zero, chain_cons (show v ≠ 0 by omega)]
        have e : sgnL [] (u.fdiv v :: chain v (u.fmod v)) = 1 := rfl
        have := Int.mul_pos ht hv
        rw [e, Int.mul_zero]
        constructor <;> constructor <;> intro z <;> omega
      · rw [chain_zero, chain_zero]
        have e : sgnL [] [] = 0 := rfl
        rw [e, Int.mul_zero, Int.mul_zero]
        constructor <;> constructor <;> intro z <;> omega
/-- leaves that are fractions -/
theorem ord_frac : ∀ (n : Nat) (t s u v : Int) (i : Nat) (l : Int), (chain t s).length ≤ n → ∃ m, Ord m i (.leaf (.frac t s)) (.leaf (.frac u v)) l (some (cmpL (chain t s) (chain u v) i l))
  | n, t, s, u, v, i, l, hn => by
    by_cases hs : s = 0
    · subst hs
      have e1 := fun l => ans_end (n := 0) (c := .frac t 0) rfl l
      by_cases hv : v = 0
      · subst hv
        rw [chain_zero, chain_zero]
        exact ⟨1, .sm (e1 l) (ans_end (n := 0) (c := .frac u 0) rfl l)⟩
      · have he : Chain.ended (.frac u v) = false := decide_eq_false hv
        rw [chain_zero, chain_cons hv]
        show ∃ m, Ord m i _ _ l (some (if l < 1 then "waits" else ordWord i .fin (.part (u.fdiv v))))
        by_cases hl : l < 1
        · rw [if_pos hl]
          exact ⟨1, .w2 (e1 l) (by intro z; cases z) (ans_waits (n := 0) he hl)⟩
        · rw [if_neg hl]
          exact ⟨1, .df (e1 l) (by intro z; cases z) (ans_part (n := 0) he hl) (by intro z; cases z) (by intro z; cases z)⟩
    · have hs' : Chain.ended (.frac t s) = false := decide_eq_false hs
      by_cases hl : l < 1
      · refine ⟨1, ?_⟩
        have : cmpL (chain t s) (chain u v) i l = "waits" := by
          rw [chain_cons hs]
          cases chain u v with
          | nil => exact if_pos hl
          | cons q ds => exact if_pos (by omega)
        rw [this]
        exact .w1 (ans_waits (n := 0) hs' hl)
      · have a1 := ans_part (n := 0) hs' hl
        by_cases hv : v = 0
        · subst hv
          rw [chain_zero, chain_cons hs]
          show ∃ m, Ord m i _ _ l (some (if l < 1 then "waits" else ordWord i (.part (t.fdiv s)) .fin))
          rw [if_neg hl]
          exact ⟨1, .df a1 (by intro z; cases z) (ans_end (n := 0) (c := .frac u 0) rfl (l - 1)) (by intro z; cases z) (by intro z; cases z)⟩
        · have he : Chain.ended (.frac u v) = false := decide_eq_false hv
          have hn' : (chain s (t.fmod s)).length + 1 ≤ n := by rw [chain_cons hs, List.length_cons] at hn; exact hn
          rw [chain_cons hs, chain_cons hv]
          show ∃ m, Ord m i _ _ l (some (if l < 2 then "waits" else if t.fdiv s = u.fdiv v then cmpL (chain s (t.fmod s)) (chain v (u.fmod v)) (i + 1) (l - 2) else ordWord i (.part (t.fdiv s)) (.part (u.fdiv v))))
          by_cases hl2 : l < 2
          · rw [if_pos hl2]
            exact ⟨1, .w2 a1 (by intro z; cases z) (ans_waits (n := 0) he (by omega))⟩
          · rw [if_neg hl2]
            have a2 := ans_part (n := 0) (l := l - 1) he (by omega)
            rw [show l - 1 - 1 = l - 2 by omega] at a2
            by_cases hp : t.fdiv s = u.fdiv v
            · rw [if_pos hp]
              match n, hn' with
              | 0, hn' => omega
              | n + 1, hn' =>
                obtain ⟨m, od⟩ := ord_frac n s (t.fmod s) v (u.fmod v) (i + 1) (l - 2) (by omega)
                have a2' : askF 1 (.leaf (.frac u v)) (l - 1) = some (some (.part (t.fdiv s)), .leaf (.frac v (u.fmod v)), l - 2) := by rw [hp]; exact a2
                exact ⟨m + 1, .nx a1 a2' od⟩
            · rw [if_neg hp]
              exact ⟨1, .df a1 (by intro z; cases z) a2 (by intro z; cases z) (fun z => hp (Ans.part.inj z))⟩
/-- two endless ruled chains that differ at one place for the first time -/
theorem ord_ruled {ps1 r1 s1 ps2 r2 s2 : List Int} (h1 : r1 ≠ []) (h2 : r2 ≠ []) : ∀ (m a i : Nat) (l : Int), (∀ j, j < m → ruledAt ps1 r1 s1 (a + j) = ruledAt ps2 r2 s2 (a + j)) → ruledAt ps1 r1 s1 (a + m) ≠ ruledAt ps2 r2 s2 (a + m) →
    Ord (m + 1) i (.leaf (.ruled ps1 r1 s1 a)) (.leaf (.ruled ps2 r2 s2 a)) l (some (if l < 2 * ((m : Int) + 1) then "waits" else ordWord (i + m) (.part (ruledAt ps1 r1 s1 (a + m))) (.part (ruledAt ps2 r2 s2 (a + m)))))
  | m, a, i, l, he, hd => by
    have go : ∀ {ps ring steps : List Int}, ring ≠ [] → Chain.ended (.ruled ps ring steps a) = false := fun {ps ring steps} hr => by
      show (decide (ring = []) && decide (ps.length ≤ a)) = false
      rw [decide_eq_false hr, Bool.false_and]
    by_cases hl : l < 1
    · rw [if_pos (by omega)]
      exact .w1 (ans_waits (n := 0) (go h1) hl)
    · have a1 := ans_part (n := 0) (c := .ruled ps1 r1 s1 a) (go h1) hl
      by_cases hl2 : l < 2
      · rw [if_pos (by omega)]
        exact .w2 a1 (by intro z; cases z) (ans_waits (n := 0) (go h2) (by omega))
      · have a2 := ans_part (n := 0) (c := .ruled ps2 r2 s2 a) (l := l - 1) (go h2) (by omega)
        rw [show l - 1 - 1 = l - 2 by omega] at a2
        match m, he, hd with
        | 0, he, hd =>
          rw [if_neg (by omega)]
          exact .df a1 (by intro z; cases z) a2 (by intro z; cases z) (fun z => hd (Ans.part.inj z))
        | m + 1, he, hd =>
          have ih := ord_ruled h1 h2 m (a + 1) (i + 1) (l - 2) (fun j hj => by have := he (j + 1) (by omega); rw [show a + (j + 1) = a + 1 + j by omega] at this; exact this) (by rw [show a + 1 + m = a + (m + 1) by omega]; exact hd)
          rw [show a + 1 + m = a + (m + 1) by omega, show i + 1 + m = i + (m + 1) by omega] at ih
          have e0 : ruledAt ps1 r1 s1 a = ruledAt ps2 r2 s2 a := he 0 (by omega)
          have a2' : askF 1 (.leaf (.ruled ps2 r2 s2 a)) (l - 1) = some (some (.part (ruledAt ps1 r1 s1 a)), .leaf (.ruled ps2 r2 s2 (a + 1)), l - 2) := by rw [e0]; exact a2
          have hw : (l - 2 < 2 * ((m : Int) + 1)) ↔ (l < 2 * (((m + 1 : Nat) : Int) + 1)) := by omega
          by_cases hq : l < 2 * (((m + 1 : Nat) : Int) + 1)
          · rw [if_pos (hw.mpr hq)] at ih
            rw [if_pos hq]
            exact .nx a1 a2' ih
          · rw [if_neg (fun z => hq (hw.mp z))] at ih
            rw [if_neg hq]
            exact .nx a1 a2' ih
/-! ### nearest fractions: the numbers -/
abbrev Pr := Int × Int
def within (bef last : Pr) (size : Int) : Pr × Pr :=
  let j := (size - bef.2).fdiv last.2
  let o : Pr := (bef.1 + j * last.1, bef.2 + j * last.2)
  if last.1 * o.2 < o.1 * last.2 then (last, o) else (o, last)
/-- what the first reading finds: none where it waits -/
def sidesL (size : Int) : List Int → Pr → Pr → Int → Option (Pr × Pr)
  | [], _, last, _ => some (last, last)
  | a :: as, bef, last, left => if left < 1 then none else
      if size < bef.2 + a * last.2 then some (within bef last size) else sidesL size as last (bef.1 + a * last.1, bef.2 + a * last.2) (left - 1)
/-- how many parts it takes, and whether it comes to the end -/
def fw (size : Int) : List Int → Int → Int → Nat × Bool
  | [], _, _ => (0, true)
  | a :: as, ahead, last => if size < ahead + a * last then (1, false) else ((fw size as last (ahead + a * last)).1 + 1, (fw size as last (ahead + a * last)).2)
/-- the fraction itself, or the two on either side -/
inductive SidesOk (t b size : Int) : Bool → Pr → Pr → Prop
  | fin {p q p' q' : Int} : 1 ≤ q → q ≤ size → t * q = p * b → (p * q' - p' * q = 1 ∨ p * q' - p' * q = -1) → SidesOk t b size true (p, q) (p, q)
  | two {p q p' q' : Int} : 1 ≤ q → 1 ≤ q' → q ≤ size → q' ≤ size → size < q + q' → p' * q - p * q' = 1 → p * b < t * q → t * q' < p' * b → SidesOk t b size false (p, q) (p', q')
theorem sides_go {t b size : Int} : ∀ (n : Nat) (u v p q p' q' left : Int), 0 ≤ left → v.natAbs ≤ n → 0 ≤ v → v < u → t = p * u + p' * v → b = q * u + q' * v → 1 ≤ q → 0 ≤ q' → q ≤ size → q' ≤ size → (p * q' - p' * q = 1 ∨ p * q' - p' * q = -1) →
    (sidesL size (chain u v) (p', q') (p, q) left = none ↔ left < (fw size (chain u v) q' q).1) ∧
    (∀ l h, sidesL size (chain u v) (p', q') (p, q) left = some (l, h) → SidesOk t b size (fw size (chain u v) q' q).2 l h)
  | n, u, v, p, q, p', q', left, hl0, hn, hv, hu, et, eb, hq, hq', hs, hs', he => by
    by_cases v0 : v = 0
    · subst v0
      rw [chain_zero]
      refine ⟨⟨fun z => (by cases z), fun z => ?_⟩, fun l h z => ?_⟩
      · exact absurd z (by show ¬ left < ((0 : Nat) : Int); omega)
      · cases z
        refine .fin hq hs ?_ he
        rw [et, eb]
        grind
    · have vp : 0 < v := by omega
      rw [chain_cons v0]
      obtain ⟨a1, a2⟩ := fdiv_bounds (a := u) vp
      have mf := fmod_pos (a := u) vp
      have ef := fmod_eq u v
      have ha : 1 ≤ u.fdiv v := by
        rcases Int.lt_or_le (u.fdiv v) 1 with z | z
        · have := Int.mul_le_mul_of_nonneg_right (show u.fdiv v + 1 ≤ 1 by omega) hv
          omega
        · exact z
      generalize u.fdiv v = a at *
      show ((if left < 1 then none else if size < q' + a * q then some (within (p', q') (p, q) size) else sidesL size (chain v (u.fmod v)) (p, q) (p' + a * p, q' + a * q) (left - 1)) = none ↔ left < (if size < q' + a * q then (1, false) else ((fw size (chain v (u.fmod v)) q (q' + a * q)).1 + 1, (fw size (chain v (u.fmod v)) q (q' + a * q)).2)).1) ∧
        (∀ l h, (if left < 1 then none else if size < q' + a * q then some (within (p', q') (p, q) size) else sidesL size (chain v (u.fmod v)) (p, q) (p' + a * p, q' + a * q) (left - 1)) = some (l, h) → SidesOk t b size (if size < q' + a * q then (1, false) else ((fw size (chain v (u.fmod v)) q (q' + a * q)).1 + 1, (fw size (chain v (u.fmod v)) q (q' + a * q)).2)).2 l h)
      by_cases hq2 : size < q' + a * q
      · rw [if_pos hq2, if_pos hq2]
        refine ⟨?_, fun l h z => ?_⟩
        · by_cases hl : left < 1
          · rw [if_pos hl]; exact ⟨fun _ => hl, fun _ => rfl⟩
          · rw [if_neg hl]; exact ⟨fun z => (by cases z), fun z => absurd z hl⟩
        · by_cases hl : left < 1
          · rw [if_pos hl] at z; cases z
          · rw [if_neg hl] at z
            have z := (Option.some.inj z)
            have fb := fdiv_bounds (a := size - q') (show 0 < q by omega)
            unfold within at z
            dsimp only at z
            generalize hj : (size - q').fdiv q = j at *
            have hj0 : 0 ≤ j := by
              rcases Int.lt_or_le j 0 with y | y
              · have := Int.mul_le_mul_of_nonneg_right (show j + 1 ≤ 0 by omega) (show 0 ≤ q by omega)
                omega
              · exact y
            have hja : j ≤ a - 1 := by
              rcases Int.lt_or_le (a - 1) j with y | y
              · have := Int.mul_le_mul_of_nonneg_right (show a ≤ j by omega) (show 0 ≤ q by omega)
                omega
              · exact y
            have ex : (j + 1) * q = j * q + q := by grind
            have uj : v ≤ u - j * v := by
              have := Int.mul_le_mul_of_nonneg_right (show j + 1 ≤ a by omega) hv
              have e : (j + 1) * v = j * v + v := by grind
              omega
            have d1 : t * q - p * b = -(p * q' - p' * q) * v := by rw [et, eb]; grind
            have d2 : t * (q' + j * q) - (p' + j * p) * b = (p * q' - p' * q) * (u - j * v) := by rw [et, eb]; grind
            have d3 : p * (q' + j * q) - (p' + j * p) * q = p * q' - p' * q := by grind
            rcases he with he | he
            · rw [he] at d1 d2 d3
              rw [if_neg (by omega)] at z
              cases z
              exact .two (by omega) hq (by omega) hs (by omega) (by omega) (by omega) (by omega)
            · rw [he] at d1 d2 d3
              rw [if_pos (by omega)] at z
              cases z
              exact .two hq (by omega) hs (by omega) (by omega) (by omega) (by omega) (by omega)
      · rw [if_neg hq2, if_neg hq2]
        match n, hn with
        | 0, hn => omega
        | n + 1, hn =>
          have ih := fun hl1 : 0 ≤ left - 1 => sides_go (t := t) (b := b) (size := size) n v (u.fmod v) (p' + a * p) (q' + a * q) p q (left - 1) hl1 (by omega) (by omega) (by omega) (by rw [et, ← ef]; grind) (by rw [eb, ← ef]; grind) (by
            have := Int.mul_le_mul_of_nonneg_right ha (show 0 ≤ q by omega)
            omega) (by omega) (by omega) hs (by
            have e : (p' + a * p) * q - p * (q' + a * q) = -(p * q' - p' * q) := by grind
            omega)
          by_cases hl : left < 1
          · rw [if_pos hl]
            refine ⟨⟨fun _ => by show left < (((fw size (chain v (u.fmod v)) q (q' + a * q)).1 + 1 : Nat) : Int); omega, fun _ => rfl⟩, fun l h z => by cases z⟩
          · rw [if_neg hl]
            have ih := ih (by omega)
            refine ⟨ih.1.trans ?_, ih.2⟩
            show left - 1 < _ ↔ left < (((fw size (chain v (u.fmod v)) q (q' + a * q)).1 + 1 : Nat) : Int)
            omega

theorem sidesL_mono {size : Int} {r : Pr × Pr} : ∀ {cs : List Int} {bef last : Pr} {left left' : Int}, sidesL size cs bef last left = some r → left ≤ left' → sidesL size cs bef last left' = some r
  | [], _, _, _, _, h, _ => h
  | a :: as, bef, last, left, left', h, hl => by
    have h : (if left < 1 then none else if size < bef.2 + a * last.2 then some (within bef last size) else sidesL size as last (bef.1 + a * last.1, bef.2 + a * last.2) (left - 1)) = some r := h
    show (if left' < 1 then none else if size < bef.2 + a * last.2 then some (within bef last size) else sidesL size as last (bef.1 + a * last.1, bef.2 + a * last.2) (left' - 1)) = some r
    by_cases h1 : left < 1
    · rw [if_pos h1] at h; cases h
    · rw [if_neg h1] at h
      rw [if_neg (by omega)]
      by_cases h2 : size < bef.2 + a * last.2
      · rw [if_pos h2] at h ⊢; exact h
      · rw [if_neg h2] at h ⊢
        exact sidesL_mono h (by omega)
/-! ### the nearest of all -/
def dst (t b : Int) (x : Pr) : Int := if x.1 * b - t * x.2 < 0 then -(x.1 * b - t * x.2) else x.1 * b - t * x.2
theorem dst_nn (t b : Int) (x : Pr) : 0 ≤ dst t b x := by
  unfold dst
  split <;> omega
def nearB (t b : Int) (x y : Pr) : Bool := if dst t b x * y.2 = dst t b y * x.2 then decide (x.2 < y.2 ∨ (x.2 = y.2 ∧ x.1 < y.1)) else decide (dst t b x * y.2 < dst t b y * x.2)
theorem near_asymm {t b : Int} {x y : Pr} (h : nearB t b x y = true) : nearB t b y x = false := by
  unfold nearB at *
  by_cases e : dst t b x * y.2 = dst t b y * x.2
  · rw [if_pos e] at h
    rw [if_pos e.symm]
    have := of_decide_eq_true h
    exact decide_eq_false (by omega)
  · rw [if_neg e] at h
    rw [if_neg (fun z => e z.symm)]
    have := of_decide_eq_true h
    exact decide_eq_false (by omega)
theorem near_of_lt {t b : Int} {x y : Pr} (h : dst t b x * y.2 < dst t b y * x.2) : nearB t b x y = true := by
  unfold nearB
  rw [if_neg (by omega)]
  exact decide_eq_true h
def Cand (size : Int) (c : Pr) : Prop := 1 ≤ c.2 ∧ c.2 ≤ size ∧ Int.gcd c.1 c.2 = 1
theorem cop_one {x y m k l : Int} (h : Int.gcd x y = 1) (e1 : x = m * k) (e2 : y = m * l) (hm : 0 < m) : m = 1 := by
  have d : m ∣ ((Int.gcd x y : Nat) : Int) := Int.dvd_coe_gcd ⟨k, e1⟩ ⟨l, e2⟩
  rw [h] at d
  obtain ⟨c, hc⟩ := d
  have : 1 ≤ c := by
    rcases Int.lt_or_le 0 c with z | z
    · omega
    · have := Int.mul_nonpos_of_nonneg_of_nonpos (Int.le_of_lt hm) z
      omega
  have := Int.mul_le_mul_of_nonneg_left this (Int.le_of_lt hm)
  omega
theorem cop_lo {p q p' q' u v : Int} (hq : 1 ≤ q) (hv : 1 ≤ v) (det : p' * q - p * q' = 1) (e : u * q = p * v) (g : Int.gcd u v = 1) : u = p ∧ v = q := by
  have e1 : v = (p' * v - q' * u) * q := by grind
  have e2 : u = (p' * v - q' * u) * p := by grind
  have hm : 0 < p' * v - q' * u := by
    rcases Int.lt_or_le 0 (p' * v - q' * u) with z | z
    · exact z
    · have := Int.mul_nonpos_of_nonpos_of_nonneg z (show 0 ≤ q by omega)
      omega
  have := cop_one g e2 e1 hm
  rw [this] at e1 e2
  omega
theorem low_pos {t b : Int} (hb : 0 < b) : ∃ g : Int, 0 < g ∧ t = g * (fold (chain t b)).1 ∧ b = g * (fold (chain t b)).2 ∧ 1 ≤ (fold (chain t b)).2 ∧ (fold (chain t b)).2 ≤ b := by
  obtain ⟨g, e1, e2, hg, hs, hgcd⟩ := fold_low (t := t) (b := b) (by omega)
  have g0 : 0 < g := hs.mpr hb
  generalize fold (chain t b) = x at *
  have x2 : 1 ≤ x.2 := by
    rcases Int.lt_or_le 0 x.2 with z | z
    · omega
    · have := Int.mul_nonpos_of_nonneg_of_nonpos (Int.le_of_lt g0) z
      omega
  have := Int.mul_le_mul_of_nonneg_right (show 1 ≤ g by omega) (show 0 ≤ x.2 by omega)
  exact ⟨g, g0, e1, e2, x2, by omega⟩
theorem low_cand {t b size : Int} (hb : 1 ≤ b) (hs : b ≤ size) : Cand size (fold (chain t b)) := by
  obtain ⟨g, _, _, _, h1, h2⟩ := low_pos (t := t) (show 0 < b by omega)
  exact ⟨h1, by omega, gcd_fold _⟩
theorem low_self {p q p' q' : Int} (hq : 1 ≤ q) (det : p' * q - p * q' = 1) : fold (chain p q) = (p, q) := by
  obtain ⟨g, g0, e1, e2, h1, h2⟩ := low_pos (t := p) (show 0 < q by omega)
  have hg := gcd_fold (chain p q)
  generalize fold (chain p q) = x at *
  obtain ⟨z1, z2⟩ := cop_lo (u := x.1) (v := x.2) hq h1 det (by rw [e1, e2]; grind) hg
  exact Prod.ext z1 z2
def pick (s : Int) (l h : Pr) : Pr := if s < 0 then l else if 0 < s then h else if h.2 < l.2 then h else l
structure Due (t b size : Int) (N : Pr) : Prop where
  best : ∀ c, Cand size c → c = N ∨ nearB t b N c = true
  v1 : 1 ≤ N.2
  v2 : N.2 ≤ size
  at_ : ∃ m : Int, (m = 0 ∨ m = 1) ∧ (t * N.2).fdiv b + m = N.1
  low : fold (chain N.1 N.2) = N
theorem trans_lt {a b c d e f : Int} (hb : 0 < b) (hd : 0 < d) (hf : 0 < f) (h1 : a * d ≤ c * b) (h2 : c * f < e * d) : a * f < e * b := by
  have m1 := Int.mul_le_mul_of_nonneg_right h1 (Int.le_of_lt hf)
  have m2 := Int.mul_lt_mul_of_pos_right h2 hb
  have e1 : a * d * f = (a * f) * d := by grind
  have e2 : c * b * f = c * f * b := by grind
  have e3 : e * d * b = (e * b) * d := by grind
  exact Int.lt_of_mul_lt_mul_right (a := d) (by omega) (Int.le_of_lt hd)
theorem due_fin {t b size p q p' q' : Int} (hb : 0 < b) (hq : 1 ≤ q) (hs : q ≤ size) (e : t * q = p * b) (det : p * q' - p' * q = 1 ∨ p * q' - p' * q = -1) : Due t b size (p, q) := by
  obtain ⟨x', y', det⟩ : ∃ x' y' : Int, x' * q - p * y' = 1 := by
    rcases det with d | d
    · exact ⟨-p', -q', by grind⟩
    · exact ⟨p', q', by grind⟩
  have d0 : dst t b (p, q) = 0 := by
    show (if p * b - t * q < 0 then -(p * b - t * q) else p * b - t * q) = 0
    split <;> omega
  refine ⟨fun c hc => ?_, hq, hs, ⟨0, .inl rfl, ?_⟩, low_self hq det⟩
  · obtain ⟨c1, c2, c3⟩ := hc
    by_cases z : dst t b c = 0
    · left
      have z2 : c.1 * b = t * c.2 := by
        unfold dst at z
        split at z <;> omega
      have e3 : (c.1 * q) * b = (p * c.2) * b := by
        have : (c.1 * q) * b = (c.1 * b) * q := by grind
        rw [this, z2]
        have : t * c.2 * q = (t * q) * c.2 := by grind
        rw [this, e]
        grind
      have e4 := Int.eq_of_mul_eq_mul_right (show b ≠ 0 by omega) e3
      obtain ⟨y1, y2⟩ := cop_lo hq c1 det e4 c3
      exact Prod.ext y1 y2
    · right
      refine near_of_lt ?_
      rw [d0, Int.zero_mul]
      refine Int.mul_pos ?_ (show 0 < q by omega)
      have := dst_nn t b c
      omega
  · show (t * q).fdiv b + 0 = p
    rw [e, Int.add_zero]
    exact Int.mul_fdiv_cancel p (by omega)
theorem dst_lo {t b p q : Int} (h : p * b ≤ t * q) : dst t b (p, q) = t * q - p * b := by
  show (if p * b - t * q < 0 then -(p * b - t * q) else p * b - t * q) = _
  split <;> omega
theorem dst_hi {t b p q : Int} (h : t * q ≤ p * b) : dst t b (p, q) = p * b - t * q := by
  show (if p * b - t * q < 0 then -(p * b - t * q) else p * b - t * q) = _
  split <;> omega
/-- each other one is no nearer than the one or the other of the two -/
theorem two_sides {t b size p q p' q' : Int} (hb : 0 < b) (hq : 1 ≤ q) (hq' : 1 ≤ q') (hs : size < q + q') (det : p' * q - p * q' = 1) (lo : p * b < t * q) (hi : t * q' < p' * b) {c : Pr} (hc : Cand size c) :
    (c = (p, q) ∨ dst t b (p, q) * c.2 < dst t b c * q) ∨ (c = (p', q') ∨ dst t b (p', q') * c.2 < dst t b c * q') := by
  obtain ⟨u, v⟩ := c
  obtain ⟨c1, c2, c3⟩ := hc
  have c1 : 1 ≤ v := c1
  have c2 : v ≤ size := c2
  have c3 : Int.gcd u v = 1 := c3
  have ev : v = (u * q - p * v) * q' + (p' * v - u * q') * q := by grind
  by_cases ha : u * q - p * v ≤ 0
  · left
    by_cases h0 : u * q = p * v
    · left
      obtain ⟨y1, y2⟩ := cop_lo hq c1 det h0 c3
      rw [y1, y2]
    · right
      have k1 : q * (t * v - u * b) = v * (t * q - p * b) + (p * v - u * q) * b := by grind
      have k2 : 0 < (p * v - u * q) * b := Int.mul_pos (by omega) hb
      have k3 : 0 < v * (t * q - p * b) := Int.mul_pos (by omega) (by omega)
      have k4 : 0 < t * v - u * b := by
        rcases Int.lt_or_le 0 (t * v - u * b) with z | z
        · exact z
        · have := Int.mul_nonpos_of_nonneg_of_nonpos (show 0 ≤ q by omega) z
          omega
      rw [dst_lo (Int.le_of_lt lo), dst_lo (p := u) (q := v) (by omega)]
      show (t * q - p * b) * v < (t * v - u * b) * q
      have w1 : (t * q - p * b) * v = v * (t * q - p * b) := Int.mul_comm _ _
      have w2 : (t * v - u * b) * q = q * (t * v - u * b) := Int.mul_comm _ _
      omega
  · right
    have hb0 : p' * v - u * q' ≤ 0 := by
      rcases Int.lt_or_le 0 (p' * v - u * q') with z | z
      · have m1 := Int.mul_le_mul_of_nonneg_right (show 1 ≤ u * q - p * v by omega) (show 0 ≤ q' by omega)
        have m2 := Int.mul_le_mul_of_nonneg_right (show 1 ≤ p' * v - u * q' by omega) (show 0 ≤ q by omega)
        omega
      · exact z
    by_cases h0 : u * q' = p' * v
    · left
      obtain ⟨y1, y2⟩ := cop_lo (p := p') (q := q') (p' := -p) (q' := -q) hq' c1 (by grind) h0 c3
      rw [y1, y2]
    · right
      have k1 : q' * (u * b - t * v) = v * (p' * b - t * q') + (u * q' - p' * v) * b := by grind
      have k2 : 0 < (u * q' - p' * v) * b := Int.mul_pos (by omega) hb
      have k3 : 0 < v * (p' * b - t * q') := Int.mul_pos (by omega) (by omega)
      have k4 : 0 < u * b - t * v := by
        rcases Int.lt_or_le 0 (u * b - t * v) with z | z
        · exact z
        · have := Int.mul_nonpos_of_nonneg_of_nonpos (show 0 ≤ q' by omega) z
          omega
      rw [dst_hi (Int.le_of_lt hi), dst_hi (p := u) (q := v) (by omega)]
      show (p' * b - t * q') * v < (u * b - t * v) * q'
      have w1 : (p' * b - t * q') * v = v * (p' * b - t * q') := Int.mul_comm _ _
      have w2 : (u * b - t * v) * q' = q' * (u * b - t * v) := Int.mul_comm _ _
      omega
theorem two_floor {t b p q p' q' : Int} (hb : 0 < b) (hq : 1 ≤ q) (hq' : 1 ≤ q') (det : p' * q - p * q' = 1) (lo : p * b < t * q) (hi : t * q' < p' * b) : (t * q).fdiv b = p ∧ (t * q').fdiv b + 1 = p' := by
  have k : (t * q - p * b) * q' + (p' * b - t * q') * q = b := by grind
  have m1 := Int.mul_le_mul_of_nonneg_left hq' (show 0 ≤ t * q - p * b by omega)
  have m2 := Int.mul_le_mul_of_nonneg_left hq (show 0 ≤ p' * b - t * q' by omega)
  have p1 : 0 < (t * q - p * b) * q' := Int.mul_pos (by omega) (by omega)
  have p2 : 0 < (p' * b - t * q') * q := Int.mul_pos (by omega) (by omega)
  have e1 : (p + 1) * b = p * b + b := by grind
  have e2 : (p' - 1) * b = p' * b - b := by grind
  have e3 : (p' - 1 + 1) * b = p' * b := by grind
  refine ⟨fdiv_is hb (by omega) (by omega), ?_⟩
  rw [fdiv_is (q := p' - 1) hb (by omega) (by omega)]
  omega
theorem due_two {t b size p q p' q' s : Int} (hb : 0 < b) (hq : 1 ≤ q) (hq' : 1 ≤ q') (hqs : q ≤ size) (hqs' : q' ≤ size) (hs : size < q + q') (det : p' * q - p * q' = 1) (lo : p * b < t * q) (hi : t * q' < p' * b)
    (s1 : s < 0 ↔ t * (2 * q * q') < (p * q' + p' * q) * b) (s2 : 0 < s ↔ (p * q' + p' * q) * b < t * (2 * q * q')) : Due t b size (pick s (p, q) (p', q')) := by
  obtain ⟨f1, f2⟩ := two_floor hb hq hq' det lo hi
  have det' : -p * q' - p' * -q = 1 := by grind
  have k : (p' * b - t * q') * q - (t * q - p * b) * q' = (p * q' + p' * q) * b - t * (2 * q * q') := by grind
  have dl := dst_lo (Int.le_of_lt lo)
  have dh := dst_hi (Int.le_of_lt hi)
  have all : ∀ N M : Pr, (N = (p, q) ∧ M = (p', q')) ∨ (N = (p', q') ∧ M = (p, q)) → nearB t b N M = true → dst t b N * M.2 ≤ dst t b M * N.2 → ∀ c, Cand size c → c = N ∨ nearB t b N c = true := fun N M hN h1 h2 c hc => by
    have ts := two_sides hb hq hq' hs det lo hi hc
    have c1 := hc.1
    have key : (c = N ∨ dst t b N * c.2 < dst t b c * N.2) ∨ (c = M ∨ dst t b M * c.2 < dst t b c * M.2) := by
      rcases hN with ⟨rfl, rfl⟩ | ⟨rfl, rfl⟩
      · exact ts
      · exact ts.symm
    have pN : 0 < N.2 := by rcases hN with ⟨rfl, rfl⟩ | ⟨rfl, rfl⟩ <;> show (0 : Int) < _ <;> assumption
    have pM : 0 < M.2 := by rcases hN with ⟨rfl, rfl⟩ | ⟨rfl, rfl⟩ <;> show (0 : Int) < _ <;> assumption
    rcases key with (z | z) | (z | z)
    · exact .inl z
    · exact .inr (near_of_lt z)
    · right; rw [z]; exact h1
    · exact .inr (near_of_lt (trans_lt pN pM (by omega) h2 z))
  unfold pick
  by_cases n1 : s < 0
  · rw [if_pos n1]
    have := s1.mp n1
    have lt : dst t b (p, q) * q' < dst t b (p', q') * q := by rw [dl, dh]; omega
    exact ⟨all _ _ (.inl ⟨rfl, rfl⟩) (near_of_lt lt) (Int.le_of_lt lt), hq, hqs, ⟨0, .inl rfl, by show (t * q).fdiv b + 0 = p; omega⟩, low_self hq det⟩
  · rw [if_neg n1]
    by_cases n2 : 0 < s
    · rw [if_pos n2]
      have := s2.mp n2
      have lt : dst t b (p', q') * q < dst t b (p, q) * q' := by rw [dl, dh]; omega
      exact ⟨all _ _ (.inr ⟨rfl, rfl⟩) (near_of_lt lt) (Int.le_of_lt lt), hq', hqs', ⟨1, .inr rfl, f2⟩, low_self hq' det'⟩
    · rw [if_neg n2]
      have e0 : ¬ t * (2 * q * q') < (p * q' + p' * q) * b := fun z => n1 (s1.mpr z)
      have e1 : ¬ (p * q' + p' * q) * b < t * (2 * q * q') := fun z => n2 (s2.mpr z)
      have eq : dst t b (p, q) * q' = dst t b (p', q') * q := by rw [dl, dh]; omega
      by_cases n3 : q' < q
      · rw [if_pos (show ((p', q') : Pr).2 < ((p, q) : Pr).2 from n3)]
        refine ⟨all _ _ (.inr ⟨rfl, rfl⟩) ?_ (Int.le_of_eq eq.symm), hq', hqs', ⟨1, .inr rfl, f2⟩, low_self hq' det'⟩
        unfold nearB
        rw [if_pos eq.symm]
        exact decide_eq_true (.inl n3)
      · rw [if_neg (show ¬ ((p', q') : Pr).2 < ((p, q) : Pr).2 from n3)]
        refine ⟨all _ _ (.inl ⟨rfl, rfl⟩) ?_ (Int.le_of_eq eq), hq, hqs, ⟨0, .inl rfl, by show (t * q).fdiv b + 0 = p; omega⟩, low_self hq det⟩
        unfold nearB
        rw [if_pos eq]
        refine decide_eq_true ?_
        show q < q' ∨ (q = q' ∧ p < p')
        rcases Int.lt_or_le q q' with z | z
        · exact .inl z
        · right
          have eqq : q = q' := by omega
          refine ⟨eqq, ?_⟩
          subst eqq
          rcases Int.lt_or_le p p' with y | y
          · exact y
          · have := Int.mul_le_mul_of_nonneg_right y (show 0 ≤ q by omega)
            omega
/-! ### what the first reading and the second want -/
def wl : List Int → List Int → Nat
  | [], _ => 0
  | _ :: _, [] => 1
  | p :: cs, q :: ds => if p = q then wl cs ds + 1 else 1
theorem wl_le : ∀ cs ds : List Int, wl cs ds ≤ cs.length
  | [], _ => Nat.zero_le _
  | _ :: _, [] => by show 1 ≤ _; rw [List.length_cons]; omega
  | p :: cs, q :: ds => by
    have := wl_le cs ds
    show (if p = q then wl cs ds + 1 else 1) ≤ (p :: cs).length
    rw [List.length_cons]
    split <;> omega
def cmpF : List Int → List Int → Nat → Int → Str
  | [], [], _, _ => "same"
  | [], q :: _, i, _ => ordWord i .fin (.part q)
  | p :: _, [], i, l => if l < 1 then "waits" else ordWord i (.part p) .fin
  | p :: cs, q :: ds, i, l => if l < 1 then "waits" else if p = q then cmpF cs ds (i + 1) (l - 1) else ordWord i (.part p) (.part q)
theorem cmpF_is : ∀ (cs ds : List Int) (i : Nat) (l : Int), 0 ≤ l → cmpF cs ds i l = if l < (wl cs ds : Int) then ("waits" : Str) else wordOf (par i (sgnL cs ds))
  | [], [], i, l, hl => by
    rw [if_neg (show ¬ l < ((wl [] [] : Nat) : Int) from (by show ¬ l < ((0 : Nat) : Int); omega))]
    show ("same" : Str) = wordOf (par i 0)
    unfold par
    split <;> rfl
  | [], q :: ds, i, l, hl => by
    rw [if_neg (show ¬ l < ((wl [] (q :: ds) : Nat) : Int) from (by show ¬ l < ((0 : Nat) : Int); omega))]
    show ordWord i .fin (.part q) = _
    rw [ordWord_is]
    rfl
  | p :: cs, [], i, l, hl => by
    show (if l < 1 then ("waits" : Str) else ordWord i (.part p) .fin) = if l < ((1 : Nat) : Int) then _ else _
    rw [ordWord_is]
    rfl
  | p :: cs, q :: ds, i, l, hl => by
    show (if l < 1 then ("waits" : Str) else if p = q then cmpF cs ds (i + 1) (l - 1) else ordWord i (.part p) (.part q)) = _
    by_cases h : p = q
    · have e1 : wl (p :: cs) (q :: ds) = wl cs ds + 1 := if_pos h
      have e2 : sgnL (p :: cs) (q :: ds) = -sgnL cs ds := if_pos h
      rw [e1, e2, if_pos h]
      by_cases h1 : l < 1
      · rw [if_pos h1, if_pos (by omega)]
      · rw [if_neg h1, cmpF_is cs ds (i + 1) (l - 1) (by omega), par_succ]
        by_cases h2 : l - 1 < (wl cs ds : Int)
        · rw [if_pos h2, if_pos (by omega)]
        · rw [if_neg h2, if_neg (by omega)]
    · have e1 : wl (p :: cs) (q :: ds) = 1 := if_neg h
      have e2 : sgnL (p :: cs) (q :: ds) = if q < p then 1 else -1 := if_neg h
      rw [e1, e2, if_neg h, ordWord_is]
      have : (if gtA (.part p) (.part q) = true then (1 : Int) else -1) = if q < p then 1 else -1 := by
        show (if decide (q < p) = true then (1 : Int) else -1) = _
        simp
      rw [this]
      rfl
theorem fw_len {size : Int} : ∀ (cs : List Int) (x y : Int), (fw size cs x y).1 ≤ cs.length
  | [], _, _ => Nat.le_refl _
  | a :: as, x, y => by
    have := fw_len (size := size) as y (x + a * y)
    show (if size < x + a * y then (1, false) else ((fw size as y (x + a * y)).1 + 1, (fw size as y (x + a * y)).2)).1 ≤ (a :: as).length
    rw [List.length_cons]
    by_cases h : size < x + a * y
    · rw [if_pos h]; show 1 ≤ _; omega
    · rw [if_neg h]; show _ + 1 ≤ _; omega
def midL (l h : Pr) : List Int := chain (l.1 * h.2 + h.1 * l.2) (2 * l.2 * h.2)
/-- what is told -/
def nearF (cs : List Int) (size most : Int) : Option Pr :=
  match sidesL size cs (0, 1) (1, 0) most with
  | none => none
  | some (l, h) => if l = h then some l else if most < (wl cs (midL l h) : Int) then none else some (pick (sgnL cs (midL l h)) l h)
def wantsOf (cs : List Int) (size : Int) (l h : Pr) : Nat := if (fw size cs.tail 0 1).2 = true then 1 + (fw size cs.tail 0 1).1 else max (1 + (fw size cs.tail 0 1).1) (wl cs (midL l h))
theorem near_main {t b size : Int} (hb : 0 < b) (hs : 1 ≤ size) : ∃ l h N, SidesOk t b size (fw size (chain t b).tail 0 1).2 l h ∧ Due t b size N ∧ ((fw size (chain t b).tail 0 1).2 = true → dst t b N = 0) ∧ ∀ most : Int, 0 ≤ most → nearF (chain t b) size most = if most < (wantsOf (chain t b) size l h : Int) then none else some N := by
  have ec := chain_cons (t := t) (show b ≠ 0 by omega)
  have mf := fmod_pos (a := t) hb
  have ef := fmod_eq t b
  have et : (chain t b).tail = chain b (t.fmod b) := by rw [ec]; rfl
  have st : ∀ left : Int, sidesL size (chain t b) (0, 1) (1, 0) left = if left < 1 then none else sidesL size (chain b (t.fmod b)) (1, 0) (t.fdiv b, 1) (left - 1) := fun left => by
    rw [ec]
    show (if left < 1 then none else if size < 1 + t.fdiv b * 0 then some (within (0, 1) (1, 0) size) else sidesL size (chain b (t.fmod b)) (1, 0) (0 + t.fdiv b * 1, 1 + t.fdiv b * 0) (left - 1)) = _
    rw [if_neg (show ¬ size < 1 + t.fdiv b * 0 by rw [Int.mul_zero]; omega), Int.mul_zero, Int.mul_one, Int.zero_add, Int.add_zero]
  have go : ∀ left : Int, 0 ≤ left → _ := fun left hl => sides_go (t := t) (b := b) (size := size) _ b (t.fmod b) (t.fdiv b) 1 1 0 left hl (Nat.le_refl _) mf.1 mf.2 (by omega) (by omega) (Int.le_refl _) (Int.le_refl _) hs (by omega) (by omega)
  obtain ⟨F, hF⟩ : ∃ F, F = fw size (chain b (t.fmod b)) 0 1 := ⟨_, rfl⟩
  rw [et, ← hF]
  obtain ⟨big, hbig⟩ : ∃ big : Int, big = (F.1 : Int) := ⟨_, rfl⟩
  have gb := go big (by omega)
  rw [← hF] at gb
  obtain ⟨⟨l, h⟩, hr⟩ : ∃ r, sidesL size (chain b (t.fmod b)) (1, 0) (t.fdiv b, 1) big = some r := by
    cases z : sidesL size (chain b (t.fmod b)) (1, 0) (t.fdiv b, 1) big with
    | none => have := gb.1.mp z; omega
    | some r => exact ⟨r, rfl⟩
  have ok := gb.2 l h hr
  have at_ : ∀ most : Int, 0 ≤ most → sidesL size (chain t b) (0, 1) (1, 0) most = if most < ((1 + F.1 : Nat) : Int) then none else some (l, h) := fun most hm => by
    rw [st]
    by_cases h1 : most < 1
    · rw [if_pos h1, if_pos (by omega)]
    · rw [if_neg h1]
      have g1 := (go (most - 1) (by omega)).1
      rw [← hF] at g1
      by_cases h2 : most - 1 < (F.1 : Int)
      · rw [g1.mpr h2, if_pos (by omega)]
      · rw [if_neg (by omega)]
        exact sidesL_mono hr (by omega)
  have fin : ∀ N : Pr, Due t b size N → (F.2 = true → dst t b N = 0) → (∀ most : Int, 0 ≤ most → (if l = h then some l else if most < (wl (chain t b) (midL l h) : Int) then none else some (pick (sgnL (chain t b) (midL l h)) l h)) = if most < (wl (chain t b) (midL l h) : Int) ∧ F.2 = false then none else some N) →
      ∃ l h N, SidesOk t b size F.2 l h ∧ Due t b size N ∧ (F.2 = true → dst t b N = 0) ∧ ∀ most : Int, 0 ≤ most → nearF (chain t b) size most = if most < (wantsOf (chain t b) size l h : Int) then none else some N := fun N hN hd hk => by
    refine ⟨l, h, N, ok, hN, hd, fun most hm => ?_⟩
    have e1 : nearF (chain t b) size most = match (if most < ((1 + F.1 : Nat) : Int) then none else some (l, h)) with
      | none => none
      | some (l, h) => if l = h then some l else if most < (wl (chain t b) (midL l h) : Int) then none else some (pick (sgnL (chain t b) (midL l h)) l h) := by
      unfold nearF
      rw [at_ most hm]
    have e2 : wantsOf (chain t b) size l h = if F.2 = true then 1 + F.1 else max (1 + F.1) (wl (chain t b) (midL l h)) := by
      unfold wantsOf
      rw [et, ← hF]
    rw [e1, e2]
    by_cases h1 : most < ((1 + F.1 : Nat) : Int)
    · rw [if_pos h1]
      show none = _
      rw [if_pos ?_]
      split <;> omega
    · rw [if_neg h1]
      show (if l = h then some l else if most < (wl (chain t b) (midL l h) : Int) then none else some (pick (sgnL (chain t b) (midL l h)) l h)) = _
      rw [hk most hm]
      cases F.2 with
      | true =>
        rw [if_neg (fun z => by cases z.2), if_pos rfl, if_neg h1]
      | false =>
        rw [if_neg (show ¬ false = true by decide)]
        by_cases h2 : most < (wl (chain t b) (midL l h) : Int)
        · rw [if_pos ⟨h2, rfl⟩, if_pos (by omega)]
        · rw [if_neg (fun z => h2 z.1), if_neg (by omega)]
  revert fin
  generalize F.2 = e at *
  intro fin
  cases ok with
  | @fin p q p' q' hq hqs he det =>
    refine fin (p, q) (due_fin hb hq hqs he det) (fun _ => ?_) fun most hm => ?_
    · show (if p * b - t * q < 0 then -(p * b - t * q) else p * b - t * q) = 0
      split <;> omega
    · rw [if_pos rfl, if_neg (fun z => by cases z.2)]
  | @two p q p' q' hq hq' hqs hqs' hss det lo hi =>
    have ne : ((p, q) : Pr) ≠ (p', q') := fun z => by
      have z1 : p = p' := congrArg Prod.fst z
      have z2 : q = q' := congrArg Prod.snd z
      subst z1
      subst z2
      omega
    have pos : 0 < 2 * q * q' := Int.mul_pos (by omega) (by omega)
    obtain ⟨g1, g2⟩ := sgnL_frac _ t b (p * q' + p' * q) (2 * q * q') (Nat.le_refl _) (.inl hb) (.inl pos)
    refine fin (pick (sgnL (chain t b) (midL (p, q) (p', q'))) (p, q) (p', q')) (due_two hb hq hq' hqs hqs' hss det lo hi g2 g1) (fun z => by cases z) fun most hm => ?_
    rw [if_neg ne]
    by_cases h2 : most < (wl (chain t b) (midL (p, q) (p', q')) : Int)
    · rw [if_pos h2, if_pos ⟨h2, rfl⟩]
    · rw [if_neg h2, if_neg (fun z => h2 z.1)]
theorem wants_le {cs : List Int} (h : cs ≠ []) (size : Int) (l r : Pr) : wantsOf cs size l r ≤ cs.length := by
  have f := fw_len (size := size) cs.tail 0 1
  have w := wl_le cs (midL l r)
  rw [List.length_tail] at f
  have := List.length_pos_iff.mpr h
  unfold wantsOf
  split <;> omega
/-! ### the law's own walk -/
theorem lex_two (a b c d : Int) : HT.lexLt [a, b] [c, d] = decide (a < c ∨ (a = c ∧ b < d)) := by
  rw [HT.lexLt_cons, HT.lexLt_cons, HT.lexLt_nil_nil]
  by_cases h : a = c
  · rw [if_pos h]
    by_cases h2 : b = d
    · rw [if_pos h2]; exact (decide_eq_false (by omega)).symm
    · rw [if_neg h2]
      by_cases h3 : b < d
      · rw [decide_eq_true h3, decide_eq_true (.inr ⟨h, h3⟩)]
      · rw [decide_eq_false h3, decide_eq_false (by omega)]
  · rw [if_neg h]
    by_cases h3 : a < c
    · rw [decide_eq_true h3, decide_eq_true (.inl h3)]
    · rw [decide_eq_false h3, decide_eq_false (by omega)]
/-- the greatest fraction not above, the first one of its worth -/
structure LoI (t b i : Int) (x : Pr) : Prop where
  v1 : 1 ≤ x.2
  v2 : x.2 ≤ i
  is : x.1 = (t * x.2).fdiv b
  all : ∀ v, 1 ≤ v → v ≤ i → (t * v).fdiv b * x.2 ≤ x.1 * v
  first : ∀ v, 1 ≤ v → v < x.2 → (t * v).fdiv b * x.2 < x.1 * v
structure HiI (t b i : Int) (x : Pr) : Prop where
  v1 : 1 ≤ x.2
  v2 : x.2 ≤ i
  is : x.1 = (t * x.2).fdiv b + 1
  all : ∀ v, 1 ≤ v → v ≤ i → x.1 * v ≤ ((t * v).fdiv b + 1) * x.2
  first : ∀ v, 1 ≤ v → v < x.2 → x.1 * v < ((t * v).fdiv b + 1) * x.2
theorem LoI.one (t b : Int) : LoI t b 1 ((t * 1).fdiv b, 1) := by
  refine ⟨Int.le_refl _, Int.le_refl _, rfl, fun v h1 h2 => ?_, fun v h1 h2 => ?_⟩
  · have : v = 1 := by omega
    subst this
    exact Int.le_refl _
  · have h2 : v < 1 := h2
    omega
theorem HiI.one (t b : Int) : HiI t b 1 ((t * 1).fdiv b + 1, 1) := by
  refine ⟨Int.le_refl _, Int.le_refl _, rfl, fun v h1 h2 => ?_, fun v h1 h2 => ?_⟩
  · have : v = 1 := by omega
    subst this
    exact Int.le_refl _
  · have h2 : v < 1 := h2
    omega
theorem LoI.keep {t b i : Int} {x : Pr} (h : LoI t b i x) (c : ¬ x.1 * (i + 1) < (t * (i + 1)).fdiv b * x.2) : LoI t b (i + 1) x :=
  ⟨h.v1, by have := h.v2; omega, h.is, fun v h1 h2 => by
    by_cases e : v = i + 1
    · rw [e]; omega
    · exact h.all v h1 (by omega), h.first⟩
theorem LoI.put {t b i : Int} {x : Pr} (h : LoI t b i x) (hi : 1 ≤ i) (c : x.1 * (i + 1) < (t * (i + 1)).fdiv b * x.2) : LoI t b (i + 1) ((t * (i + 1)).fdiv b, i + 1) := by
  have key : ∀ v, 1 ≤ v → v ≤ i → (t * v).fdiv b * (i + 1) < (t * (i + 1)).fdiv b * v := fun v h1 h2 => trans_lt (by omega) (by have := h.v1; omega) (by omega) (h.all v h1 h2) c
  refine ⟨by show 1 ≤ i + 1; omega, Int.le_refl _, rfl, fun v h1 h2 => ?_, fun v h1 h2 => key v h1 (by have h2 : v < i + 1 := h2; omega)⟩
  by_cases e : v = i + 1
  · rw [e]; exact Int.le_refl _
  · exact Int.le_of_lt (key v h1 (by omega))
theorem trans_gt {a b c d e f : Int} (hb : 0 < b) (hd : 0 < d) (hf : 0 < f) (h1 : c * b ≤ a * d) (h2 : e * d < c * f) : e * b < a * f := by
  have m1 := Int.mul_le_mul_of_nonneg_right h1 (Int.le_of_lt hf)
  have m2 := Int.mul_lt_mul_of_pos_right h2 hb
  have e1 : a * d * f = (a * f) * d := by grind
  have e2 : c * b * f = c * f * b := by grind
  have e3 : e * d * b = (e * b) * d := by grind
  exact Int.lt_of_mul_lt_mul_right (a := d) (by omega) (Int.le_of_lt hd)
theorem HiI.keep {t b i : Int} {x : Pr} (h : HiI t b i x) (c : ¬ ((t * (i + 1)).fdiv b + 1) * x.2 < x.1 * (i + 1)) : HiI t b (i + 1) x :=
  ⟨h.v1, by have := h.v2; omega, h.is, fun v h1 h2 => by
    by_cases e : v = i + 1
    · rw [e]; omega
    · exact h.all v h1 (by omega), h.first⟩
theorem HiI.put {t b i : Int} {x : Pr} (h : HiI t b i x) (hi : 1 ≤ i) (c : ((t * (i + 1)).fdiv b + 1) * x.2 < x.1 * (i + 1)) : HiI t b (i + 1) ((t * (i + 1)).fdiv b + 1, i + 1) := by
  have key : ∀ v, 1 ≤ v → v ≤ i → ((t * (i + 1)).fdiv b + 1) * v < ((t * v).fdiv b + 1) * (i + 1) := fun v h1 h2 => trans_gt (by omega) (by have := h.v1; omega) (by omega) (h.all v h1 h2) c
  refine ⟨by show 1 ≤ i + 1; omega, Int.le_refl _, rfl, fun v h1 h2 => ?_, fun v h1 h2 => key v h1 (by have h2 : v < i + 1 := h2; omega)⟩
  by_cases e : v = i + 1
  · rw [e]; exact Int.le_refl _
  · exact Int.le_of_lt (key v h1 (by omega))
theorem lo_is {t b size p q p' q' : Int} (hb : 0 < b) (hq : 1 ≤ q) (hq' : 1 ≤ q') (hqs : q ≤ size) (hs : size < q + q') (det : p' * q - p * q' = 1) (lo : p * b < t * q) (hi : t * q' < p' * b) {x : Pr} (h : LoI t b size x) : x = (p, q) := by
  obtain ⟨u, v⟩ := x
  obtain ⟨v1, v2, is, all, first⟩ := h
  have v1 : 1 ≤ v := v1
  have v2 : v ≤ size := v2
  have is : u = (t * v).fdiv b := is
  obtain ⟨f1, f2⟩ := two_floor hb hq hq' det lo hi
  have a1 : (t * q).fdiv b * v ≤ u * q := all q hq hqs
  rw [f1] at a1
  have ub := (fdiv_bounds (a := t * v) hb).1
  rw [← is] at ub
  have ev : v = (u * q - p * v) * q' + (p' * v - u * q') * q := by grind
  have a2 : ¬ 0 < u * q - p * v := fun z => by
    have hb0 : p' * v - u * q' ≤ 0 := by
      rcases Int.lt_or_le 0 (p' * v - u * q') with y | y
      · have m1 := Int.mul_le_mul_of_nonneg_right (show 1 ≤ u * q - p * v by omega) (show 0 ≤ q' by omega)
        have m2 := Int.mul_le_mul_of_nonneg_right (show 1 ≤ p' * v - u * q' by omega) (show 0 ≤ q by omega)
        omega
      · exact y
    have m1 := Int.mul_le_mul_of_nonneg_right (show p' * v ≤ u * q' by omega) (Int.le_of_lt hb)
    have m2 := Int.mul_lt_mul_of_pos_right hi (show 0 < v by omega)
    have m3 := Int.mul_le_mul_of_nonneg_right ub (show 0 ≤ q' by omega)
    have e1 : p' * v * b = p' * b * v := by grind
    have e2 : u * q' * b = u * b * q' := by grind
    have e3 : t * q' * v = t * v * q' := by grind
    omega
  have e0 : u * q = p * v := by omega
  have e1 : v = (p' * v - q' * u) * q := by grind
  have hm : 1 ≤ p' * v - q' * u := by
    rcases Int.lt_or_le 0 (p' * v - q' * u) with z | z
    · omega
    · have := Int.mul_nonpos_of_nonpos_of_nonneg z (show 0 ≤ q by omega)
      omega
  have m1 := Int.mul_le_mul_of_nonneg_right hm (show 0 ≤ q by omega)
  have vq : v = q := by
    by_cases z : q < v
    · have y : (t * q).fdiv b * v < u * q := first q hq z
      rw [f1] at y
      omega
    · omega
  rw [vq, f1] at is
  rw [is, vq]
theorem hi_is {t b size p q p' q' : Int} (hb : 0 < b) (hq : 1 ≤ q) (hq' : 1 ≤ q') (hqs : q' ≤ size) (hs : size < q + q') (det : p' * q - p * q' = 1) (lo : p * b < t * q) (hi : t * q' < p' * b) {x : Pr} (h : HiI t b size x) : x = (p', q') := by
  obtain ⟨u, v⟩ := x
  obtain ⟨v1, v2, is, all, first⟩ := h
  have v1 : 1 ≤ v := v1
  have v2 : v ≤ size := v2
  have is : u = (t * v).fdiv b + 1 := is
  obtain ⟨f1, f2⟩ := two_floor hb hq hq' det lo hi
  have a1 : u * q' ≤ ((t * q').fdiv b + 1) * v := all q' hq' hqs
  rw [f2] at a1
  have ub := (fdiv_bounds (a := t * v) hb).2
  rw [← is] at ub
  have ev : v = (u * q - p * v) * q' + (p' * v - u * q') * q := by grind
  have a2 : ¬ 0 < p' * v - u * q' := fun z => by
    have hb0 : u * q - p * v ≤ 0 := by
      rcases Int.lt_or_le 0 (u * q - p * v) with y | y
      · have m1 := Int.mul_le_mul_of_nonneg_right (show 1 ≤ u * q - p * v by omega) (show 0 ≤ q' by omega)
        have m2 := Int.mul_le_mul_of_nonneg_right (show 1 ≤ p' * v - u * q' by omega) (show 0 ≤ q by omega)
        omega
      · exact y
    have m1 := Int.mul_le_mul_of_nonneg_right (show u * q ≤ p * v by omega) (Int.le_of_lt hb)
    have m2 := Int.mul_lt_mul_of_pos_right lo (show 0 < v by omega)
    have m3 := Int.mul_lt_mul_of_pos_right ub (show 0 < q by omega)
    have e1 : p * v * b = p * b * v := by grind
    have e2 : u * q * b = u * b * q := by grind
    have e3 : t * q * v = t * v * q := by grind
    omega
  have e0 : u * q' = p' * v := by omega
  have e1 : v = (q * u - p * v) * q' := by grind
  have hm : 1 ≤ q * u - p * v := by
    rcases Int.lt_or_le 0 (q * u - p * v) with z | z
    · omega
    · have := Int.mul_nonpos_of_nonpos_of_nonneg z (show 0 ≤ q' by omega)
      omega
  have m1 := Int.mul_le_mul_of_nonneg_right hm (show 0 ≤ q' by omega)
  have vq : v = q' := by
    by_cases z : q' < v
    · have y : u * q' < ((t * q').fdiv b + 1) * v := first q' hq' z
      rw [f2] at y
      omega
    · omega
  rw [vq, f2] at is
  rw [is, vq]
/-! ### nearest: the program over a fraction -/
theorem ask_fb_part {u v : Int} {told : Bool} (hu : fits u) (hv : fits v) (h : v ≠ 0) (l : Int) : askF 1 (.fb u v told) l = some (some (.part (u.fdiv v)), .fb v (u.fmod v) true, l) := by
  show (fbAsk u v told).map _ = _
  unfold fbAsk
  rw [if_pos ⟨hu, hv⟩, if_neg h, fmod_eq]
  rfl
theorem ask_fb_fin {u : Int} (hu : fits u) (l : Int) : askF 1 (.fb u 0 true) l = some (some .fin, .fb u 0 true, l) := by
  show (fbAsk u 0 true).map _ = _
  unfold fbAsk
  rw [if_pos ⟨hu, by decide +kernel⟩]
  rfl
theorem fits_fmod {u v : Int} (hv : fits v) (h : v ≠ 0) : fits (u.fmod v) := Nat.lt_trans (fmod_abs h) hv
/-- a leaf beside a fraction whose parts cost nothing -/
theorem ord_fb : ∀ (n : Nat) (t s u v : Int) (told : Bool) (i : Nat) (l : Int), (chain t s).length ≤ n → fits u → fits v → (v ≠ 0 ∨ told = true) → ∃ m, Ord m i (.leaf (.frac t s)) (.fb u v told) l (some (cmpF (chain t s) (chain u v) i l))
  | n, t, s, u, v, told, i, l, hn, fu, fv, hv0 => by
    by_cases hs : s = 0
    · subst hs
      have e1 := fun l => ans_end (n := 0) (c := .frac t 0) rfl l
      by_cases hv : v = 0
      · subst hv
        obtain rfl : told = true := hv0.resolve_left fun z => z rfl
        rw [chain_zero, chain_zero]
        exact ⟨1, .sm (e1 l) (ask_fb_fin fu l)⟩
      · rw [chain_zero, chain_cons hv]
        show ∃ m, Ord m i _ _ l (some (ordWord i .fin (.part (u.fdiv v))))
        exact ⟨1, .df (e1 l) (by intro z; cases z) (ask_fb_part fu fv hv l) (by intro z; cases z) (by intro z; cases z)⟩
    · have hs' : Chain.ended (.frac t s) = false := decide_eq_false hs
      by_cases hl : l < 1
      · refine ⟨1, ?_⟩
        have : cmpF (chain t s) (chain u v) i l = "waits" := by
          rw [chain_cons hs]
          cases chain u v with
          | nil => exact if_pos hl
          | cons q ds => exact if_pos hl
        rw [this]
        exact .w1 (ans_waits (n := 0) hs' hl)
      · have a1 := ans_part (n := 0) hs' hl
        by_cases hv : v = 0
        · subst hv
          obtain rfl : told = true := hv0.resolve_left fun z => z rfl
          rw [chain_zero, chain_cons hs]
          show ∃ m, Ord m i _ _ l (some (if l < 1 then "waits" else ordWord i (.part (t.fdiv s)) .fin))
          rw [if_neg hl]
          exact ⟨1, .df a1 (by intro z; cases z) (ask_fb_fin fu (l - 1)) (by intro z; cases z) (by intro z; cases z)⟩
        · have hn' : (chain s (t.fmod s)).length + 1 ≤ n := by rw [chain_cons hs, List.length_cons] at hn; exact hn
          rw [chain_cons hs, chain_cons hv]
          show ∃ m, Ord m i _ _ l (some (if l < 1 then "waits" else if t.fdiv s = u.fdiv v then cmpF (chain s (t.fmod s)) (chain v (u.fmod v)) (i + 1) (l - 1) else ordWord i (.part (t.fdiv s)) (.part (u.fdiv v))))
          rw [if_neg hl]
          have a2 := ask_fb_part (told := told) fu fv hv (l - 1)
          by_cases hp : t.fdiv s = u.fdiv v
          · rw [if_pos hp]
            match n, hn' with
            | 0, hn' => omega
            | n + 1, hn' =>
              obtain ⟨m, od⟩ := ord_fb n s (t.fmod s) v (u.fmod v) true (i + 1) (l - 1) (by omega) fv (fits_fmod fv hv) (.inr rfl)
              rw [← hp] at a2
              exact ⟨m + 1, .nx a1 a2 od⟩
          · rw [if_neg hp]
            exact ⟨1, .df a1 (by intro z; cases z) a2 (by intro z; cases z) (fun z => hp (Ans.part.inj z))⟩
def bE (e : Nat) (z : Int) : Prop := z.natAbs < 2 ^ e
def bP (e : Nat) (x : Pr) : Prop := bE e x.1 ∧ bE e x.2
theorem bE.fits {e : Nat} {z : Int} (h : bE e z) (he : e ≤ 13000) : fits z := Nat.lt_of_lt_of_le h (Nat.pow_le_pow_right (by decide) he)
theorem bE.mono {e e' : Nat} {z : Int} (h : bE e z) (he : e ≤ e') : bE e' z := Nat.lt_of_lt_of_le h (Nat.pow_le_pow_right (by decide) he)
theorem bE.mul {e e' : Nat} {x y : Int} (h : bE e x) (h' : bE e' y) : bE (e + e') (x * y) := by
  unfold bE at *
  rw [Int.natAbs_mul, Nat.pow_add]
  exact Nat.mul_lt_mul'' h h'
theorem bE.add {e : Nat} {x y : Int} (h : bE e x) (h' : bE e y) : bE (e + 1) (x + y) := by
  unfold bE at *
  rw [Nat.pow_succ]
  generalize 2 ^ e = Z at *
  omega
theorem bE.step {e : Nat} {x y a : Int} (h : bE e x) (h' : bE e y) (ha : tame a) : bE (e + 41) (x + a * y) := by
  have a40 : bE 40 a := Nat.lt_of_le_of_lt (show a.natAbs ≤ 1000000000000 by unfold tame at ha; omega) (by decide)
  have := (h.mono (show e ≤ 40 + e by omega)).add (a40.mul h')
  exact this.mono (by omega)
theorem tame_fits {a : Int} (ha : tame a) : fits a := by
  have a40 : bE 40 a := Nat.lt_of_le_of_lt (show a.natAbs ≤ 1000000000000 by unfold tame at ha; omega) (by decide)
  exact a40.fits (by decide)
theorem fdiv_tame {x y : Int} (hx : tame x) (hy : y ≠ 0) : tame (x.fdiv y) := by
  have := fdiv_abs (a := x) hy
  unfold tame at *
  omega
theorem fmod_tame {x y : Int} (hy : tame y) (h0 : y ≠ 0) : tame (x.fmod y) := by
  have := fmod_abs (a := x) h0
  unfold tame at *
  omega
/-- both not below nought, or both not above -/
def SgS (x y : Int) : Prop := (0 ≤ x ∧ 0 ≤ y) ∨ (x ≤ 0 ∧ y ≤ 0)
theorem SgS.quot {x y : Int} (h : SgS x y) (hy : y ≠ 0) : 0 ≤ x.fdiv y := by
  have key : ∀ {x y : Int}, 0 ≤ x → 0 < y → 0 ≤ x.fdiv y := fun {x y} hx hy => by
    obtain ⟨_, b⟩ := fdiv_bounds (a := x) hy
    rcases Int.lt_or_le (x.fdiv y) 0 with z | z
    · have := Int.mul_le_mul_of_nonneg_right (show x.fdiv y + 1 ≤ 0 by omega) (Int.le_of_lt hy)
      omega
    · exact z
  rcases h with ⟨h1, h2⟩ | ⟨h1, h2⟩
  · exact key h1 (by omega)
  · rw [← fdiv_negs]
    exact key (by omega) (by omega)
theorem sgs_next {x y : Int} (hy : y ≠ 0) : SgS y (x.fmod y) := by
  rcases Int.lt_or_gt_of_ne hy with h | h
  · right
    have e1 := fmod_eq x y
    have e2 := fmod_eq (-x) (-y)
    have e3 := fmod_pos (a := -x) (show 0 < -y by omega)
    rw [fdiv_negs] at e2
    have e4 : x.fdiv y * -y = -(x.fdiv y * y) := by rw [Int.mul_neg]
    omega
  · have := fmod_pos (a := x) h
    exact .inl ⟨by omega, by omega⟩
def PrT (K : PySem.W.Frag) (H : Hp) (a : Addr) (x : Pr) : Prop := SqT K H a [.int x.1, .int x.2]
def SidesQ (K : PySem.W.Frag) (Q : VK) (H : Hp) : Option (Pr × Pr) → Prop
  | none => Q .non H
  | some r => ∀ p pl ph H', Same H H' → SqT K H' p [.ref pl, .ref ph] → PrT K H' pl r.1 → PrT K H' ph r.2 → bP 3400 r.1 → bP 3400 r.2 → Q (.ref p) H'
theorem eqv_pr (x y : Pr) : PyData.eqv (.tuple [.int x.1, .int x.2]) (.tuple [.int y.1, .int y.2]) = decide (x = y) := by
  by_cases e : x = y
  · subst e
    rw [decide_eq_true rfl]
    exact SeqAt.eqv_refl _ rfl
  · rw [decide_eq_false e]
    cases z : PyData.eqv (.tuple [.int x.1, .int x.2]) (.tuple [.int y.1, .int y.2]) with
    | false => rfl
    | true =>
      exfalso
      simp [PyData.eqv, PyData.eqvAll] at z
      exact e (Prod.ext z.1 z.2)
theorem PrT.dp {K : PySem.W.Frag} {H : Hp} {a : Addr} {x : Pr} (h : PrT K H a x) : Dp K H (.ref a) (.tuple [.int x.1, .int x.2]) := .tup h (.cons (.int _) (.cons (.int _) .nil))
section
variable {P : Program} {w : World} {K : PySem.W.Frag} {mg : Str → Option Value} {base : Heap} {A : Ad}
def sp_stepped (K : PySem.W.Frag) : Sp := fun vs H Q _ => ∃ (x y : Addr) (p q : Pr) (a : Int), vs = [.ref x, .ref y, .int a] ∧ PrT K H x p ∧ PrT K H y q ∧ fits a ∧ fits q.1 ∧ fits q.2 ∧ ∀ r, H r = none → Q (.ref r) (upd H r (.tup [.int (p.1 + a * q.1), .int (p.2 + a * q.2)]))
theorem ok_stepped (T : CT K mg A) (D : DT K mg A) : COk P w K mg base CX0 1 "stepped" ["before", "last", "times"] (sp_stepped K) := by
  refine COk.by D.stepped fun f fd F => ?_
  refine F.ok sc_stepped (fun vs H Q E h => ?_) (fun cdv Ar outer s H vs Q E hr h => ?_)
  · obtain ⟨x, y, p, q, a, rfl, _⟩ := h
    rfl
  · obtain ⟨x, y, p, q, a, rfl, hx, hy, fa, f1, f2, k⟩ := h
    refine ⟨_, (pss_one (ps_ret (pe_tup (pa_cons (pe_op op_add (pe_ix ix_tup (pv 0) pe_int (fun _ _ => rfl)) (pe_op op_mulW (pv 2) (pe_ix ix_tup (pv 1) pe_int (fun _ _ => rfl)))) (pa_cons (pe_op op_add (pe_ix ix_tup (pv 0) pe_int (fun _ _ => rfl)) (pe_op op_mulW (pv 2) (pe_ix ix_tup (pv 1) pe_int (fun _ _ => rfl)))) pa_nil))))), ?_⟩
    refine ⟨_, rfl, x, _, 0, _, rfl, rfl, hx, atI_nat (j := 0) rfl, _, rfl, _, rfl, y, _, 0, _, rfl, rfl, hy, atI_nat (j := 0) rfl, _, _, rfl, rfl, fits_mul fa f1, _, _, rfl, rfl, ?_⟩
    exact ⟨_, rfl, x, _, 1, _, rfl, rfl, hx, atI_nat (j := 1) rfl, _, rfl, _, rfl, y, _, 1, _, rfl, rfl, hy, atI_nat (j := 1) rfl, _, _, rfl, rfl, fits_mul fa f2, _, _, rfl, rfl, (by show 2 ≤ sizeLine; decide), k⟩
def sp_within (K : PySem.W.Frag) : Sp := fun vs H Q _ => ∃ (x y : Addr) (p q : Pr) (size : Int) (e : Nat), vs = [.ref x, .ref y, .int size] ∧ PrT K H x p ∧ PrT K H y q ∧ q.2 ≠ 0 ∧ tame (size - p.2) ∧ bP e p ∧ bP e q ∧ e + 41 ≤ 3400 ∧ SidesQ K Q H (some (within p q size))
theorem ok_sides_within (T : CT K mg A) (D : DT K mg A) : COk P w K mg base CX0 2 "sides_within" ["before", "last", "size"] (sp_within K) := by
  have G_stepped := ok_stepped (P := P) (w := w) (base := base) T D
  refine COk.by D.sides_within fun f fd F => ?_
  refine F.ok sc_sides_within (fun vs H Q E h => ?_) (fun cdv Ar outer s H vs Q E hr h => ?_)
  · obtain ⟨x, y, p, q, size, e, rfl, _⟩ := h
    rfl
  · obtain ⟨x, y, p, q, size, e, rfl, hx, hy, hq, hd, bp, bq, he, k⟩ := h
    refine ⟨_, (pss_cons (ps_set (i := 3) sc_sides_within.nd rfl (Or.inl rfl) (pe_c G_stepped (hr.mono (by first | decide | omega)) (pa_cons (pv 0) (pa_cons (pv 1) (pa_cons (pe_op op_fdivM (pe_op op_sub (pv 2) (pe_ix ix_tup (pv 0) pe_int (fun _ _ => rfl))) (pe_ix ix_tup (pv 1) pe_int (fun _ _ => rfl))) pa_nil)))))
    (pss_cons (ps_if (pt_cmpR op_lt (pe_op op_mulW (pe_ix ix_tup (pv 1) pe_int (fun _ _ => rfl)) (pe_ix ix_tup (pv 3) pe_int (fun _ _ => rfl))) (pe_op op_mulW (pe_ix ix_tup (pv 3) pe_int (fun _ _ => rfl)) (pe_ix ix_tup (pv 1) pe_int (fun _ _ => rfl))) (nomark _))
      (pss_one (ps_ret (pe_tup (pa_cons (pv 1) (pa_cons (pv 3) pa_nil))))) pss_nil)
    (pss_one (ps_ret (pe_tup (pa_cons (pv 3) (pa_cons (pv 1) pa_nil))))))), ?_⟩
    have tj := fdiv_tame hd hq
    refine ⟨_, rfl, _, rfl, _, rfl, _, rfl, x, _, 1, _, rfl, rfl, hx, atI_nat (j := 1) rfl, _, _, rfl, rfl, _, rfl, y, _, 1, _, rfl, rfl, hy, atI_nat (j := 1) rfl, _, _, rfl, rfl, ⟨hq, tame_fits hd⟩, ?_⟩
    refine ⟨x, y, p, q, _, rfl, hx, hy, tame_fits tj, bq.1.fits (by omega), bq.2.fits (by omega), fun o no => ?_⟩
    unfold within at k
    dsimp only at k
    generalize (size - p.2).fdiv q.2 = j at *
    have s1 := same_upd (o := .tup [V.int (p.1 + j * q.1), .int (p.2 + j * q.2)]) no
    have ho : PrT K _ o (p.1 + j * q.1, p.2 + j * q.2) := SqT.of (upd_at s1)
    have hy1 : PrT K _ y q := sqT_same hy s1
    generalize upd H o _ = H1 at *
    have bo : bP (e + 41) (p.1 + j * q.1, p.2 + j * q.2) := ⟨bE.step bp.1 bq.1 tj, bE.step bp.2 bq.2 tj⟩
    have fo : bP 3400 (p.1 + j * q.1, p.2 + j * q.2) := ⟨bo.1.mono he, bo.2.mono he⟩
    have fq : bP 3400 q := ⟨bq.1.mono (by omega), bq.2.mono (by omega)⟩
    refine ⟨_, rfl, y, _, 0, _, rfl, rfl, hy1, atI_nat (j := 0) rfl, _, rfl, o, _, 1, _, rfl, rfl, ho, atI_nat (j := 1) rfl, _, _, rfl, rfl, fits_mul (fq.1.fits (by decide)) (fo.2.fits (by decide)), _, rfl, o, _, 0, _, rfl, rfl, ho, atI_nat (j := 0) rfl, _, rfl, y, _, 1, _, rfl, rfl, hy1, atI_nat (j := 1) rfl, _, _, rfl, rfl, fits_mul (fo.1.fits (by decide)) (fq.2.fits (by decide)), _, _, rfl, rfl, _, rfl, ite2 (fun c => ?_) (fun c => ?_)⟩
    · rw [if_pos (of_decide_eq_true c)] at k
      refine ⟨_, rfl, _, rfl, (by show 2 ≤ sizeLine; decide), fun r nr => ?_⟩
      have s2 := same_upd (o := .tup [V.ref y, .ref o]) nr
      exact k r y o _ (s1.trans s2) (SqT.of upd_same) (sqT_same hy1 s2) (sqT_same ho s2) fq fo
    · rw [if_neg (fun z => c (decide_eq_true z))] at k
      refine ⟨_, rfl, _, rfl, (by show 2 ≤ sizeLine; decide), fun r nr => ?_⟩
      have s2 := same_upd (o := .tup [V.ref o, .ref y]) nr
      exact k r o y _ (s1.trans s2) (SqT.of upd_same) (sqT_same ho s2) (sqT_same hy1 s2) fo fq
end
/-! ### the two sides, and the nearer one -/
section
variable {P : Program} {w : World} {K : PySem.W.Frag} {mg : Str → Option Value} {base : Heap} {A : Ad}
def sp_sides (A : Ad) (K : PySem.W.Frag) : Sp := fun vs H Q _ => ∃ (r a m : Addr) (fp : List Addr) (t b size most : Int), vs = [.ref r, .int size, .int most] ∧ ReadB A K H r a m fp (.leaf (.frac t b)) 0 0 ∧ tame t ∧ tame b ∧ 1 ≤ size ∧ tame size ∧
  ∀ H', (∀ c z, H c = some z → c ∉ fp → c ≠ m → H' c = some z) → SidesQ K Q H' (sidesL size (chain t b) (0, 1) (1, 0) most)
theorem ok_sides (T : CT K mg A) (D : DT K mg A) : COk P w K mg base CX0 8 "read_sides" ["reading", "size", "most"] (sp_sides A K) := by
  have M_part := ok_partB (P := P) (w := w) (base := base) T D 0
  have M_took := ok_tookB (P := P) (w := w) (base := base) T D
  have G_stepped := ok_stepped (P := P) (w := w) (base := base) T D
  have G_sides_within := ok_sides_within (P := P) (w := w) (base := base) T D
  refine COk.by D.read_sides fun f fd F => ?_
  refine F.ok (k := 7) sc_read_sides (fun vs H Q E h => ?_) (fun cdv Ar outer s H vs Q E hr h => ?_)
  · obtain ⟨r, a, m, fp, t, b, size, most, rfl, _⟩ := h
    rfl
  · obtain ⟨r, a, m, fp, t, b, size, most, rfl, R, tt, tb, hs, ts, k⟩ := h
    refine ⟨_, (pss_cons (ps_asg (pe_tup (pa_cons (pe_tup (pa_cons pe_int (pa_cons pe_int pa_nil))) (pa_cons (pe_tup (pa_cons pe_int (pa_cons pe_int pa_nil))) pa_nil))) (pg_tup rfl (pgs_cons (pg_name (i := 3) sc_read_sides.nd rfl (Or.inl rfl)) (pgs_cons (pg_name (i := 4) sc_read_sides.nd rfl (Or.inl rfl)) pgs_nil))))
    (pss_one (ps_while PassesOwn.never (pt_val pe_bl)
      (pss_cons (ps_set (i := 5) sc_read_sides.nd rfl (Or.inl rfl) (pe_mX M_part (hr.mono (by first | decide | omega)) passX0 (pv 0) (pa_cons (pe_op op_sub (pv 2) (pe_m0 M_took (hr.mono (by first | decide | omega)) (pv 0))) pa_nil)))
    (pss_cons (ps_if (pt_cmpR (op_eqD hr.units) (pv 5) (pe_glob (v := .ref A.k_WAITS) (by rfl) T.g_WAITS rfl) (nomark _))
      (pss_one (ps_ret pe_non)) pss_nil)
    (pss_cons (ps_if (pt_cmpR (op_eqD hr.units) (pv 5) (pe_glob (v := .ref A.k_END) (by rfl) T.g_END rfl) (nomark _))
      (pss_one (ps_ret (pe_tup (pa_cons (pv 4) (pa_cons (pv 4) pa_nil))))) pss_nil)
    (pss_cons (ps_set (i := 6) sc_read_sides.nd rfl (Or.inl rfl) (pe_c G_stepped (hr.mono (by first | decide | omega)) (pa_cons (pv 3) (pa_cons (pv 4) (pa_cons (pe_ix ix_tup (pv 5) pe_int (fun _ _ => rfl)) pa_nil)))))
    (pss_cons (ps_if (pt_cmpR op_gt (pe_ix ix_tup (pv 6) pe_int (fun _ _ => rfl)) (pv 1) (nomark _))
      (pss_one (ps_ret (pe_c G_sides_within (hr.mono (by first | decide | omega)) (pa_cons (pv 3) (pa_cons (pv 4) (pa_cons (pv 1) pa_nil)))))) pss_nil)
    (pss_one (ps_par (i := 3) (j := 4) (by rfl) sc_read_sides.nd rfl rfl (by decide) rfl rfl (pa_cons (pv 4) (pa_cons (pv 6) pa_nil)) (by rfl))))))))))), ?_⟩
    refine ⟨(by show 2 ≤ sizeLine; decide), fun p1 n1 => ⟨(by show 2 ≤ sizeLine; decide), fun p2 n2 => ⟨(by show 2 ≤ sizeLine; decide), fun p3 n3 => ?_⟩⟩⟩
    have s1 := same_upd (o := .tup [V.int 0, .int 1]) n1
    have s2 := same_upd (o := .tup [V.int 1, .int 0]) n2
    have s3 := same_upd (o := .tup [V.ref p1, .ref p2]) n3
    have s12 := (s1.trans s2).trans s3
    have R2 := R.same s12
    have h1 : PrT K _ p1 (0, 1) := sqT_same (SqT.of (K := K) (upd_at s1)) (s2.trans s3)
    have h2 : PrT K _ p2 (1, 0) := sqT_same (SqT.of (K := K) (upd_at s2)) s3
    refine ⟨p3, _, rfl, SqT.of upd_same, rfl, _, _, rfl, _, _, rfl, rfl, ?_⟩
    generalize upd (upd (upd H p1 _) p2 _) p3 _ = H2 at *
    obtain ⟨own, hown⟩ : ∃ own : Addr → Prop, own = fun c => c ∈ fp ∨ c = m := ⟨_, rfl⟩
    have kk : ∀ H', (∀ c z, H c = some z → ¬ own c → H' c = some z) → SidesQ K Q H' (sidesL size (chain t b) (0, 1) (1, 0) most) := fun H' h => k H' fun c z e n1 n2 => h c z e (by rw [hown]; rintro (y | y); exact n1 y; exact n2 y)
    have om : own m := by rw [hown]; exact .inr rfl
    generalize hR : sidesL size (chain t b) (0, 1) (1, 0) most = Rr at *
    have len : (chain t b).length ≤ 80 := chain_len 40 _ _ (Nat.lt_of_le_of_lt (show b.natAbs ≤ 1000000000000 by unfold tame at tb; omega) (by decide))
    refine while_nat (fun n σ H' => ∃ (x y : Int) (bef last : Pr) (pb pl : Addr) (fp' : List Addr) (l s : Int) (e : Nat) (v5 v6 : Option V), σ = [some (.ref r), some (.int size), some (.int most), some (.ref pb), some (.ref pl), v5, v6] ∧ n = (chain x y).length ∧ ReadB A K H' r a m fp' (.leaf (.frac x y)) l s ∧ sidesL size (chain x y) bef last (most - s) = Rr ∧ tame x ∧ tame y ∧ (last.2 = 0 ∨ SgS x y) ∧ 0 ≤ bef.2 ∧ bef.2 ≤ size ∧ 0 ≤ last.2 ∧ last.2 ≤ size ∧ bP e bef ∧ bP e last ∧ e + 41 * n ≤ 3300 ∧ PrT K H' pb bef ∧ PrT K H' pl last ∧
        (∀ c z, H c = some z → ¬ own c → H' c = some z) ∧ (∀ c ∈ fp', own c ∨ H c = none))
      (m0 := (chain t b).length) ⟨t, b, (0, 1), (1, 0), p1, p2, fp, 0, 0, 2, none, none, rfl, rfl, R2, by rw [Int.sub_zero]; exact hR, tt, tb, .inl rfl, by decide, hs, by decide, by show (0 : Int) ≤ size; omega, ⟨by show (0 : Nat) < _; decide, by show (1 : Nat) < _; decide⟩, ⟨by show (1 : Nat) < _; decide, by show (0 : Nat) < _; decide⟩, by omega, h1, h2, fun c z e _ => s12 c z e, fun c hc => .inl (by rw [hown]; exact .inl hc)⟩ ?_ ?_
    · rintro n σ H1 ⟨x, y, bef, last, pb, pl, fp', l, s, e, v5, v6, rfl, hn, R1, hL, tx, ty, sg, b0, b1, l0, l1, bb, bl, he, hb, hl, fr, sub⟩
      refine ⟨_, rfl, iteT ?_⟩
      obtain ⟨rx, er⟩ := R1.rd
      obtain ⟨dm, em⟩ := R1.mt
      have step : ∀ {H3 : Hp} {fpb : List Addr}, (∀ c z, H1 c = some z → c ∉ fp' → c ≠ m → H3 c = some z) → (∀ c ∈ fpb, c ∈ fp' ∨ H1 c = none) → (∀ c z, H c = some z → ¬ own c → H3 c = some z) ∧ (∀ c ∈ fpb, own c ∨ H c = none) := fun {H3 fpb} frb subb => by
        refine ⟨fun c z e n => frb c z (fr c z e n) (fun q => ?_) (fun q => n (q ▸ om)), fun c hc => ?_⟩
        · rcases sub c q with y | y
          · exact n y
          · rw [e] at y; cases y
        · rcases subb c hc with y | y
          · exact sub c y
          · cases z : H c with
            | none => exact .inr rfl
            | some o =>
              rcases Classical.em (own c) with q | q
              · exact .inl q
              · rw [fr c o z q] at y; cases y
      have hW : ∀ H0 : Hp, Dp K H0 (.ref A.k_WAITS) (.tuple Ans.waits.data) := fun H0 => Ans.dp .waits (T.t_WAITS H0)
      have hE : ∀ H0 : Hp, Dp K H0 (.ref A.k_END) (.tuple Ans.fin.data) := fun H0 => Ans.dp .fin (T.t_END H0)
      -- the reading, asked
      have ask : ∀ {an : Ans} {B' : Box} {l' : Int}, askF 1 (.leaf (.frac x y)) (most - s) = some (some an, B', l') → ∀ (G : V → Hp → Prop), (∀ H3 fpb p, ReadB A K H3 r a m fpb B' l' (s + (most - s - l')) → (∀ c z, H c = some z → ¬ own c → H3 c = some z) → (∀ c ∈ fpb, own c ∨ H c = none) → PrT K H3 pb bef → PrT K H3 pl last → SqT K H3 p an.vals → G (.ref p) H3) →
          sp_partB A K 0 [.ref r, .int (most - s)] H1 G E0 := fun {an B' l'} ea G hG => by
        refine ⟨r, a, m, fp', _, l, s, _, 1, some an, B', l', rfl, R1, Nat.le_refl _, ea, fun H3 fpb R3 frb subb v hv => ?_⟩
        obtain ⟨p, rfl, hp⟩ := Ans.At.tup T hv
        obtain ⟨g1, g2⟩ := step frb subb
        exact hG H3 fpb p R3 g1 g2 (sqT_frame hb R1.bx.soft ⟨_, _, _, em⟩ frb) (sqT_frame hl R1.bx.soft ⟨_, _, _, em⟩ frb) hp
      by_cases hy : y = 0
      · subst hy
        rw [chain_zero] at hL
        refine ⟨_, rfl, r, rx, _, rfl, er, rfl, _, rfl, _, rfl, r, rx, _, rfl, er, rfl, r, a, m, fp', _, l, s, rfl, R1, _, _, rfl, rfl, ask (ans_end (n := 0) (c := .frac x 0) rfl _) _ fun H3 fpb p R3 g1 g2 hb3 hl3 hp => ?_⟩
        refine ⟨_, rfl, _, _, Ans.dp _ hp, hW H3, Ans.shaped _, Ans.shaped _, _, rfl, ?_⟩
        rw [eqv_waits]
        refine iteF ⟨_, rfl, _, _, Ans.dp _ hp, hE H3, Ans.shaped _, Ans.shaped _, _, rfl, ?_⟩
        rw [eqv_fin]
        refine iteT ⟨_, rfl, _, rfl, (by show 2 ≤ sizeLine; decide), fun q nq => ?_⟩
        have s4 := same_upd (o := .tup [V.ref pl, .ref pl]) nq
        have kq := kk H3 g1
        rw [← hL] at kq
        have b3 : bP 3400 last := ⟨bl.1.mono (by omega), bl.2.mono (by omega)⟩
        exact kq q pl pl _ s4 (SqT.of upd_same) (sqT_same hl3 s4) (sqT_same hl3 s4) b3 b3
      · have hend : Chain.ended (.frac x y) = false := decide_eq_false hy
        rw [chain_cons hy] at hL
        have hL : (if most - s < 1 then none else if size < bef.2 + x.fdiv y * last.2 then some (within bef last size) else sidesL size (chain y (x.fmod y)) last (bef.1 + x.fdiv y * last.1, bef.2 + x.fdiv y * last.2) (most - s - 1)) = Rr := hL
        by_cases hlw : most - s < 1
        · rw [if_pos hlw] at hL
          refine ⟨_, rfl, r, rx, _, rfl, er, rfl, _, rfl, _, rfl, r, rx, _, rfl, er, rfl, r, a, m, fp', _, l, s, rfl, R1, _, _, rfl, rfl, ask (ans_waits (n := 0) hend hlw) _ fun H3 fpb p R3 g1 g2 hb3 hl3 hp => ?_⟩
          refine ⟨_, rfl, _, _, Ans.dp _ hp, hW H3, Ans.shaped _, Ans.shaped _, _, rfl, ?_⟩
          rw [eqv_waits]
          refine iteT ?_
          have kq := kk H3 g1
          rw [← hL] at kq
          exact kq
        · rw [if_neg hlw] at hL
          have ta := fdiv_tame tx hy
          have tm := fmod_tame (x := x) ty hy
          have len2 : n = (chain y (x.fmod y)).length + 1 := by rw [hn, chain_cons hy, List.length_cons]
          have pos : last.2 = 0 ∨ 0 ≤ x.fdiv y := sg.imp id fun z => z.quot hy
          refine ⟨_, rfl, r, rx, _, rfl, er, rfl, _, rfl, _, rfl, r, rx, _, rfl, er, rfl, r, a, m, fp', _, l, s, rfl, R1, _, _, rfl, rfl, ask (ans_part (n := 0) (c := .frac x y) hend hlw) _ fun H3 fpb p R3 g1 g2 hb3 hl3 hp => ?_⟩
          refine ⟨_, rfl, _, _, Ans.dp _ hp, hW H3, Ans.shaped _, Ans.shaped _, _, rfl, ?_⟩
          rw [eqv_waits]
          refine iteF ⟨_, rfl, _, _, Ans.dp _ hp, hE H3, Ans.shaped _, Ans.shaped _, _, rfl, ?_⟩
          rw [eqv_fin]
          refine iteF ⟨_, rfl, _, rfl, _, rfl, p, _, 1, .int (x.fdiv y), rfl, rfl, hp, atI_nat (j := 1) rfl, pb, pl, bef, last, _, rfl, hb3, hl3, tame_fits ta, bl.1.fits (by omega), bl.2.fits (by omega), fun o no => ?_⟩
          have R3 : ReadB A K H3 r a m fpb (.leaf (.frac y (x.fmod y))) (most - s - 1) (s + (most - s - (most - s - 1))) := R3
          rw [show s + (most - s - (most - s - 1)) = s + 1 by omega] at R3
          generalize x.fdiv y = aa at *
          have s4 := same_upd (o := .tup [V.int (bef.1 + aa * last.1), .int (bef.2 + aa * last.2)]) no
          have ho : PrT K _ o (bef.1 + aa * last.1, bef.2 + aa * last.2) := SqT.of (upd_at s4)
          have hb4 : PrT K _ pb bef := sqT_same hb3 s4
          have hl4 : PrT K _ pl last := sqT_same hl3 s4
          have R4 := R3.same s4
          have g4 : ∀ c z, H c = some z → ¬ own c → (upd H3 o (.tup [V.int (bef.1 + aa * last.1), .int (bef.2 + aa * last.2)])) c = some z := fun c z e n => s4 _ _ (g1 c z e n)
          generalize upd H3 o _ = H4 at *
          refine ⟨_, rfl, o, _, 1, _, rfl, rfl, ho, atI_nat (j := 1) rfl, _, rfl, _, _, rfl, rfl, _, rfl, ite2 (fun c => ?_) (fun c => ?_)⟩
          · have c : size < bef.2 + aa * last.2 := of_decide_eq_true c
            rw [if_pos c] at hL
            have kq := kk H4 g4
            rw [← hL] at kq
            have l20 : last.2 ≠ 0 := fun z => by rw [z, Int.mul_zero] at c; omega
            exact ⟨_, rfl, _, rfl, _, rfl, pb, pl, bef, last, size, e, rfl, hb4, hl4, l20, ⟨by unfold tame at ts; omega, by unfold tame at ts; omega⟩, bb, bl, by omega, kq⟩
          · have c : ¬ size < bef.2 + aa * last.2 := fun z => c (decide_eq_true z)
            rw [if_neg c] at hL
            have nn : 0 ≤ aa * last.2 := by
              rcases pos with z | z
              · rw [z, Int.mul_zero]; exact Int.le_refl _
              · exact Int.mul_nonneg z l0
            refine ⟨_, rfl, _, rfl, _, _, rfl, (chain y (x.fmod y)).length, by omega, y, x.fmod y, last, (bef.1 + aa * last.1, bef.2 + aa * last.2), pl, o, fpb, _, _, e + 41, _, _, rfl, rfl, R4, ?_, ty, tm, .inr (sgs_next hy), l0, l1, by show 0 ≤ bef.2 + aa * last.2; omega, by show bef.2 + aa * last.2 ≤ size; omega, ⟨bl.1.mono (by omega), bl.2.mono (by omega)⟩, ⟨bE.step bb.1 bl.1 ta, bE.step bb.2 bl.2 ta⟩, by omega, hl4, ho, g4, g2⟩
            rw [show most - (s + 1) = most - s - 1 by omega]
            exact hL
    · intro σ H2 Q1 Q2 im hq
      obtain ⟨b, e, z⟩ := hq
      exact ⟨b, e, im _ _ z⟩
def sp_middle (A : Ad) (K : PySem.W.Frag) : Sp := fun vs H Q _ => ∃ (x y : Addr) (l h : Pr), vs = [.ref x, .ref y] ∧ PrT K H x l ∧ PrT K H y h ∧ bP 3400 l ∧ bP 3400 h ∧
  ∀ r a m fp H', ReadB A K H' r a m fp (.fb (l.1 * h.2 + h.1 * l.2) (2 * l.2 * h.2) false) 0 0 → Same H H' → H r = none → H m = none → (∀ c ∈ fp, H c = none) → Q (.ref r) H'
theorem ok_middle (T : CT K mg A) (D : DT K mg A) : COk P w K mg base CX0 6 "middle_reading" ["low", "high"] (sp_middle A K) := by
  have I_Reading := ok_Reading_init (P := P) (w := w) (base := base) T D
  have I_FractionBox := ok_FractionBox_init (P := P) (w := w) (base := base) T D
  refine COk.by D.middle_reading fun f fd F => ?_
  refine F.ok (k := 5) sc_middle_reading (fun vs H Q E h => ?_) (fun cdv Ar outer s H vs Q E hr h => ?_)
  · obtain ⟨x, y, l, h, rfl, _⟩ := h
    rfl
  · obtain ⟨x, y, l, h, rfl, hx, hy, bl, bh, k⟩ := h
    refine ⟨_, (pss_cons (ps_set (i := 2) sc_middle_reading.nd rfl (Or.inl rfl) (pe_op op_add (pe_op op_mulW (pe_ix ix_tup (pv 0) pe_int (fun _ _ => rfl)) (pe_ix ix_tup (pv 1) pe_int (fun _ _ => rfl))) (pe_op op_mulW (pe_ix ix_tup (pv 1) pe_int (fun _ _ => rfl)) (pe_ix ix_tup (pv 0) pe_int (fun _ _ => rfl)))))
    (pss_one (ps_ret (pe_mk I_Reading (hr.mono (by first | decide | omega)) (pa_cons (pe_mk I_FractionBox (hr.mono (by first | decide | omega)) (pa_cons (pv 2) (pa_cons (pe_op op_mulW (pe_op op_mulW pe_int (pe_ix ix_tup (pv 0) pe_int (fun _ _ => rfl))) (pe_ix ix_tup (pv 1) pe_int (fun _ _ => rfl))) (pa_cons pe_bl pa_nil)))) pa_nil))))), ?_⟩
    have f1 := bl.1.fits (by decide)
    have f2 := bl.2.fits (by decide)
    have f3 := bh.1.fits (by decide)
    have f4 := bh.2.fits (by decide)
    have two : bE 2 (2 : Int) := by show (2 : Nat) < _; decide
    refine ⟨_, rfl, x, _, 0, _, rfl, rfl, hx, atI_nat (j := 0) rfl, _, rfl, y, _, 1, _, rfl, rfl, hy, atI_nat (j := 1) rfl, _, _, rfl, rfl, fits_mul f1 f4, _, rfl, y, _, 0, _, rfl, rfl, hy, atI_nat (j := 0) rfl, _, rfl, x, _, 1, _, rfl, rfl, hx, atI_nat (j := 1) rfl, _, _, rfl, rfl, fits_mul f3 f2, _, _, rfl, rfl, ?_⟩
    refine ⟨_, rfl, _, rfl, x, _, 1, _, rfl, rfl, hx, atI_nat (j := 1) rfl, _, _, rfl, rfl, fits_mul (two.fits (by decide)) f2, _, rfl, y, _, 1, _, rfl, rfl, hy, atI_nat (j := 1) rfl, _, _, rfl, rfl, fits_mul ((two.mul bl.2).fits (by decide)) f4, ?_⟩
    have rest : ∀ (fx fdx : Addr) (H1 : Hp), H fx = none → Same H H1 → H1 fx = some (.ins A.c_FractionBox fdx (fbF (l.1 * h.2 + h.1 * l.2) (2 * l.2 * h.2) false)) → ∀ x1 dx, H1 x1 = none → H1 dx = none → dx ≠ x1 →
        sp_Reading_init A (.ref x1 :: ([.ref fx] ++ [])) (upd (upd H1 dx (.own x1)) x1 (.ins A.c_Reading dx [])) (fun v H2 => v = .non ∧ Q (.ref x1) H2) E0 := fun fx fdx H1 nfx s1 hfx x1 dx nx nd ne => by
      refine ⟨x1, dx, fx, rfl, upd_same, fun m H3 nm hx3 hm kp => ⟨rfl, ?_⟩⟩
      have s3 : Same H1 H3 := fun b o e => kp b o (by rw [upd_ne (ne_of_none e nx), upd_ne (ne_of_none e nd)]; exact e) (ne_of_none e nx)
      have nm2 : H1 m = none := by
        cases q : H1 m with
        | none => rfl
        | some o =>
          have hmx : m ≠ x1 := fun z => by rw [z, upd_same] at nm; cases nm
          have hmd : m ≠ dx := fun z => by rw [z, upd_ne ne, upd_same] at nm; cases nm
          rw [upd_ne hmx, upd_ne hmd, q] at nm
          cases nm
      have hxm : x1 ≠ m := fun z => by rw [← z, upd_same] at nm; cases nm
      have o1 : ∀ c, H1 c = none → c ∉ [fx] := fun c e hc => by
        rw [List.mem_singleton.mp hc, hfx] at e
        cases e
      exact k x1 fx m [fx] H3 ⟨⟨dx, hx3⟩, ⟨fdx, rfl, s3 _ _ hfx⟩, hm, o1 x1 nx, o1 m nm2, hxm, trivial⟩ (s1.trans s3) (s1.free nx) (s1.free nm2) (fun c hc => by rw [List.mem_singleton.mp hc]; exact nfx)
    intro fx fdx nfx nfd nef
    refine ⟨fx, fdx, _, rfl, rfl, upd_same, rfl, ?_⟩
    rw [upd_upd]
    exact rest fx fdx _ nfx (made_same nfx nfd) upd_same
def sp_nearer (K : PySem.W.Frag) : Sp := fun vs H Q _ => ∃ (x y : Addr) (l h : Pr) (wd : Str), vs = [.str wd, .ref x, .ref y] ∧ PrT K H x l ∧ PrT K H y h ∧ ((wd = "waits" ∧ Q .non H) ∨ (wd = "less" ∧ Q (.ref x) H) ∨ (wd = "more" ∧ Q (.ref y) H) ∨ (wd = "same" ∧ Q (.ref (if h.2 < l.2 then y else x)) H))
theorem ok_nearer_side (T : CT K mg A) (D : DT K mg A) : COk P w K mg base CX0 1 "nearer_side" ["order", "low", "high"] (sp_nearer K) := by
  refine COk.by D.nearer_side fun f fd F => ?_
  refine F.ok sc_nearer_side (fun vs H Q E h => ?_) (fun cdv Ar outer s H vs Q E hr h => ?_)
  · obtain ⟨x, y, l, h, wd, rfl, _⟩ := h
    rfl
  · obtain ⟨x, y, l, h, wd, rfl, hx, hy, k⟩ := h
    refine ⟨_, (pss_cons (ps_if (pt_cmpR op_eq (pv 0) pe_str (nomark _))
      (pss_one (ps_ret pe_non)) pss_nil)
    (pss_cons (ps_if (pt_cmpR op_eq (pv 0) pe_str (nomark _))
      (pss_one (ps_ret (pv 1))) pss_nil)
    (pss_cons (ps_if (pt_cmpR op_eq (pv 0) pe_str (nomark _))
      (pss_one (ps_ret (pv 2))) pss_nil)
    (pss_one (ps_ret (pe_ifExp (pt_cmpR op_lt (pe_ix ix_tup (pv 2) pe_int (fun _ _ => rfl)) (pe_ix ix_tup (pv 1) pe_int (fun _ _ => rfl)) (nomark _)) (pv 2) (pv 1))))))), ?_⟩
    rcases k with ⟨rfl, k⟩ | ⟨rfl, k⟩ | ⟨rfl, k⟩ | ⟨rfl, k⟩
    · exact ⟨_, rfl, rfl, _, rfl, iteT k⟩
    · exact ⟨_, rfl, rfl, _, rfl, iteF ⟨_, rfl, rfl, _, rfl, iteT ⟨_, rfl, k⟩⟩⟩
    · exact ⟨_, rfl, rfl, _, rfl, iteF ⟨_, rfl, rfl, _, rfl, iteF ⟨_, rfl, rfl, _, rfl, iteT ⟨_, rfl, k⟩⟩⟩⟩
    · refine ⟨_, rfl, rfl, _, rfl, iteF ⟨_, rfl, rfl, _, rfl, iteF ⟨_, rfl, rfl, _, rfl, iteF ?_⟩⟩⟩
      refine ⟨_, rfl, y, _, 1, _, rfl, rfl, hy, atI_nat (j := 1) rfl, _, rfl, x, _, 1, _, rfl, rfl, hx, atI_nat (j := 1) rfl, _, _, rfl, rfl, _, rfl, ite2 (fun c => ?_) (fun c => ?_)⟩
      · rw [if_pos (of_decide_eq_true c)] at k
        exact ⟨_, rfl, k⟩
      · rw [if_neg (fun z => c (decide_eq_true z))] at k
        exact ⟨_, rfl, k⟩
end
/-! ### nearest, of a fraction -/
def NearQ (K : PySem.W.Frag) (Q : VK) (H : Hp) : Option Pr → Prop
  | none => Q .non H
  | some N => ∀ p, PrT K H p N → Q (.ref p) H
section
variable {P : Program} {w : World} {K : PySem.W.Frag} {mg : Str → Option Value} {base : Heap} {A : Ad}
def sp_near (A : Ad) (K : PySem.W.Frag) : Sp := fun vs H Q _ => ∃ (v : Addr) (t b size most : Int), vs = [.ref v, .int size, .int most] ∧ Tree.At K H (.leaf (.frac t b)) v ∧ tame t ∧ tame b ∧ b ≠ 0 ∧ 1 ≤ size ∧ tame size ∧ 0 ≤ most ∧
  (∀ l h, sidesL size (chain t b) (0, 1) (1, 0) most = some (l, h) → l ≠ h → 0 < l.2 ∧ 0 < h.2) ∧ ∀ H', Same H H' → NearQ K Q H' (nearF (chain t b) size most)
theorem ok_near (T : CT K mg A) (TT : TB K w mg A) (D : DT K mg A) : COk P w K mg base CX0 28 "nearest" ["tree", "size", "most"] (sp_near A K) := by
  have G_reader := ok_readerB (P := P) (w := w) (base := base) T TT D
  have G_read_sides := ok_sides (P := P) (w := w) (base := base) T D
  have G_middle_reading := ok_middle (P := P) (w := w) (base := base) T D
  have G_nearer_side := ok_nearer_side (P := P) (w := w) (base := base) T D
  have G_order_of := ok_order_of (P := P) (w := w) (base := base) T D 0
  refine COk.by D.nearest fun f fd F => ?_
  refine F.ok (k := 27) sc_nearest (fun vs H Q E h => ?_) (fun cdv Ar outer s H vs Q E hr h => ?_)
  · obtain ⟨v, t, b, size, most, rfl, _⟩ := h
    rfl
  · obtain ⟨v, t, b, size, most, rfl, ht, tt, tb, hb, hs, ts, hm, pos, k⟩ := h
    refine ⟨_, (pss_cons (ps_set (i := 3) sc_nearest.nd rfl (Or.inl rfl) (pe_c G_read_sides (hr.mono (by first | decide | omega)) (pa_cons (pe_c G_reader (hr.mono (by first | decide | omega)) (pa_cons (pv 0) pa_nil)) (pa_cons (pv 1) (pa_cons (pv 2) pa_nil)))))
    (pss_cons (ps_if (pt_cmpR op_isN (pv 3) pe_non (nomark _))
      (pss_one (ps_ret pe_non)) pss_nil)
    (pss_cons (ps_asg (pv 3) (pg_tup rfl (pgs_cons (pg_name (i := 4) sc_nearest.nd rfl (Or.inl rfl)) (pgs_cons (pg_name (i := 5) sc_nearest.nd rfl (Or.inl rfl)) pgs_nil))))
    (pss_cons (ps_if (pt_cmpR (op_eqD hr.units) (pv 4) (pv 5) (nomark _))
      (pss_one (ps_ret (pv 4))) pss_nil)
    (pss_cons (ps_set (i := 6) sc_nearest.nd rfl (Or.inl rfl) (pe_cX G_order_of (hr.mono (by first | decide | omega)) passX0 (pa_cons (pe_c G_reader (hr.mono (by first | decide | omega)) (pa_cons (pv 0) pa_nil)) (pa_cons (pe_c G_middle_reading (hr.mono (by first | decide | omega)) (pa_cons (pv 4) (pa_cons (pv 5) pa_nil))) (pa_cons (pv 2) pa_nil)))))
    (pss_one (ps_ret (pe_c G_nearer_side (hr.mono (by first | decide | omega)) (pa_cons (pv 6) (pa_cons (pv 4) (pa_cons (pv 5) pa_nil))))))))))), ?_⟩
    have hg : Tree.Good (.leaf (.frac t b)) := ⟨tt, tb, hb⟩
    have h0 : Tree.ht (.leaf (.frac t b)) ≤ 4 := by show 0 ≤ 4; decide
    refine ⟨_, rfl, v, .leaf (.frac t b), rfl, ht, hg, h0, fun r a m fp B H1 R st s1 nr nm nf => ?_⟩
    obtain ⟨ch, rfl, rfl⟩ := st
    refine ⟨_, rfl, _, rfl, r, a, m, fp, t, b, size, most, rfl, R, tt, tb, hs, ts, fun H3 fr => ?_⟩
    have s3 : Same H H3 := fun c z e => fr c z (s1 _ _ e) (fun q => by rw [nf c q] at e; cases e) (fun q => by rw [q, nm] at e; cases e)
    unfold nearF at k
    revert k pos
    generalize sidesL size (chain t b) (0, 1) (1, 0) most = rr
    intro pos k
    cases rr with
    | none =>
      exact ⟨_, rfl, rfl, _, rfl, iteT (k H3 s3)⟩
    | some lh =>
      obtain ⟨l, h⟩ := lh
      have k : ∀ H', Same H H' → NearQ K Q H' (if l = h then some l else if most < (wl (chain t b) (midL l h) : Int) then none else some (pick (sgnL (chain t b) (midL l h)) l h)) := k
      intro p pl ph H4 s4 hp hl hh bl bh
      have hl : PrT K H4 pl l := hl
      have hh : PrT K H4 ph h := hh
      have bl : bP 3400 l := bl
      have bh : bP 3400 h := bh
      have sH4 := s3.trans s4
      refine ⟨_, rfl, rfl, _, rfl, iteF ?_⟩
      refine ⟨_, rfl, p, _, rfl, hp, rfl, _, _, rfl, _, _, rfl, rfl, ?_⟩
      refine ⟨_, rfl, _, rfl, _, _, hl.dp, hh.dp, rfl, rfl, _, rfl, ?_⟩
      rw [eqv_pr]
      by_cases e : l = h
      · rw [decide_eq_true e]
        have kq := k H4 sH4
        rw [if_pos e] at kq
        exact iteT ⟨_, rfl, kq pl hl⟩
      · rw [decide_eq_false e]
        obtain ⟨l2, h2⟩ := pos l h rfl e
        refine iteF ⟨_, rfl, v, .leaf (.frac t b), rfl, ht.same sH4, hg, h0, fun r1 a1 m1 fp1 B1 H5 R1 st1 s5 nr1 nm1 nf1 => ?_⟩
        obtain ⟨ch1, rfl, rfl⟩ := st1
        refine ⟨_, rfl, _, rfl, pl, ph, l, h, rfl, sqT_same hl s5, sqT_same hh s5, bl, bh, fun r2 a2 m2 fp2 H6 R2 s6 nr2 nm2 nf2 => ?_⟩
        obtain ⟨rx1, er1⟩ := R1.rd
        obtain ⟨dm1, em1⟩ := R1.mt
        have some1 : ∀ c ∈ fp1, ∃ o, H5 c = some o := fun c hc => by
          rcases R1.bx.soft c hc with ⟨_, _, _, q⟩ | ⟨_, q⟩
          · exact ⟨_, q⟩
          · exact ⟨_, q⟩
        have T2 : Two A K H6 r1 a1 m1 fp1 (.leaf (.frac t b)) 0 0 r2 a2 m2 fp2 (.fb (l.1 * h.2 + h.1 * l.2) (2 * l.2 * h.2) false) 0 0 := by
          refine ⟨R1.same s6, R2, fun c hc z => ?_, fun z => ?_, fun z => ?_, fun z => ?_, fun z => ?_, fun z => ?_, fun z => ?_, fun z => ?_⟩
          · obtain ⟨o, e⟩ := some1 c hc; rw [nf2 c z] at e; cases e
          · rw [nf2 m1 z] at em1; cases em1
          · obtain ⟨o, e⟩ := some1 m2 z; rw [nm2] at e; cases e
          · rw [z, nm2] at em1; cases em1
          · rw [nf2 r1 z] at er1; cases er1
          · obtain ⟨o, e⟩ := some1 r2 z; rw [nr2] at e; cases e
          · rw [z, nm2] at er1; cases er1
          · rw [← z, nr2] at em1; cases em1
        have two : bE 2 (2 : Int) := by show (2 : Nat) < _; decide
        have f1 : fits (l.1 * h.2 + h.1 * l.2) := ((bl.1.mul bh.2).add (bh.1.mul bl.2)).fits (by decide)
        have f2 : fits (2 * l.2 * h.2) := ((two.mul bl.2).mul bh.2).fits (by decide)
        have nz : 2 * l.2 * h.2 ≠ 0 := by
          have := Int.mul_pos (Int.mul_pos (show (0 : Int) < 2 by decide) l2) h2
          omega
        obtain ⟨n, od⟩ := ord_fb _ t b (l.1 * h.2 + h.1 * l.2) (2 * l.2 * h.2) false 0 most (Nat.le_refl _) f1 f2 (.inl nz)
        refine ⟨_, rfl, r1, a1, m1, r2, a2, m2, fp1, fp2, _, _, 0, 0, 0, 0, most, n, _, rfl, T2, Nat.le_refl _, Nat.le_refl _, by rw [Int.sub_zero, Int.sub_zero]; exact od, fun H7 fr7 => ?_⟩
        have s7 : Same H4 H7 := fun c z e => fr7 c z (s6 _ _ (s5 _ _ e)) (fun q => by rw [nf1 c q] at e; cases e) (fun q => by have := s5 _ _ e; rw [nf2 c q] at this; cases this) (fun q => by rw [q, nm1] at e; cases e) (fun q => by have := s5 _ _ e; rw [q, nm2] at this; cases this)
        have hl7 : PrT K H7 pl l := sqT_same hl s7
        have hh7 : PrT K H7 ph h := sqT_same hh s7
        have kq := k H7 (sH4.trans s7)
        rw [if_neg e] at kq
        have em : cmpF (chain t b) (chain (l.1 * h.2 + h.1 * l.2) (2 * l.2 * h.2)) 0 most = _ := cmpF_is (chain t b) (midL l h) 0 most hm
        show OrdQ A _ _ H7 (some (cmpF (chain t b) (chain (l.1 * h.2 + h.1 * l.2) (2 * l.2 * h.2)) 0 most))
        rw [em]
        generalize midL l h = ds at *
        refine ⟨_, rfl, _, rfl, _, rfl, pl, ph, l, h, _, rfl, hl7, hh7, ?_⟩
        by_cases hw : most < (wl (chain t b) ds : Int)
        · rw [if_pos hw] at kq
          exact .inl ⟨if_pos hw, kq⟩
        · rw [if_neg hw] at kq
          rw [if_neg hw]
          have ep : par 0 (sgnL (chain t b) ds) = sgnL (chain t b) ds := if_neg (by decide)
          rw [ep]
          generalize sgnL (chain t b) ds = S at *
          unfold pick at kq
          unfold wordOf
          by_cases c1 : S < 0
          · rw [if_pos c1] at kq ⊢
            exact .inr (.inl ⟨rfl, kq pl hl7⟩)
          · rw [if_neg c1] at kq ⊢
            by_cases c2 : 0 < S
            · rw [if_pos c2] at kq ⊢
              exact .inr (.inr (.inl ⟨rfl, kq ph hh7⟩))
            · rw [if_neg c2] at kq ⊢
              refine .inr (.inr (.inr ⟨rfl, ?_⟩))
              by_cases c3 : h.2 < l.2
              · rw [if_pos c3] at kq ⊢
                exact kq ph hh7
              · rw [if_neg c3] at kq ⊢
                exact kq pl hl7
end
/-! ### the law's own: a pair, the nearer one, the nearest of all -/
theorem tame_cmul {x y : Int} (hx : tame x) (hy : tame y) : CMulW x y := small_mul (small_tame hx) (small_tame hy)
theorem small_of {z : Int} (h : z.natAbs ≤ 1000000000000000000000000000000000000000000000000) : small z := Nat.lt_of_le_of_lt h (by decide +kernel)
theorem mul_abs {x y : Int} (hx : tame x) (hy : tame y) : (x * y).natAbs ≤ 1000000000000000000000000 := by
  rw [Int.natAbs_mul]
  exact Nat.mul_le_mul (show x.natAbs ≤ 1000000000000 by unfold tame at hx; omega) (show y.natAbs ≤ 1000000000000 by unfold tame at hy; omega)
def BestAt (K : PySem.W.Frag) (H : Hp) (size : Int) (N : Pr) (v : V) (no seen : Prop) : Prop := (v = .non ∧ no) ∨ ∃ p x, v = .ref p ∧ PrT K H p x ∧ Cand size x ∧ tame x.1 ∧ (seen → x = N)
section
variable {P : Program} {w : World} {K : PySem.W.Frag} {mg : Str → Option Value} {base : Heap} {A : Ad}
theorem ok_law_pair (T : CT K mg A) (D : DT K mg A) (G_law_whole : COk P w K mg base CX0 1 "_law_whole" ["_law_found"] sp_law_whole) : COk P w K mg base CX0 2 "_law_pair" ["_law_found", "_law_due_here"] (fun vs H Q _ => ∃ (p q : Addr) (x : Pr), vs = [.ref p, .ref q] ∧ PrT K H p x ∧ PrT K H q x ∧ Q (.bl true) H) := by
  refine COk.by D.law_pair fun f fd F => ?_
  refine F.ok sc_law_pair (fun vs H Q E h => ?_) (fun cdv Ar outer s H vs Q E hr h => ?_)
  · obtain ⟨p, q, x, rfl, _⟩ := h
    rfl
  · obtain ⟨p, q, x, rfl, hp, hq, k⟩ := h
    refine ⟨_, (pss_cons (ps_if (PW.pt (pw_or (pt_not (pt_val (pe_callB call_isi (by rfl) T.b_isinstance (by decide +kernel) (pa_cons (pv 0) (pa_cons (pe_bltn (v := .ty "tuple") (by rfl) T.b_tuple (by decide +kernel) rfl) pa_nil))))) (pw_or (pt_cmpR op_ne (pe_callB call_len_seq (by rfl) T.b_len (by decide +kernel) (pa_cons (pv 0) pa_nil)) pe_int (nomark _)) (pw_or (pt_not (pt_val (pe_c G_law_whole (hr.mono (by first | decide | omega)) (pa_cons (pe_ix ix_tup (pv 0) pe_int (fun _ _ => rfl)) pa_nil)))) (pw_or1 (pt_not (pt_val (pe_c G_law_whole (hr.mono (by first | decide | omega)) (pa_cons (pe_ix ix_tup (pv 0) pe_int (fun _ _ => rfl)) pa_nil)))))))))
      (pss_one (ps_ret pe_bl)) pss_nil)
    (pss_one (ps_ret (pe_cmpR (op_eqD hr.units) (pv 0) (pv 1) (nomark _))))), ?_⟩
    refine ⟨_, rfl, _, _, _, _, true, rfl, .ty "tuple", tyT hp, kit_ty (by decide +kernel), _, rfl, iteF ?_⟩
    refine ⟨_, rfl, p, _, rfl, .inr hp, rfl, _, rfl, iteF ?_⟩
    refine ⟨_, rfl, p, _, 0, .int x.1, rfl, rfl, hp, atI_nat (j := 0) rfl, x.1, rfl, _, rfl, iteF ?_⟩
    refine ⟨_, rfl, p, _, 1, .int x.2, rfl, rfl, hp, atI_nat (j := 1) rfl, x.2, rfl, _, rfl, iteF ?_⟩
    refine ⟨_, rfl, _, rfl, _, _, hp.dp, hq.dp, rfl, rfl, ?_⟩
    rw [eqv_pr, decide_eq_true rfl]
    exact k
def sp_law_nearer (K : PySem.W.Frag) : Sp := fun vs H Q _ => ∃ (a c : Addr) (x y : Pr) (t b : Int), vs = [.ref a, .ref c, .int t, .int b] ∧ PrT K H a x ∧ PrT K H c y ∧ tame x.1 ∧ tame x.2 ∧ tame y.1 ∧ tame y.2 ∧ tame t ∧ tame b ∧ ∀ H', Same H H' → Q (.bl (nearB t b x y)) H'
theorem ok_law_nearer (T : CT K mg A) (D : DT K mg A) : COk P w K mg base CX0 1 "_law_nearer" ["_law_one", "_law_other", "_law_top", "_law_below"] (sp_law_nearer K) := by
  refine COk.by D.law_nearer fun f fd F => ?_
  refine F.ok sc_law_nearer (fun vs H Q E h => ?_) (fun cdv Ar outer s H vs Q E hr h => ?_)
  · obtain ⟨a, c, x, y, t, b, rfl, _⟩ := h
    rfl
  · obtain ⟨a, c, x, y, t, b, rfl, ha, hc, x1, x2, y1, y2, tt, tb, k⟩ := h
    refine ⟨_, (pss_cons (ps_set (i := 4) sc_law_nearer.nd rfl (Or.inl rfl) (pe_op op_mulW (pe_callB call_abs (by rfl) T.b_abs (by decide +kernel) (pa_cons (pe_op op_sub (pe_op op_mulW (pe_ix ix_tup (pv 0) pe_int (fun _ _ => rfl)) (pv 3)) (pe_op op_mulW (pv 2) (pe_ix ix_tup (pv 0) pe_int (fun _ _ => rfl)))) pa_nil)) (pe_ix ix_tup (pv 1) pe_int (fun _ _ => rfl))))
    (pss_cons (ps_set (i := 5) sc_law_nearer.nd rfl (Or.inl rfl) (pe_op op_mulW (pe_callB call_abs (by rfl) T.b_abs (by decide +kernel) (pa_cons (pe_op op_sub (pe_op op_mulW (pe_ix ix_tup (pv 1) pe_int (fun _ _ => rfl)) (pv 3)) (pe_op op_mulW (pv 2) (pe_ix ix_tup (pv 1) pe_int (fun _ _ => rfl)))) pa_nil)) (pe_ix ix_tup (pv 0) pe_int (fun _ _ => rfl))))
    (pss_cons (ps_if (pt_cmpR op_ne (pv 4) (pv 5) (nomark _))
      (pss_one (ps_ret (pe_cmpR op_lt (pv 4) (pv 5) (nomark _)))) pss_nil)
    (pss_one (ps_ret (pe_cmpR (op_ltT (Nat.lt_of_le_of_lt (Nat.le_add_right _ 64) hr.units)) (pe_tup (pa_cons (pe_ix ix_tup (pv 0) pe_int (fun _ _ => rfl)) (pa_cons (pe_ix ix_tup (pv 0) pe_int (fun _ _ => rfl)) pa_nil))) (pe_tup (pa_cons (pe_ix ix_tup (pv 1) pe_int (fun _ _ => rfl)) (pa_cons (pe_ix ix_tup (pv 1) pe_int (fun _ _ => rfl)) pa_nil))) (nomark _))))))), ?_⟩
    have sm : ∀ {z : Pr}, tame z.1 → tame z.2 → small (dst t b z) := fun {z} z1 z2 => by
      have m1 := mul_abs z1 tb
      have m2 := mul_abs tt z2
      refine small_of ?_
      unfold dst
      split <;> omega
    refine ⟨_, rfl, a, _, 0, _, rfl, rfl, ha, atI_nat (j := 0) rfl, _, rfl, _, _, rfl, rfl, tame_cmul x1 tb, _, rfl, _, rfl, a, _, 1, _, rfl, rfl, ha, atI_nat (j := 1) rfl, _, _, rfl, rfl, tame_cmul tt x2, _, _, rfl, rfl, _, rfl, _, rfl, c, _, 1, _, rfl, rfl, hc, atI_nat (j := 1) rfl, _, _, rfl, rfl, small_mul (sm x1 x2) (small_tame y2), ?_⟩
    refine ⟨_, rfl, c, _, 0, _, rfl, rfl, hc, atI_nat (j := 0) rfl, _, rfl, _, _, rfl, rfl, tame_cmul y1 tb, _, rfl, _, rfl, c, _, 1, _, rfl, rfl, hc, atI_nat (j := 1) rfl, _, _, rfl, rfl, tame_cmul tt y2, _, _, rfl, rfl, _, rfl, _, rfl, a, _, 1, _, rfl, rfl, ha, atI_nat (j := 1) rfl, _, _, rfl, rfl, small_mul (sm y1 y2) (small_tame x2), ?_⟩
    refine ⟨_, rfl, _, rfl, rfl, _, rfl, ite2 (fun h => ?_) (fun h => ?_)⟩
    · have h : dst t b x * y.2 ≠ dst t b y * x.2 := ne_of_nd h
      have kq := k H (Same.refl _)
      unfold nearB at kq
      rw [if_neg h] at kq
      exact ⟨_, rfl, _, rfl, _, _, rfl, rfl, kq⟩
    · have h : dst t b x * y.2 = dst t b y * x.2 := eq_of_nd h
      refine ⟨_, rfl, a, _, 1, _, rfl, rfl, ha, atI_nat (j := 1) rfl, _, rfl, a, _, 0, _, rfl, rfl, ha, atI_nat (j := 0) rfl, (by show 2 ≤ sizeLine; decide), fun o1 n1 => ?_⟩
      have s1 := same_upd (o := .tup [V.int x.2, .int x.1]) n1
      have hc1 := sqT_same hc s1
      refine ⟨_, rfl, c, _, 1, _, rfl, rfl, hc1, atI_nat (j := 1) rfl, _, rfl, c, _, 0, _, rfl, rfl, hc1, atI_nat (j := 0) rfl, (by show 2 ≤ sizeLine; decide), fun o2 n2 => ?_⟩
      have s2 := same_upd (o := .tup [V.int y.2, .int y.1]) n2
      refine ⟨o1, o2, [x.2, x.1], [y.2, y.1], rfl, rfl, sqT_same (SqT.of (upd_at s1)) s2, SqT.of upd_same, ?_⟩
      have kq := k _ (s1.trans s2)
      unfold nearB at kq
      rw [if_pos h, ← lex_two] at kq
      exact kq
def sp_law_due (K : PySem.W.Frag) : Sp := fun vs H Q _ => ∃ (t b size : Int) (N : Pr), vs = [.int t, .int b, .int size] ∧ -10000000000 ≤ t ∧ t ≤ 10000000000 ∧ 0 < b ∧ b ≤ 10000000000 ∧ 1 ≤ size ∧ size ≤ 40 ∧ Due t b size N ∧ ∀ p H', Same H H' → PrT K H' p N → Q (.ref p) H'
theorem ok_law_due (T : CT K mg A) (D : DT K mg A) (G_law_lowest : COk P w K mg base CX0 2 "_law_lowest" ["_law_top", "_law_below"] sp_law_lowest) : COk P w K mg base CX0 3 "_law_due" ["_law_top", "_law_below", "_law_size"] (sp_law_due K) := by
  have G_law_nearer := ok_law_nearer (P := P) (w := w) (base := base) T D
  refine COk.by D.law_due fun f fd F => ?_
  refine F.ok sc_law_due (fun vs H Q E h => ?_) (fun cdv Ar outer s H vs Q E hr h => ?_)
  · obtain ⟨t, b, size, N, rfl, _⟩ := h
    rfl
  · obtain ⟨t, b, size, N, rfl, t1, t2, b1, b2, z1, z2, du, k⟩ := h
    refine ⟨_, (pss_cons (ps_set (i := 3) sc_law_due.nd rfl (Or.inl rfl) pe_non)
    (pss_cons (ps_for PassesOwn.never rfl (pi_range2 rfl T.b_range (pa_cons pe_int (pa_cons (pe_op op_add (pv 2) pe_int) pa_nil))) (pg_name (i := 4) sc_law_due.nd rfl (Or.inl rfl))
      (pss_one (ps_for PassesOwn.never rfl (pi_range1 rfl T.b_range (pa_cons pe_int pa_nil)) (pg_name (i := 5) sc_law_due.nd rfl (Or.inl rfl))
      (pss_cons (ps_set (i := 6) sc_law_due.nd rfl (Or.inl rfl) (pe_c G_law_lowest (hr.mono (by first | decide | omega)) (pa_cons (pe_op op_add (pe_op op_fdivS (pe_op op_mulW (pv 0) (pv 4)) (pv 1)) (pv 5)) (pa_cons (pv 4) pa_nil))))
    (pss_one (ps_if (PW.pt (pw_or (pt_cmpR op_isN (pv 3) pe_non (nomark _)) (pw_or1 (pt_val (pe_c G_law_nearer (hr.mono (by first | decide | omega)) (pa_cons (pv 6) (pa_cons (pv 3) (pa_cons (pv 0) (pa_cons (pv 1) pa_nil)))))))))
      (pss_one (ps_set (i := 3) sc_law_due.nd rfl (Or.inl rfl) (pv 6))) pss_nil))))))
    (pss_one (ps_ret (pv 3))))), ?_⟩
    obtain ⟨mN, hm, eN⟩ := du.at_
    have tt : tame t := ⟨by omega, by omega⟩
    have tb : tame b := ⟨by omega, by omega⟩
    refine ⟨_, rfl, _, _, rfl, rfl, 1, size + 1, rfl, ⟨by decide, by decide, by omega, by omega⟩, ?_⟩
    refine for_range (lo := 1) (n := (size + 1 - 1).toNat) (fun i σ H' => ∃ (best : V) (v4 v5 v6 : Option V), σ = [some (.int t), some (.int b), some (.int size), some best, v4, v5, v6] ∧ Same H H' ∧ BestAt K H' size N best (i = 0) (N.2 ≤ i)) ⟨.non, none, none, none, rfl, Same.refl _, .inl ⟨rfl, rfl⟩⟩ ?_ ?_
    · rintro i σ H1 hi ⟨best, v4, v5, v6, rfl, s1, hb⟩
      refine ⟨2, rfl, by decide, by decide, ?_⟩
      refine for_range (lo := 0) (n := (2 : Int).toNat) (fun j σ H' => ∃ (best : V) (v5 v6 : Option V), σ = [some (.int t), some (.int b), some (.int size), some best, some (.int (1 + i)), v5, v6] ∧ Same H H' ∧ BestAt K H' size N best (i = 0 ∧ j = 0) (N.2 ≤ i ∨ (N.2 = i + 1 ∧ mN < j))) ⟨best, v5, v6, rfl, s1, ?_⟩ ?_ ?_
      · rcases hb with ⟨e, e0⟩ | ⟨p, x, e, hp, hc, tx, hs⟩
        · exact .inl ⟨e, e0, rfl⟩
        · exact .inr ⟨p, x, e, hp, hc, tx, fun z => hs (by rcases z with z | z; exact z; omega)⟩
      · rintro j σ H2 hj ⟨best, v5, v6, rfl, s2, hb⟩
        have hj : j < 2 := hj
        obtain ⟨v, hv⟩ : ∃ v : Int, v = 1 + (i : Int) := ⟨_, rfl⟩
        rw [← hv]
        have tv : tame v := ⟨by omega, by omega⟩
        have ab : (t * v).natAbs ≤ 10000000000 * 40 := by
          rw [Int.natAbs_mul]
          exact Nat.mul_le_mul (by omega) (by omega)
        have aq := fdiv_abs (a := t * v) (b := b) (by omega)
        refine ⟨_, rfl, _, rfl, _, _, rfl, rfl, tame_cmul tt tv, _, rfl, _, _, rfl, rfl, small_fdiv (small_tame tb) (by omega) _, _, rfl, _, _, rfl, rfl, _, rfl, (t * v).fdiv b + (0 + (j : Int)), v, rfl, by omega, small_tame ⟨by omega, by omega⟩, small_tame tv, fun o no => ?_⟩
        have cd := low_cand (t := (t * v).fdiv b + (0 + (j : Int))) (b := v) (size := size) (by omega) (by omega)
        have tc : tame (fold (chain ((t * v).fdiv b + (0 + (j : Int))) v)).1 := by
          obtain ⟨g, g0, e1, e2, _, _⟩ := low_pos (t := (t * v).fdiv b + (0 + (j : Int))) (b := v) (by omega)
          generalize fold (chain ((t * v).fdiv b + (0 + (j : Int))) v) = x at *
          have e3 := congrArg Int.natAbs e1
          rw [Int.natAbs_mul] at e3
          have : 1 * x.1.natAbs ≤ g.natAbs * x.1.natAbs := Nat.mul_le_mul_right _ (by omega)
          exact ⟨by omega, by omega⟩
        have isN : N.2 = v → mN = j → fold (chain ((t * v).fdiv b + (0 + (j : Int))) v) = N := fun e1 e2 => by
          have : (t * v).fdiv b + (0 + (j : Int)) = N.1 := by rw [← eN, e1, e2]; omega
          rw [this, ← e1]
          exact du.low
        generalize fold (chain ((t * v).fdiv b + (0 + (j : Int))) v) = c at *
        have s3 := same_upd (o := .tup [V.int c.1, .int c.2]) no
        have ho : PrT K _ o c := SqT.of (upd_at s3)
        have keep : ∀ {p : Addr} {x : Pr}, PrT K H2 p x → PrT K (upd H2 o (.tup [V.int c.1, .int c.2])) p x := fun h => sqT_same h s3
        have s4 := s2.trans s3
        generalize upd H2 o _ = H3 at *
        have seen' : (N.2 ≤ i ∨ (N.2 = i + 1 ∧ mN < ((j + 1 : Nat) : Int))) → (N.2 ≤ i ∨ (N.2 = i + 1 ∧ mN < (j : Int))) ∨ c = N := fun z => by
          rcases z with z | ⟨z, z'⟩
          · exact .inl (.inl z)
          · by_cases e : mN = j
            · exact .inr (isN (by omega) e)
            · exact .inl (.inr ⟨z, by omega⟩)
        rcases hb with ⟨rfl, e0, ej⟩ | ⟨p, x, rfl, hp, hc, tx, hs⟩
        · refine ⟨_, rfl, rfl, _, rfl, iteT (iteT ⟨_, rfl, .ref o, _, _, rfl, s4, .inr ⟨o, c, rfl, ho, cd, tc, fun z => ?_⟩⟩)⟩
          rcases seen' z with (z | ⟨_, z⟩) | z
          · have := du.v1; omega
          · omega
          · exact z
        · have ty : tame x.2 := ⟨by have := hc.1; omega, by have := hc.2.1; omega⟩
          have ty2 : tame c.2 := ⟨by have := cd.1; omega, by have := cd.2.1; omega⟩
          refine ⟨_, rfl, rfl, _, rfl, iteF ⟨_, rfl, _, rfl, _, rfl, _, rfl, o, p, c, x, t, b, rfl, ho, keep hp, tc, ty2, tx, ty, tt, tb, fun H4 s5 => ⟨_, rfl, ite2 (fun h => ?_) (fun h => ?_)⟩⟩⟩
          · refine ⟨_, rfl, .ref o, _, _, rfl, s4.trans s5, .inr ⟨o, c, rfl, sqT_same ho s5, cd, tc, fun z => ?_⟩⟩
            rcases seen' z with z | z
            · have xN := hs z
              rcases du.best c cd with y | y
              · exact y
              · rw [← xN] at y
                rw [near_asymm y] at h
                cases h
            · exact z
          · refine ⟨.ref p, _, _, rfl, s4.trans s5, .inr ⟨p, x, rfl, sqT_same (keep hp) s5, hc, tx, fun z => ?_⟩⟩
            rcases seen' z with z | z
            · exact hs z
            · rcases du.best x hc with y | y
              · exact y
              · rw [z] at h
                exact absurd y h
      · rintro σ H2 ⟨best, v5, v6, rfl, s2, hb⟩
        refine ⟨best, _, v5, v6, rfl, s2, ?_⟩
        rcases hb with ⟨e, e0, ej⟩ | ⟨p, x, e, hp, hc, tx, hs⟩
        · cases ej
        · refine .inr ⟨p, x, e, hp, hc, tx, fun z => hs ?_⟩
          by_cases y : N.2 ≤ i
          · exact .inl y
          · exact .inr ⟨by omega, by show mN < ((2 : Nat) : Int); omega⟩
    · rintro σ H2 ⟨best, v4, v5, v6, rfl, s2, hb⟩
      rcases hb with ⟨e, e0⟩ | ⟨p, x, rfl, hp, hc, tx, hs⟩
      · omega
      · have := hs (by have := du.v2; omega)
        subst this
        exact ⟨_, rfl, k p H2 s2 hp⟩
end
/-! ### the law's own: how many parts are wanted -/
theorem chain_parts : ∀ (n : Nat) (x y : Int), y.natAbs ≤ n → SgS x y → tame x → tame y → ∀ p ∈ chain x y, 0 ≤ p ∧ tame p
  | n, x, y, hn, sg, tx, ty, p, hp => by
    by_cases hy : y = 0
    · subst hy
      rw [chain_zero] at hp
      cases hp
    · rw [chain_cons hy] at hp
      rcases List.mem_cons.mp hp with z | z
      · rw [z]
        exact ⟨sg.quot hy, fdiv_tame tx hy⟩
      · have := fmod_abs (a := x) hy
        match n, hn with
        | 0, hn => omega
        | n + 1, hn => exact chain_parts n y (x.fmod y) (by omega) (sgs_next hy) ty (fmod_tame ty hy) p z
theorem cut_one (xs : List V) (i : Nat) : cutV xs (some (i : Int)) (some ((i : Int) + 1)) = (xs.drop i).take 1 := by
  unfold cutV
  rw [show (i : Int) + 1 = ((i + 1 : Nat) : Int) by omega, HT.sIx_nat, HT.sIx_nat]
  rcases Nat.lt_or_ge i xs.length with h | h
  · rw [Nat.min_eq_left (by omega), Nat.min_eq_left (by omega)]
    congr 1
    omega
  · rw [Nat.min_eq_right (by omega), Nat.min_eq_right (by omega), List.drop_of_length_le (Nat.le_refl _), List.drop_of_length_le h, List.take_nil, List.take_nil]
theorem eqv_pp (p q : Int) : PyData.eqv (.list [.int p]) (.list [.int q]) = decide (p = q) := by
  by_cases e : p = q
  · subst e
    rw [decide_eq_true rfl]
    exact SeqAt.eqv_refl _ (SeqAt.canLay_of_shaped (shaped_ints [p]))
  · rw [decide_eq_false e]
    cases z : PyData.eqv (.list [.int p]) (.list [.int q]) with
    | false => rfl
    | true =>
      exfalso
      simp [PyData.eqv, PyData.eqvAll, e] at z
theorem fw_cons (size a : Int) (as : List Int) (x y : Int) : fw size (a :: as) x y = if size < x + a * y then (1, false) else ((fw size as y (x + a * y)).1 + 1, (fw size as y (x + a * y)).2) := rfl
section
variable {P : Program} {w : World} {K : PySem.W.Frag} {mg : Str → Option Value} {base : Heap} {A : Ad}
def sp_law_fw (K : PySem.W.Frag) : Sp := fun vs H Q _ => ∃ (c : Addr) (cs : List Int) (size : Int), vs = [.ref c, .int size] ∧ H c = some (.lst (cs.map V.int)) ∧ cs ≠ [] ∧ cs.length ≤ 80 ∧ (∀ p ∈ cs.tail, 0 ≤ p ∧ tame p) ∧ 1 ≤ size ∧ size ≤ 40 ∧
  ∀ p, H p = none → Q (.ref p) (upd H p (.tup [.int ((1 + (fw size cs.tail 0 1).1 : Nat) : Int), .bl (fw size cs.tail 0 1).2]))
theorem ok_law_fw (T : CT K mg A) (D : DT K mg A) : COk P w K mg base CX0 1 "_law_first_wants" ["_law_chain_here", "_law_size"] (sp_law_fw K) := by
  refine COk.by D.law_first_wants fun f fd F => ?_
  refine F.ok sc_law_first_wants (fun vs H Q E h => ?_) (fun cdv Ar outer s H vs Q E hr h => ?_)
  · obtain ⟨c, cs, size, rfl, _⟩ := h
    rfl
  · obtain ⟨c, cs, size, rfl, hc, hne, hlen, hp, z1, z2, k⟩ := h
    refine ⟨_, (pss_cons (ps_set (i := 2) sc_law_first_wants.nd rfl (Or.inl rfl) pe_int)
    (pss_cons (ps_set (i := 3) sc_law_first_wants.nd rfl (Or.inl rfl) pe_int)
    (pss_cons (ps_for PassesOwn.never rfl (pi_range2 rfl T.b_range (pa_cons pe_int (pa_cons (pe_callB call_len_seq (by rfl) T.b_len (by decide +kernel) (pa_cons (pv 0) pa_nil)) pa_nil))) (pg_name (i := 4) sc_law_first_wants.nd rfl (Or.inl rfl))
      (pss_cons (ps_par (i := 2) (j := 3) (by rfl) sc_law_first_wants.nd rfl rfl (by decide) rfl rfl (pa_cons (pv 3) (pa_cons (pe_op op_add (pv 2) (pe_op op_mulW (pe_ix ix_list (pv 0) (pv 4) (fun _ _ => rfl)) (pv 3))) pa_nil)) (by rfl))
    (pss_one (ps_if (pt_cmpR op_gt (pv 3) (pv 1) (nomark _))
      (pss_one (ps_ret (pe_tup (pa_cons (pe_op op_add (pv 4) pe_int) (pa_cons pe_bl pa_nil))))) pss_nil))))
    (pss_one (ps_ret (pe_tup (pa_cons (pe_callB call_len_seq (by rfl) T.b_len (by decide +kernel) (pa_cons (pv 0) pa_nil)) (pa_cons pe_bl pa_nil)))))))), ?_⟩
    obtain ⟨a0, as, rfl⟩ : ∃ a0 as, cs = a0 :: as := by
      cases cs with
      | nil => exact absurd rfl hne
      | cons a as => exact ⟨a, as, rfl⟩
    have hp : ∀ p ∈ as, 0 ≤ p ∧ tame p := hp
    have k : ∀ p, H p = none → Q (.ref p) (upd H p (.tup [.int ((1 + (fw size as 0 1).1 : Nat) : Int), .bl (fw size as 0 1).2])) := k
    have ll : ((a0 :: as).map V.int).length = as.length + 1 := by rw [List.length_map, List.length_cons]
    rw [List.length_cons] at hlen
    refine ⟨_, rfl, c, _, rfl, .inl (SqL.of hc), 1, _, rfl, ⟨by decide, by decide, by omega, by omega⟩, ?_⟩
    refine for_range (lo := 1) (n := ((((((a0 :: as).map V.int).length : Nat) : Int)) - 1).toNat) (fun i σ H' => ∃ (x y : Int) (v4 : Option V), σ = [some (.ref c), some (.int size), some (.int x), some (.int y), v4] ∧ H' = H ∧ fw size as 0 1 = (i + (fw size (as.drop i) x y).1, (fw size (as.drop i) x y).2) ∧ 0 ≤ x ∧ x ≤ size ∧ 0 ≤ y ∧ y ≤ size) ⟨0, 1, none, rfl, rfl, by rw [List.drop_zero, Nat.zero_add], by decide, by omega, by decide, by omega⟩ ?_ ?_
    · rintro i σ H' hi ⟨x, y, v4, rfl, rfl, ef, x0, x1, y0, y1⟩
      rw [ll] at hi
      have hi : i < as.length := by omega
      have ed : as.drop i = as[i] :: as.drop (i + 1) := List.drop_eq_getElem_cons hi
      have hat : ((a0 :: as).map V.int)[i + 1]? = some (.int as[i]) := by
        rw [List.getElem?_map, List.getElem?_cons_succ, List.getElem?_eq_getElem hi]
        rfl
      obtain ⟨p0, p1⟩ := hp _ (List.getElem_mem hi)
      generalize as[i] = ai at *
      rw [ed, fw_cons] at ef
      refine ⟨_, rfl, _, rfl, _, rfl, _, rfl, c, _, 1 + (i : Int), _, rfl, rfl, SqL.of hc, by rw [show (1 : Int) + (i : Int) = ((i + 1 : Nat) : Int) by omega]; exact atI_nat hat, _, rfl, _, _, rfl, rfl, tame_cmul p1 ⟨by omega, by omega⟩, _, _, rfl, rfl, _, _, rfl, ?_⟩
      refine ⟨_, rfl, _, rfl, _, _, rfl, rfl, _, rfl, ite2 (fun h => ?_) (fun h => ?_)⟩
      · have h : size < x + ai * y := of_decide_eq_true h
        rw [if_pos h] at ef
        refine ⟨_, rfl, _, _, rfl, rfl, (by show 2 ≤ sizeLine; decide), fun p np => ?_⟩
        have kq := k p np
        rw [ef] at kq
        show Q (.ref p) (upd H' p (.tup [.int (1 + (i : Int) + 1), .bl false]))
        rw [show (1 : Int) + (i : Int) + 1 = ((1 + (i + 1) : Nat) : Int) by omega]
        exact kq
      · have h : ¬ size < x + ai * y := fun z => h (decide_eq_true z)
        rw [if_neg h] at ef
        have := Int.mul_nonneg p0 y0
        refine ⟨y, x + ai * y, _, rfl, rfl, ?_, y0, y1, by omega, by omega⟩
        rw [ef]
        show (i + ((fw size (as.drop (i + 1)) y (x + ai * y)).1 + 1), _) = (i + 1 + (fw size (as.drop (i + 1)) y (x + ai * y)).1, _)
        rw [show i + ((fw size (as.drop (i + 1)) y (x + ai * y)).1 + 1) = i + 1 + (fw size (as.drop (i + 1)) y (x + ai * y)).1 by omega]
    · rintro σ H' ⟨x, y, v4, rfl, rfl, ef, _⟩
      have en : ((((((a0 :: as).map V.int).length : Nat) : Int)) - 1).toNat = as.length := by rw [ll]; omega
      rw [en, List.drop_of_length_le (Nat.le_refl _)] at ef
      have ef : fw size as 0 1 = (as.length + 0, true) := ef
      rw [ef] at k
      refine ⟨_, rfl, c, _, rfl, .inl (SqL.of hc), (by show 2 ≤ sizeLine; decide), fun p np => ?_⟩
      have kq := k p np
      show Q (.ref p) (upd H' p (.tup [.int ((((a0 :: as).map V.int).length : Nat) : Int), .bl true]))
      rw [ll, show ((as.length + 1 : Nat) : Int) = ((1 + (as.length + 0) : Nat) : Int) by omega]
      exact kq
def sp_law_middle (K : PySem.W.Frag) : Sp := fun vs H Q _ => ∃ (t b size : Int) (l h : Pr), vs = [.int t, .int b, .int size] ∧ -10000000000 ≤ t ∧ t ≤ 10000000000 ∧ 0 < b ∧ b ≤ 10000000000 ∧ 1 ≤ size ∧ size ≤ 40 ∧ SidesOk t b size false l h ∧
  ∀ p H', Same H H' → PrT K H' p (l.1 * h.2 + h.1 * l.2, 2 * l.2 * h.2) → Q (.ref p) H'
theorem ok_law_middle (T : CT K mg A) (D : DT K mg A) : COk P w K mg base CX0 1 "_law_middle" ["_law_top", "_law_below", "_law_size"] (sp_law_middle K) := by
  refine COk.by D.law_middle fun f fd F => ?_
  refine F.ok sc_law_middle (fun vs H Q E h => ?_) (fun cdv Ar outer s H vs Q E hr h => ?_)
  · obtain ⟨t, b, size, l, h, rfl, _⟩ := h
    rfl
  · obtain ⟨t, b, size, l, h, rfl, t1, t2, b1, b2, z1, z2, so, k⟩ := h
    refine ⟨_, (pss_cons (ps_set (i := 3) sc_law_middle.nd rfl (Or.inl rfl) pe_non)
    (pss_cons (ps_set (i := 4) sc_law_middle.nd rfl (Or.inl rfl) pe_non)
    (pss_cons (ps_for PassesOwn.never rfl (pi_range2 rfl T.b_range (pa_cons pe_int (pa_cons (pe_op op_add (pv 2) pe_int) pa_nil))) (pg_name (i := 5) sc_law_middle.nd rfl (Or.inl rfl))
      (pss_cons (ps_set (i := 6) sc_law_middle.nd rfl (Or.inl rfl) (pe_op op_fdivS (pe_op op_mulW (pv 0) (pv 5)) (pv 1)))
    (C8.pss_cut (ps_if (PW.pt (pw_or (pt_cmpR op_isN (pv 3) pe_non (nomark _)) (pw_or1 (pt_cmpR op_gt (pe_op op_mulW (pv 6) (pe_ix ix_tup (pv 3) pe_int (fun _ _ => rfl))) (pe_op op_mulW (pe_ix ix_tup (pv 3) pe_int (fun _ _ => rfl)) (pv 5)) (nomark _)))))
      (pss_one (ps_set (i := 3) sc_law_middle.nd rfl (Or.inl rfl) (pe_tup (pa_cons (pv 6) (pa_cons (pv 5) pa_nil))))) pss_nil)
    (pss_one (ps_if (PW.pt (pw_or (pt_cmpR op_isN (pv 4) pe_non (nomark _)) (pw_or1 (pt_cmpR op_lt (pe_op op_mulW (pe_op op_add (pv 6) pe_int) (pe_ix ix_tup (pv 4) pe_int (fun _ _ => rfl))) (pe_op op_mulW (pe_ix ix_tup (pv 4) pe_int (fun _ _ => rfl)) (pv 5)) (nomark _)))))
      (pss_one (ps_set (i := 4) sc_law_middle.nd rfl (Or.inl rfl) (pe_tup (pa_cons (pe_op op_add (pv 6) pe_int) (pa_cons (pv 5) pa_nil))))) pss_nil)))))
    (pss_one (ps_ret (pe_tup (pa_cons (pe_op op_add (pe_op op_mulW (pe_ix ix_tup (pv 3) pe_int (fun _ _ => rfl)) (pe_ix ix_tup (pv 4) pe_int (fun _ _ => rfl))) (pe_op op_mulW (pe_ix ix_tup (pv 4) pe_int (fun _ _ => rfl)) (pe_ix ix_tup (pv 3) pe_int (fun _ _ => rfl)))) (pa_cons (pe_op op_mulW (pe_op op_mulW pe_int (pe_ix ix_tup (pv 3) pe_int (fun _ _ => rfl))) (pe_ix ix_tup (pv 4) pe_int (fun _ _ => rfl))) pa_nil)))))))), ?_⟩
    have tt : tame t := ⟨by omega, by omega⟩
    have tb : tame b := ⟨by omega, by omega⟩
    refine ⟨_, rfl, _, _, rfl, rfl, 1, size + 1, rfl, ⟨by decide, by decide, by omega, by omega⟩, ?_⟩
    refine for_range (lo := 1) (n := (size + 1 - 1).toNat) (fun i σ H' => ∃ (lo hi : V) (v5 v6 : Option V), σ = [some (.int t), some (.int b), some (.int size), some lo, some hi, v5, v6] ∧ Same H H' ∧ ((i = 0 ∧ lo = .non ∧ hi = .non) ∨ (1 ≤ i ∧ ∃ pl ph x y, lo = .ref pl ∧ hi = .ref ph ∧ PrT K H' pl x ∧ PrT K H' ph y ∧ LoI t b i x ∧ HiI t b i y))) ⟨.non, .non, none, none, rfl, Same.refl _, .inl ⟨rfl, rfl, rfl⟩⟩ ?_ ?_
    · rintro i σ H1 hi ⟨lo, hig, v5, v6, rfl, s1, al⟩
      obtain ⟨v, hv⟩ : ∃ v : Int, v = 1 + (i : Int) := ⟨_, rfl⟩
      rw [← hv]
      have tv : tame v := ⟨by omega, by omega⟩
      have ab : ∀ u : Int, 1 ≤ u → u ≤ 40 → ((t * u).fdiv b).natAbs ≤ 10000000000 * 40 := fun u u1 u2 => by
        refine Nat.le_trans (fdiv_abs (by omega)) ?_
        rw [Int.natAbs_mul]
        exact Nat.mul_le_mul (by omega) (by omega)
      have av := ab v (by omega) (by omega)
      refine ⟨_, rfl, _, rfl, _, _, rfl, rfl, tame_cmul tt tv, _, rfl, _, _, rfl, rfl, small_fdiv (small_tame tb) (by omega) _, ?_⟩
      have tf : tame ((t * v).fdiv b) := ⟨by omega, by omega⟩
      have tf1 : tame ((t * v).fdiv b + 1) := ⟨by omega, by omega⟩
      rcases al with ⟨e0, rfl, rfl⟩ | ⟨i1, pl, ph, x, y, rfl, rfl, hx, hy, LI, HI⟩
      · have v1 : v = 1 := by omega
        subst v1
        refine ⟨fun σ H' => ∃ pl, σ = [some (.int t), some (.int b), some (.int size), some (.ref pl), some .non, some (.int 1), some (.int ((t * 1).fdiv b))] ∧ Same H H' ∧ PrT K H' pl ((t * 1).fdiv b, 1), ?_, ?_⟩
        · refine ⟨_, rfl, rfl, _, rfl, iteT (iteT ⟨_, rfl, _, rfl, (by show 2 ≤ sizeLine; decide), fun o no => ?_⟩)⟩
          exact ⟨o, rfl, s1.trans (same_upd no), SqT.of upd_same⟩
        rintro σ H2 ⟨pl, rfl, s2, hl⟩
        refine ⟨_, rfl, rfl, _, rfl, iteT (iteT ⟨_, rfl, _, _, rfl, rfl, _, rfl, (by show 2 ≤ sizeLine; decide), fun o no => ?_⟩)⟩
        have s3 := same_upd (o := .tup [V.int ((t * 1).fdiv b + 1), .int 1]) no
        refine ⟨_, _, _, _, rfl, s2.trans s3, .inr ⟨by omega, pl, o, ((t * 1).fdiv b, 1), ((t * 1).fdiv b + 1, 1), rfl, rfl, sqT_same hl s3, SqT.of (upd_at s3), ?_, ?_⟩⟩
        · rw [show ((i + 1 : Nat) : Int) = 1 by omega]; exact LoI.one t b
        · rw [show ((i + 1 : Nat) : Int) = 1 by omega]; exact HiI.one t b
      · have vi : v = (i : Int) + 1 := by omega
        have tx2 : tame x.2 := ⟨by have := LI.v1; omega, by have := LI.v2; omega⟩
        have ty2 : tame y.2 := ⟨by have := HI.v1; omega, by have := HI.v2; omega⟩
        have tx1 : tame x.1 := by
          have := ab x.2 LI.v1 (by have := LI.v2; omega)
          rw [← LI.is] at this
          exact ⟨by omega, by omega⟩
        have ty1 : tame y.1 := by
          have := ab y.2 HI.v1 (by have := HI.v2; omega)
          have e := HI.is
          exact ⟨by omega, by omega⟩
        refine ⟨fun σ H' => ∃ pl x, σ = [some (.int t), some (.int b), some (.int size), some (.ref pl), some (.ref ph), some (.int v), some (.int ((t * v).fdiv b))] ∧ Same H1 H' ∧ PrT K H' pl x ∧ LoI t b ((i + 1 : Nat) : Int) x, ?_, ?_⟩
        · refine ⟨_, rfl, rfl, _, rfl, iteF ⟨_, rfl, _, rfl, pl, _, 1, _, rfl, rfl, hx, atI_nat (j := 1) rfl, _, _, rfl, rfl, tame_cmul tf tx2, _, rfl, pl, _, 0, _, rfl, rfl, hx, atI_nat (j := 0) rfl, _, rfl, _, _, rfl, rfl, tame_cmul tx1 tv, _, _, rfl, rfl, _, rfl, ite2 (fun h => ?_) (fun h => ?_)⟩⟩
          · have h : x.1 * v < (t * v).fdiv b * x.2 := of_decide_eq_true h
            refine ⟨_, rfl, _, rfl, (by show 2 ≤ sizeLine; decide), fun o no => ?_⟩
            refine ⟨o, ((t * v).fdiv b, v), rfl, same_upd no, SqT.of upd_same, ?_⟩
            rw [vi] at h ⊢
            exact LI.put (by omega) h
          · have h : ¬ x.1 * v < (t * v).fdiv b * x.2 := fun z => h (decide_eq_true z)
            refine ⟨pl, x, rfl, Same.refl _, hx, ?_⟩
            rw [vi] at h
            exact LI.keep h
        rintro σ H2 ⟨pl, x, rfl, s2, hx, LI2⟩
        have hy2 : PrT K H2 ph y := sqT_same hy s2
        refine ⟨_, rfl, rfl, _, rfl, iteF ⟨_, rfl, _, _, rfl, rfl, _, rfl, ph, _, 1, _, rfl, rfl, hy2, atI_nat (j := 1) rfl, _, _, rfl, rfl, tame_cmul tf1 ty2, _, rfl, ph, _, 0, _, rfl, rfl, hy2, atI_nat (j := 0) rfl, _, rfl, _, _, rfl, rfl, tame_cmul ty1 tv, _, _, rfl, rfl, _, rfl, ite2 (fun h => ?_) (fun h => ?_)⟩⟩
        · have h : ((t * v).fdiv b + 1) * y.2 < y.1 * v := of_decide_eq_true h
          refine ⟨_, rfl, _, _, rfl, rfl, _, rfl, (by show 2 ≤ sizeLine; decide), fun o no => ?_⟩
          have s3 := same_upd (o := .tup [V.int ((t * v).fdiv b + 1), .int v]) no
          refine ⟨_, _, _, _, rfl, (s1.trans s2).trans s3, .inr ⟨by omega, pl, o, x, ((t * v).fdiv b + 1, v), rfl, rfl, sqT_same hx s3, SqT.of (upd_at s3), LI2, ?_⟩⟩
          rw [vi] at h ⊢
          exact HI.put (by omega) h
        · have h : ¬ ((t * v).fdiv b + 1) * y.2 < y.1 * v := fun z => h (decide_eq_true z)
          refine ⟨_, _, _, _, rfl, s1.trans s2, .inr ⟨by omega, pl, ph, x, y, rfl, rfl, hx, hy2, LI2, ?_⟩⟩
          rw [vi] at h
          exact HI.keep h
    · rintro σ H2 ⟨lo, hig, v5, v6, rfl, s2, al⟩
      rcases al with ⟨e0, _⟩ | ⟨i1, pl, ph, x, y, rfl, rfl, hx, hy, LI, HI⟩
      · omega
      · have en : (((size + 1 - 1).toNat : Nat) : Int) = size := by omega
        rw [en] at LI HI
        cases so with
        | @two p q p' q' hq hq' hqs hqs' hss det lo' hi' =>
          obtain rfl := lo_is b1 hq hq' hqs hss det lo' hi' LI
          obtain rfl := hi_is b1 hq hq' hqs' hss det lo' hi' HI
          have c1 : ((q : Int)) ≤ 40 := by omega
          have ab : ∀ u : Int, 1 ≤ u → u ≤ 40 → ((t * u).fdiv b).natAbs ≤ 10000000000 * 40 := fun u u1 u2 => by
            refine Nat.le_trans (fdiv_abs (by omega)) ?_
            rw [Int.natAbs_mul]
            exact Nat.mul_le_mul (by omega) (by omega)
          have a1 := ab q hq (by omega)
          have a2 := ab q' hq' (by omega)
          have e1 : p = (t * q).fdiv b := LI.is
          have e2 : p' = (t * q').fdiv b + 1 := HI.is
          have tp : tame p := ⟨by omega, by omega⟩
          have tp' : tame p' := ⟨by omega, by omega⟩
          have tq : tame q := ⟨by omega, by omega⟩
          have tq' : tame q' := ⟨by omega, by omega⟩
          refine ⟨_, rfl, pl, _, 0, _, rfl, rfl, hx, atI_nat (j := 0) rfl, _, rfl, ph, _, 1, _, rfl, rfl, hy, atI_nat (j := 1) rfl, _, _, rfl, rfl, tame_cmul tp tq', _, rfl, ph, _, 0, _, rfl, rfl, hy, atI_nat (j := 0) rfl, _, rfl, pl, _, 1, _, rfl, rfl, hx, atI_nat (j := 1) rfl, _, _, rfl, rfl, tame_cmul tp' tq, _, _, rfl, rfl, ?_⟩
          refine ⟨_, rfl, pl, _, 1, _, rfl, rfl, hx, atI_nat (j := 1) rfl, _, _, rfl, rfl, tame_cmul ⟨by decide, by decide⟩ tq, _, rfl, ph, _, 1, _, rfl, rfl, hy, atI_nat (j := 1) rfl, _, _, rfl, rfl, tame_cmul ⟨by omega, by omega⟩ tq', (by show 2 ≤ sizeLine; decide), fun o no => ?_⟩
          exact k o _ (s2.trans (same_upd no)) (SqT.of upd_same)
end
/-! ### the law's own: what both readings want -/
theorem wl_nil (ds : List Int) : wl [] ds = 0 := by cases ds <;> rfl
section
variable {P : Program} {w : World} {K : PySem.W.Frag} {mg : Str → Option Value} {base : Heap} {A : Ad}
def sp_law_wants : Sp := fun vs H Q _ => ∃ (t b size : Int) (l h : Pr), vs = [.int t, .int b, .int size] ∧ -10000000000 ≤ t ∧ t ≤ 10000000000 ∧ 0 < b ∧ b ≤ 10000000000 ∧ 1 ≤ size ∧ size ≤ 40 ∧ SidesOk t b size (fw size (chain t b).tail 0 1).2 l h ∧
  ∀ H', Same H H' → Q (.int (wantsOf (chain t b) size l h : Int)) H'
theorem ok_law_wants (T : CT K mg A) (D : DT K mg A) (G_law_chain : COk P w K mg base CX0 1 "_law_chain" ["_law_top", "_law_below"] sp_law_chain) : COk P w K mg base CX0 2 "_law_wants" ["_law_top", "_law_below", "_law_size"] sp_law_wants := by
  have G_law_first_wants := ok_law_fw (P := P) (w := w) (base := base) T D
  have G_law_middle := ok_law_middle (P := P) (w := w) (base := base) T D
  refine COk.by D.law_wants fun f fd F => ?_
  refine F.ok sc_law_wants (fun vs H Q E h => ?_) (fun cdv Ar outer s H vs Q E hr h => ?_)
  · obtain ⟨t, b, size, l, h, rfl, _⟩ := h
    rfl
  · obtain ⟨t, b, size, l, h, rfl, t1, t2, b1, b2, z1, z2, so, k⟩ := h
    refine ⟨_, (pss_cons (ps_set (i := 3) sc_law_wants.nd rfl (Or.inl rfl) (pe_c G_law_chain (hr.mono (by first | decide | omega)) (pa_cons (pv 0) (pa_cons (pv 1) pa_nil))))
    (pss_cons (ps_asg (pe_c G_law_first_wants (hr.mono (by first | decide | omega)) (pa_cons (pv 3) (pa_cons (pv 2) pa_nil))) (pg_tup rfl (pgs_cons (pg_name (i := 4) sc_law_wants.nd rfl (Or.inl rfl)) (pgs_cons (pg_name (i := 5) sc_law_wants.nd rfl (Or.inl rfl)) pgs_nil))))
    (pss_cons (ps_if (pt_val (pv 5))
      (pss_one (ps_ret (pv 4))) pss_nil)
    (pss_cons (ps_set (i := 6) sc_law_wants.nd rfl (Or.inl rfl) (pe_c G_law_middle (hr.mono (by first | decide | omega)) (pa_cons (pv 0) (pa_cons (pv 1) (pa_cons (pv 2) pa_nil)))))
    (pss_cons (ps_set (i := 7) sc_law_wants.nd rfl (Or.inl rfl) (pe_c G_law_chain (hr.mono (by first | decide | omega)) (pa_cons (pe_ix ix_tup (pv 6) pe_int (fun _ _ => rfl)) (pa_cons (pe_ix ix_tup (pv 6) pe_int (fun _ _ => rfl)) pa_nil))))
    (pss_cons (ps_for PassesOwn.never rfl (pi_range1 rfl T.b_range (pa_cons (pe_op op_add (pe_callB call_len_seq (by rfl) T.b_len (by decide +kernel) (pa_cons (pv 3) pa_nil)) pe_int) pa_nil)) (pg_name (i := 8) sc_law_wants.nd rfl (Or.inl rfl))
      (pss_one (ps_if (PW.pt (pw_or (pt_cmpR (op_neD hr.units) (pe_slice (show SlR _ (rSlL K) from sl_list) (pv 3) (po_some (pv 8)) (po_some (pe_op op_add (pv 8) pe_int))) (pe_slice (show SlR _ (rSlL K) from sl_list) (pv 7) (po_some (pv 8)) (po_some (pe_op op_add (pv 8) pe_int))) (nomark _)) (pw_or1 (pt_cmpR op_ge (pv 8) (pe_callB call_len_seq (by rfl) T.b_len (by decide +kernel) (pa_cons (pv 3) pa_nil)) (nomark _)))))
      (pss_one (ps_ret (pe_callB (call_max2 rfl) (by rfl) T.b_max (by decide +kernel) (pa_cons (pv 4) (pa_cons (pe_callB (call_min2 rfl) (by rfl) T.b_min (by decide +kernel) (pa_cons (pe_op op_add (pv 8) pe_int) (pa_cons (pe_callB call_len_seq (by rfl) T.b_len (by decide +kernel) (pa_cons (pv 3) pa_nil)) pa_nil))) pa_nil))))) pss_nil)))
    (pss_one (ps_ret (pv 4))))))))), ?_⟩
    have tt : tame t := ⟨by omega, by omega⟩
    have tb : tame b := ⟨by omega, by omega⟩
    refine ⟨_, rfl, _, rfl, t, b, rfl, small_tame tt, small_tame tb, fun H1 c s1 nc hc => ?_⟩
    have ec := chain_cons (t := t) (show b ≠ 0 by omega)
    have hne : chain t b ≠ [] := by rw [ec]; exact List.cons_ne_nil _ _
    have len : (chain t b).length ≤ 80 := chain_len 40 _ _ (Nat.lt_of_le_of_lt (show b.natAbs ≤ 1000000000000 by omega) (by decide))
    have parts : ∀ p ∈ (chain t b).tail, 0 ≤ p ∧ tame p := by
      rw [ec]
      exact chain_parts _ b (t.fmod b) (Nat.le_refl _) (sgs_next (by omega)) tb (fmod_tame tb (by omega))
    unfold wantsOf at k
    generalize chain t b = cs at *
    refine ⟨_, rfl, _, rfl, c, cs, size, rfl, hc, hne, len, parts, z1, z2, fun p np => ?_⟩
    have s2 := same_upd (o := .tup [V.int ((1 + (fw size cs.tail 0 1).1 : Nat) : Int), .bl (fw size cs.tail 0 1).2]) np
    have hpt : SqT K _ p [V.int ((1 + (fw size cs.tail 0 1).1 : Nat) : Int), .bl (fw size cs.tail 0 1).2] := SqT.of (upd_at s2)
    refine ⟨p, _, rfl, hpt, rfl, _, _, rfl, _, _, rfl, rfl, ?_⟩
    have hc2 := s2 _ _ hc
    have s12 := s1.trans s2
    generalize upd H1 p _ = H2 at *
    generalize fw size cs.tail 0 1 = F0 at *
    refine ⟨_, rfl, _, rfl, ite2 (fun e => ?_) (fun e => ?_)⟩
    · rw [if_pos e] at k
      exact ⟨_, rfl, k H2 s12⟩
    · rw [if_neg e] at k
      have ef : F0.2 = false := by rw [Bool.not_eq_true] at e; exact e
      rw [ef] at so
      refine ⟨_, rfl, _, rfl, _, rfl, t, b, size, l, h, rfl, t1, t2, b1, b2, z1, z2, so, fun pm H3 s3 hm => ?_⟩
      have sm : small (l.1 * h.2 + h.1 * l.2) ∧ small (2 * l.2 * h.2) := by
        cases so with
        | @two p q p' q' hq hq' hqs hqs' hss det lo hi =>
          obtain ⟨f1, f2⟩ := two_floor b1 hq hq' det lo hi
          have ab : ∀ u : Int, 1 ≤ u → u ≤ 40 → ((t * u).fdiv b).natAbs ≤ 10000000000 * 40 := fun u u1 u2 => by
            refine Nat.le_trans (fdiv_abs (by omega)) ?_
            rw [Int.natAbs_mul]
            exact Nat.mul_le_mul (by omega) (by omega)
          have a1 := ab q hq (by omega)
          have a2 := ab q' hq' (by omega)
          have m1 := mul_abs (x := p) (y := q') ⟨by omega, by omega⟩ ⟨by omega, by omega⟩
          have m2 := mul_abs (x := p') (y := q) ⟨by omega, by omega⟩ ⟨by omega, by omega⟩
          have m3 := mul_abs (x := 2 * q) (y := q') ⟨by omega, by omega⟩ ⟨by omega, by omega⟩
          exact ⟨small_of (by show (p * q' + p' * q).natAbs ≤ _; omega), small_of (by show (2 * q * q').natAbs ≤ _; omega)⟩
      refine ⟨_, rfl, pm, _, 0, _, rfl, rfl, hm, atI_nat (j := 0) rfl, _, rfl, pm, _, 1, _, rfl, rfl, hm, atI_nat (j := 1) rfl, _, _, rfl, sm.1, sm.2, fun H4 c2 s4 nc2 hd => ?_⟩
      have hd : H4 c2 = some (.lst ((midL l h).map V.int)) := hd
      have hc4 := s4 _ _ (s3 _ _ hc2)
      have s14 := (s12.trans s3).trans s4
      generalize midL l h = ds at *
      have lc1 : (cs.map V.int).length = cs.length := List.length_map _
      refine ⟨_, rfl, c, _, rfl, .inl (SqL.of hc4), _, _, rfl, rfl, ((cs.length : Nat) : Int) + 1, by rw [lc1], by omega, by omega, ?_⟩
      refine for_range (lo := 0) (n := (((cs.length : Nat) : Int) + 1).toNat) (fun i σ H' => ∃ v8 : Option V, σ = [some (.int t), some (.int b), some (.int size), some (.ref c), some (.int ((1 + F0.1 : Nat) : Int)), some (.bl F0.2), some (.ref pm), some (.ref c2), v8] ∧ Same H4 H' ∧ wl cs ds = i + wl (cs.drop i) (ds.drop i) ∧ i ≤ cs.length) ⟨none, rfl, Same.refl _, by simp, Nat.zero_le _⟩ ?_ ?_
      · rintro i σ H5 hi ⟨v8, rfl, s5, hw, hil⟩
        have cutI : ∀ xs : List Int, cutV (xs.map V.int) (some (0 + (i : Int))) (some (0 + (i : Int) + 1)) = ((xs.drop i).take 1).map V.int := fun xs => by
          rw [Int.zero_add, cut_one, List.map_take, List.map_drop]
        have hc5 := s5 _ _ hc4
        have hd5 := s5 _ _ hd
        refine ⟨_, rfl, _, rfl, _, rfl, _, rfl, _, _, rfl, rfl, _, rfl, c, _, rfl, SqL.of hc5, fun p1 n1 => ?_⟩
        have q1 := same_upd (o := .lst (cutV (cs.map V.int) (some (0 + (i : Int))) (some (0 + (i : Int) + 1)))) n1
        refine ⟨_, rfl, _, rfl, _, rfl, _, rfl, _, _, rfl, rfl, _, rfl, c2, _, rfl, SqL.of (q1 _ _ hd5), fun p2 n2 => ?_⟩
        have q2 := same_upd (o := .lst (cutV (ds.map V.int) (some (0 + (i : Int))) (some (0 + (i : Int) + 1)))) n2
        have h1 := (q2 _ _ (upd_at q1)).trans (congrArg (fun z => some (HO.lst z)) (cutI cs))
        have h2 := (upd_at q2).trans (congrArg (fun z => some (HO.lst z)) (cutI ds))
        have hc6 := q2 _ _ (q1 _ _ hc5)
        have s6 := s5.trans (q1.trans q2)
        refine ⟨_, _, .lst (SqL.of h1) (dpAll_ints _), .lst (SqL.of h2) (dpAll_ints _), shaped_ints _, shaped_ints _, _, rfl, ?_⟩
        clear h1 h2
        generalize upd (upd H5 p1 _) p2 _ = H6 at *
        have ret : ∀ n : Nat, n = wl cs ds → min ((i : Int) + 1) (cs.length : Int) = (n : Int) → Q (.int (if (if ((cs.map V.int).length : Int) < 0 + (i : Int) + 1 then ((cs.map V.int).length : Int) else 0 + (i : Int) + 1) > ((1 + F0.1 : Nat) : Int) then (if ((cs.map V.int).length : Int) < 0 + (i : Int) + 1 then ((cs.map V.int).length : Int) else 0 + (i : Int) + 1) else ((1 + F0.1 : Nat) : Int))) H6 := fun n e1 e2 => by
          refine cast (congrArg (fun z : Int => Q (.int z) H6) ?_) (k H6 (s14.trans s6))
          rw [← e1, lc1]
          split <;> split <;> omega
        obtain ⟨A1, hA⟩ : ∃ A1, A1 = cs.drop i := ⟨_, rfl⟩
        obtain ⟨B1, hB⟩ : ∃ B1, B1 = ds.drop i := ⟨_, rfl⟩
        have lA : A1.length = cs.length - i := by rw [hA, List.length_drop]
        rw [← hA, ← hB] at hw ⊢
        cases A1 with
        | nil =>
          have lA : 0 = cs.length - i := lA
          rw [wl_nil] at hw
          cases B1 with
          | nil =>
            refine iteF ⟨_, rfl, _, rfl, c, _, rfl, .inl (SqL.of hc6), _, _, rfl, rfl, _, rfl, ?_⟩
            have e : decide ((((cs.map V.int).length : Nat) : Int) ≤ 0 + (i : Int)) = true := decide_eq_true (by rw [lc1]; omega)
            rw [e]
            exact iteT ⟨_, rfl, _, rfl, _, _, rfl, rfl, _, rfl, c, _, rfl, .inl (SqL.of hc6), _, _, rfl, _, _, rfl, ret i hw.symm (by omega)⟩
          | cons q B =>
            refine iteT (iteT ?_)
            exact ⟨_, rfl, _, rfl, _, _, rfl, rfl, _, rfl, c, _, rfl, .inl (SqL.of hc6), _, _, rfl, _, _, rfl, ret i hw.symm (by omega)⟩
        | cons p0 A2 =>
          have lA : A2.length + 1 = cs.length - i := lA
          cases B1 with
          | nil =>
            have hw : wl cs ds = i + 1 := hw
            refine iteT (iteT ?_)
            exact ⟨_, rfl, _, rfl, _, _, rfl, rfl, _, rfl, c, _, rfl, .inl (SqL.of hc6), _, _, rfl, _, _, rfl, ret (i + 1) hw.symm (by omega)⟩
          | cons q0 B2 =>
            have ee : PyData.eqv (.list (((p0 :: A2).take 1).map PyData.int)) (.list (((q0 :: B2).take 1).map PyData.int)) = decide (p0 = q0) := eqv_pp p0 q0
            rw [ee]
            by_cases e : p0 = q0
            · have hw : wl cs ds = i + (wl A2 B2 + 1) := by rw [hw]; exact congrArg (i + ·) (if_pos e)
              rw [decide_eq_true e]
              refine iteF ⟨_, rfl, _, rfl, c, _, rfl, .inl (SqL.of hc6), _, _, rfl, rfl, _, rfl, ?_⟩
              have e2 : decide ((((cs.map V.int).length : Nat) : Int) ≤ 0 + (i : Int)) = false := decide_eq_false (by rw [lc1]; omega)
              rw [e2]
              refine iteF ⟨_, rfl, s6, ?_, by omega⟩
              have d1 : cs.drop (i + 1) = A2 := by rw [← List.drop_drop, ← hA]; rfl
              have d2 : ds.drop (i + 1) = B2 := by rw [← List.drop_drop, ← hB]; rfl
              rw [d1, d2, hw]
              omega
            · have hw : wl cs ds = i + 1 := by rw [hw]; exact congrArg (i + ·) (if_neg e)
              rw [decide_eq_false e]
              refine iteT (iteT ?_)
              exact ⟨_, rfl, _, rfl, _, _, rfl, rfl, _, rfl, c, _, rfl, .inl (SqL.of hc6), _, _, rfl, _, _, rfl, ret (i + 1) hw.symm (by omega)⟩
      · rintro σ H5 ⟨v8, rfl, s5, hw, hil⟩
        omega
end
/-! ### the law -/
def sp_law (K : PySem.W.Frag) : Sp := fun vs H Q _ => ∃ (a : Addr) (ns : List Int), vs = [.ref a] ∧ ScrAt K H a ns ∧ ns.length ≤ 63 ∧ ∀ H', Q (.bl true) H'
theorem sides_ok {t b size : Int} (hb : 0 < b) (hs : 1 ≤ size) {most : Int} (hm : 0 ≤ most) {l h : Pr} (e : sidesL size (chain t b) (0, 1) (1, 0) most = some (l, h)) (ne : l ≠ h) : 0 < l.2 ∧ 0 < h.2 := by
  have ec := chain_cons (t := t) (show b ≠ 0 by omega)
  have mf := fmod_pos (a := t) hb
  have ef := fmod_eq t b
  rw [ec] at e
  have e : (if most < 1 then none else if size < 1 + t.fdiv b * 0 then some (within (0, 1) (1, 0) size) else sidesL size (chain b (t.fmod b)) (1, 0) (0 + t.fdiv b * 1, 1 + t.fdiv b * 0) (most - 1)) = some (l, h) := e
  rw [if_neg (show ¬ size < 1 + t.fdiv b * 0 by rw [Int.mul_zero]; omega), Int.mul_zero, Int.mul_one, Int.zero_add, Int.add_zero] at e
  by_cases h1 : most < 1
  · rw [if_pos h1] at e; cases e
  · rw [if_neg h1] at e
    have go := (sides_go (t := t) (b := b) (size := size) _ b (t.fmod b) (t.fdiv b) 1 1 0 (most - 1) (by omega) (Nat.le_refl _) mf.1 mf.2 (by omega) (by omega) (Int.le_refl _) (Int.le_refl _) hs (by omega) (by omega)).2 l h e
    revert go
    generalize (fw size (chain b (t.fmod b)) 0 1).2 = ee
    intro go
    cases go with
    | fin => exact absurd rfl ne
    | two hq hq' => exact ⟨by show (0 : Int) < _; omega, by show (0 : Int) < _; omega⟩
theorem due_self {t b : Int} (hb : 0 < b) {N : Pr} (du : Due t b b N) : N = fold (chain t b) := by
  have cd := low_cand (t := t) (b := b) (size := b) (by omega) (Int.le_refl _)
  have d0 : dst t b (fold (chain t b)) = 0 := by
    obtain ⟨g, g0, e1, e2, _, _⟩ := low_pos (t := t) hb
    generalize fold (chain t b) = x at *
    have : x.1 * b - t * x.2 = 0 := by rw [e1, e2]; grind
    unfold dst
    rw [this]
    rfl
  rcases du.best _ cd with z | z
  · exact z.symm
  · have c1 := cd.1
    unfold nearB at z
    rw [d0, Int.zero_mul] at z
    have nn := dst_nn t b N
    by_cases h : dst t b N * (fold (chain t b)).2 = 0
    · have dN : dst t b N = 0 := by
        rcases Int.mul_eq_zero.mp h with y | y
        · exact y
        · omega
      have e : N.1 * b = t * N.2 := by
        unfold dst at dN
        split at dN <;> omega
      have k1 := chain_scale _ (x := N.1) (y := N.2) (k := b) (Nat.le_refl _) (by omega)
      have k2 := chain_scale _ (x := t) (y := b) (k := N.2) (Nat.le_refl _) (by have := du.v1; omega)
      rw [e, Int.mul_comm N.2 b, k2] at k1
      rw [k1]
      exact du.low.symm
    · rw [if_neg h] at z
      have z := of_decide_eq_true z
      have := Int.mul_nonneg nn (show 0 ≤ (fold (chain t b)).2 by omega)
      omega
theorem near_any {K : PySem.W.Frag} {G : VK} {H : Hp} {W most : Int} {N : Pr} (g : ∀ few : V, ((few = .non ∧ most < W) ∨ ∃ pg, few = .ref pg ∧ ¬ most < W ∧ PrT K H pg N) → G few H) : NearQ K G H (if most < W then none else some N) := by
  by_cases h : most < W
  · rw [if_pos h]
    exact g .non (.inl ⟨rfl, h⟩)
  · rw [if_neg h]
    exact fun p hp => g (.ref p) (.inr ⟨p, rfl, h, hp⟩)
theorem rowNo {K : PySem.W.Frag} {H0 : Hp} {r a : Addr} {ns : List Int} (R : RowAt K H0 r a ns) : ∀ b o, b = r → H0 b = some o → (∀ ys, o ≠ .tup ys) ∧ ∀ ob u, o ≠ .frz ob u := fun b o e z => by
  obtain ⟨x, xs, e2⟩ := R.at_
  subst e
  rw [e2] at z
  cases z
  exact ⟨fun _ q => (by cases q), fun _ _ q => (by cases q)⟩
theorem sqT_row {K : PySem.W.Frag} {H H' : Hp} {r a p : Addr} {ns : List Int} {xs : List V} (h : SqT K H p xs) (R : RowAt K H r a ns) (k : ∀ b o, H b = some o → b ≠ r → H' b = some o) : SqT K H' p xs :=
  sqT_but (N := fun b => b = r) h k (rowNo R)
theorem menuN {v : Int} (h0 : 0 ≤ v) (h1 : v < 2) : ∃ m : Int, atI [V.int 60, .int 1000000000] v = some (.int m) ∧ 0 < m ∧ m ≤ 1000000000 := by
  obtain e | e : v = 0 ∨ v = 1 := by omega
  all_goals subst e
  · exact ⟨60, rfl, by decide, by decide⟩
  · exact ⟨1000000000, rfl, by decide, by decide⟩
section
variable {P : Program} {w : World} {K : PySem.W.Frag} {mg : Str → Option Value} {base : Heap} {A : Ad}
theorem ok_law (T : CT K mg A) (TT : TB K w mg A) (D : DT K mg A) {f : Addr} {fd : FuncData} (F : Fun K "law" "law" s_law f fd) : FnOk P w K mg base CX0 30 f fd ["_law_script"] (sp_law K) := by
  have G_law_row : COk P w K mg base CX0 1 "_law_row" ["_law_script"] (sp_law_row K) := COk.by D.law_row fun f fd F => ok_law_row F
  have G_law_taken : COk P w K mg base CX0 1 "_law_taken" ["_law_row_here", "_law_many"] (sp_law_taken K) := COk.by D.law_taken fun f fd F => ok_law_taken F T.toBT
  have G_law_signed : COk P w K mg base CX0 2 "_law_signed" ["_law_row_here", "_law_most"] (sp_law_signed K) := COk.by D.law_signed fun f fd F => ok_law_signed F G_law_taken
  have G_law_chain : COk P w K mg base CX0 1 "_law_chain" ["_law_top", "_law_below"] sp_law_chain := COk.by D.law_chain fun f fd F => ok_law_chain F
  have G_law_whole : COk P w K mg base CX0 1 "_law_whole" ["_law_found"] sp_law_whole := COk.by D.law_whole fun f fd F => ok_law_whole F T.toBT
  have G_law_common : COk P w K mg base CX0 1 "_law_common" ["_law_one", "_law_other"] sp_law_common := COk.by D.law_common fun f fd F => ok_law_common F T.toBT
  have G_law_lowest : COk P w K mg base CX0 2 "_law_lowest" ["_law_top", "_law_below"] sp_law_lowest := COk.by D.law_lowest fun f fd F => ok_law_lowest F G_law_common
  have G_law_pair := ok_law_pair (P := P) (w := w) (base := base) T D G_law_whole
  have G_law_due := ok_law_due (P := P) (w := w) (base := base) T D G_law_lowest
  have G_law_wants := ok_law_wants (P := P) (w := w) (base := base) T D G_law_chain
  have G_nearest := ok_near (P := P) (w := w) (base := base) T TT D
  refine F.ok (k := 29) sc_law (fun vs H Q E h => ?_) (fun cdv Ar outer s H vs Q E hr h => ?_)
  · obtain ⟨a, ns, rfl, _⟩ := h
    rfl
  · obtain ⟨a, ns, rfl, hS, hlen, k⟩ := h
    refine ⟨_, (pss_cons (ps_set (i := 1) sc_law.nd rfl (Or.inl rfl) (pe_c G_law_row (hr.mono (by first | decide | omega)) (pa_cons (pv 0) pa_nil)))
    (pss_cons (ps_set (i := 2) sc_law.nd rfl (Or.inl rfl) (pe_ix ix_list (pe_lst (pa_cons pe_int (pa_cons (pe_powc (v := 1000000000) (by decide) ⟨by decide, by decide, by decide⟩) pa_nil))) (pe_c G_law_taken (hr.mono (by first | decide | omega)) (pa_cons (pv 1) (pa_cons pe_int pa_nil))) (fun _ _ => rfl)))
    (pss_cons (ps_set (i := 3) sc_law.nd rfl (Or.inl rfl) (pe_c G_law_signed (hr.mono (by first | decide | omega)) (pa_cons (pv 1) (pa_cons (pv 2) pa_nil))))
    (pss_cons (ps_set (i := 4) sc_law.nd rfl (Or.inl rfl) (pe_op op_add pe_int (pe_c G_law_taken (hr.mono (by first | decide | omega)) (pa_cons (pv 1) (pa_cons (pv 2) pa_nil)))))
    (pss_cons (ps_set (i := 5) sc_law.nd rfl (Or.inl rfl) (pe_op op_add pe_int (pe_c G_law_taken (hr.mono (by first | decide | omega)) (pa_cons (pv 1) (pa_cons pe_int pa_nil)))))
    (C8.pss_cut (ps_if (pt_cmpR op_eq (pe_c G_law_taken (hr.mono (by first | decide | omega)) (pa_cons (pv 1) (pa_cons pe_int pa_nil))) pe_int (nomark _))
      (pss_one (ps_set (i := 4) sc_law.nd rfl (Or.inl rfl) (pe_op op_mulW (pe_op op_mulW pe_int (pv 5)) (pe_op op_add pe_int (pe_c G_law_taken (hr.mono (by first | decide | omega)) (pa_cons (pv 1) (pa_cons pe_int pa_nil))))))) pss_nil)
    (pss_cons (ps_set (i := 6) sc_law.nd rfl (Or.inl rfl) (pe_c G_nearest (hr.mono (by first | decide | omega)) (pa_cons (pe_tup (pa_cons pe_str (pa_cons (pv 3) (pa_cons (pv 4) pa_nil)))) (pa_cons (pv 5) (pa_cons pe_int pa_nil)))))
    (pss_cons (ps_if (pt_not (pt_val (pe_c G_law_pair (hr.mono (by first | decide | omega)) (pa_cons (pv 6) (pa_cons (pe_c G_law_due (hr.mono (by first | decide | omega)) (pa_cons (pv 3) (pa_cons (pv 4) (pa_cons (pv 5) pa_nil)))) pa_nil)))))
      (pss_one (ps_ret pe_bl)) pss_nil)
    (pss_cons (ps_set (i := 7) sc_law.nd rfl (Or.inl rfl) (pe_c G_law_taken (hr.mono (by first | decide | omega)) (pa_cons (pv 1) (pa_cons pe_int pa_nil))))
    (pss_cons (ps_set (i := 8) sc_law.nd rfl (Or.inl rfl) (pe_c G_nearest (hr.mono (by first | decide | omega)) (pa_cons (pe_tup (pa_cons pe_str (pa_cons (pv 3) (pa_cons (pv 4) pa_nil)))) (pa_cons (pv 5) (pa_cons (pv 7) pa_nil)))))
    (C8.pss_cut (ps_if (PW.pt (pw_or (pt_cmpR op_ne (pe_cmpR op_isN (pv 8) pe_non (nomark _)) (pe_cmpR op_lt (pv 7) (pe_c G_law_wants (hr.mono (by first | decide | omega)) (pa_cons (pv 3) (pa_cons (pv 4) (pa_cons (pv 5) pa_nil)))) (nomark _)) (nomark _)) (pw_or1 (PW.pt (pw_and (pt_cmpR op_notN (pv 8) pe_non (nomark _)) (pw_and1 (pt_cmpR (op_neD hr.units) (pv 8) (pv 6) (nomark _))))))))
      (pss_one (ps_ret pe_bl)) pss_nil)
    (pss_cons (ps_set (i := 9) sc_law.nd rfl (Or.inl rfl) (pe_c G_nearest (hr.mono (by first | decide | omega)) (pa_cons (pe_tup (pa_cons pe_str (pa_cons (pe_op op_mulW (pe_un un_neg pe_int) (pv 3)) (pa_cons (pe_op op_mulW (pe_un un_neg pe_int) (pv 4)) pa_nil)))) (pa_cons (pv 5) (pa_cons pe_int pa_nil)))))
    (pss_cons (ps_if (pt_not (pt_val (pe_c G_law_pair (hr.mono (by first | decide | omega)) (pa_cons (pv 9) (pa_cons (pv 6) pa_nil)))))
      (pss_one (ps_ret pe_bl)) pss_nil)
    (pss_one (ps_ret (pe_c G_law_pair (hr.mono (by first | decide | omega)) (pa_cons (pe_c G_nearest (hr.mono (by first | decide | omega)) (pa_cons (pe_tup (pa_cons pe_str (pa_cons (pv 3) (pa_cons (pv 4) pa_nil)))) (pa_cons (pv 4) (pa_cons pe_int pa_nil)))) (pa_cons (pe_c G_law_lowest (hr.mono (by first | decide | omega)) (pa_cons (pv 3) (pa_cons (pv 4) pa_nil))) pa_nil)))))))))))))))))), ?_⟩
    have wd : ∀ z : Int, z ≤ 1000000000000 → z < 2 ^ 8000 := fun z hz => Int.lt_of_le_of_lt hz (by decide +kernel)
    refine ⟨_, rfl, a, ns, rfl, hS, hlen, fun r H1 nr s1 R1 => ?_⟩
    refine ⟨(by show 2 ≤ sizeLine; decide), fun m nm => ?_⟩
    refine ⟨_, rfl, r, a, ns, _, rfl, R1.same (same_upd nm), by decide, wd _ (by decide), fun v H2 v0 v1 R2 kp2 => ?_⟩
    obtain ⟨wide, em, m0, m1⟩ := menuN v0 v1
    have nmr : m ≠ r := by
      obtain ⟨x, xs, e⟩ := R1.at_
      exact (ne_of_none e nm).symm
    refine ⟨m, _, _, _, rfl, rfl, SqL.of (kp2 m _ upd_same nmr), em, ?_⟩
    have m60 : wide < 2 ^ 60 := Int.lt_of_le_of_lt m1 (by decide)
    refine ⟨_, rfl, _, rfl, r, a, ns, wide, rfl, R2, by omega, m60, fun t H3 t0 t1 R3 kp3 => ?_⟩
    refine ⟨_, rfl, _, rfl, r, a, ns, wide, rfl, R3, m0, wd _ (by omega), fun b0 H4 b1 b2 R4 kp4 => ⟨_, _, rfl, rfl, ?_⟩⟩
    refine ⟨_, rfl, r, a, ns, _, rfl, R4, by decide, wd _ (by decide), fun z0 H5 z1 z2 R5 kp5 => ⟨_, _, rfl, rfl, ?_⟩⟩
    obtain ⟨size, hsz⟩ : ∃ size : Int, size = 1 + z0 := ⟨_, rfl⟩
    show C8.tCut _ _ _ [some (V.ref a), some (.ref r), some (.int wide), some (.int t), some (.int (1 + b0)), some (.int (1 + z0)), none, none, none, none] H5
    rw [← hsz]
    have sz1 : 1 ≤ size := by omega
    have sz2 : size ≤ 40 := by omega
    refine ⟨fun σ H' => ∃ b : Int, σ = [some (V.ref a), some (.ref r), some (.int wide), some (.int t), some (.int b), some (.int size), none, none, none, none] ∧ RowAt K H' r a ns ∧ 0 < b ∧ b ≤ 1000000000, ?_, ?_⟩
    · refine ⟨_, rfl, r, a, ns, _, rfl, R5, by decide, wd _ (by decide), fun y H6 y0 y1 R6 kp6 => ?_⟩
      refine ⟨rfl, _, rfl, ite2 (fun c => ?_) (fun c => ?_)⟩
      · refine ⟨_, rfl, _, _, rfl, rfl, tame_cmul ⟨by decide, by decide⟩ ⟨by omega, by omega⟩, ?_⟩
        refine ⟨_, rfl, r, a, ns, _, rfl, R6, by decide, wd _ (by decide), fun x H7 x0 x1 R7 kp7 => ⟨_, _, rfl, rfl, _, _, rfl, rfl, tame_cmul ⟨by omega, by omega⟩ ⟨by omega, by omega⟩, ?_⟩⟩
        have p1 := Int.mul_pos (show 0 < 2 * size by omega) (show 0 < 1 + x by omega)
        have p2 := Int.mul_le_mul (show 2 * size ≤ 80 by omega) (show 1 + x ≤ 3 by omega) (show 0 ≤ 1 + x by omega) (by decide)
        exact ⟨_, rfl, R7, p1, by omega⟩
      · exact ⟨_, rfl, R6, by omega, by omega⟩
    rintro σ H6 ⟨b, rfl, R6, bp, bm⟩
    have tt : tame t := ⟨by omega, by omega⟩
    have tb : tame b := ⟨by omega, by omega⟩
    have ts : tame size := ⟨by omega, by omega⟩
    obtain ⟨l, h, N, so, du, _, nf⟩ := near_main (t := t) bp sz1
    have ec := chain_cons (t := t) (show b ≠ 0 by omega)
    have hne : chain t b ≠ [] := by rw [ec]; exact List.cons_ne_nil _ _
    have len : (chain t b).length ≤ 80 := chain_len 40 _ _ (Nat.lt_of_le_of_lt (show b.natAbs ≤ 1000000000000 by omega) (by decide))
    have wle := wants_le hne size l h
    have n300 : nearF (chain t b) size 300 = some N := by rw [nf 300 (by decide), if_neg (by omega)]
    have pos : ∀ most : Int, 0 ≤ most → ∀ l h, sidesL size (chain t b) (0, 1) (1, 0) most = some (l, h) → l ≠ h → 0 < l.2 ∧ 0 < h.2 := fun most hm l h e ne => sides_ok bp sz1 hm e ne
    have nz : b ≠ 0 := by omega
    -- the nearest
    refine ⟨_, rfl, _, rfl, (by show 3 ≤ sizeLine; decide), fun v1 nv1 => ⟨_, rfl, v1, t, b, size, 300, rfl, SqT.of upd_same, tt, tb, nz, sz1, ts, by decide, pos 300 (by decide), fun H7 s7 => ?_⟩⟩
    rw [n300]
    intro pf hf
    have R7 := R6.same ((same_upd nv1).trans s7)
    refine ⟨_, rfl, _, rfl, _, rfl, _, rfl, t, b, size, N, rfl, by omega, by omega, bp, by omega, sz1, sz2, du, fun p2 H8 s8 hp2 => ⟨pf, p2, N, rfl, sqT_same hf s8, hp2, ⟨_, rfl, iteF ?_⟩⟩⟩
    have hf8 : PrT K H8 pf N := sqT_same hf s8
    have R8 := R7.same s8
    -- with few parts
    refine ⟨_, rfl, r, a, ns, _, rfl, R8, by decide, wd _ (by decide), fun most H9 q0 q1 R9 kp9 => ?_⟩
    have hf9 : PrT K H9 pf N := sqT_row hf8 R8 kp9
    refine ⟨_, rfl, _, rfl, (by show 3 ≤ sizeLine; decide), fun v2 nv2 => ⟨_, rfl, _, rfl, v2, t, b, size, most, rfl, SqT.of upd_same, tt, tb, nz, sz1, ts, q0, pos most q0, fun HA sA => ?_⟩⟩
    have sA' := (same_upd (o := .tup [V.str "fraction", .int t, .int b]) nv2).trans sA
    have hfA : PrT K HA pf N := sqT_same hf9 sA'
    rw [nf most q0]
    refine near_any fun few alt => ?_
    refine ⟨fun σ H' => σ = [some (V.ref a), some (.ref r), some (.int wide), some (.int t), some (.int b), some (.int size), some (.ref pf), some (.int most), some few, none] ∧ PrT K H' pf N, ?_, ?_⟩
    · rcases alt with ⟨rfl, hw⟩ | ⟨pg, rfl, hw, hg⟩
      · refine ⟨_, rfl, rfl, _, rfl, _, rfl, _, rfl, _, rfl, t, b, size, l, h, rfl, by omega, by omega, bp, by omega, sz1, sz2, so, fun HB sB => ?_⟩
        refine ⟨_, _, rfl, rfl, rfl, _, rfl, ?_⟩
        have e : decide (most < (wantsOf (chain t b) size l h : Int)) = true := decide_eq_true hw
        refine ite2 (fun c => ?_) (fun _ => ⟨_, rfl, rfl, _, rfl, iteF (iteF ⟨rfl, sqT_same hfA sB⟩)⟩)
        have c : (!decide (V.bl (decide (V.non = V.non)) = V.bl (decide (most < (wantsOf (chain t b) size l h : Int))))) = true := c
        rw [e] at c
        exact absurd c (by decide)
      · refine ⟨_, rfl, rfl, _, rfl, _, rfl, _, rfl, _, rfl, t, b, size, l, h, rfl, by omega, by omega, bp, by omega, sz1, sz2, so, fun HB sB => ?_⟩
        refine ⟨_, _, rfl, rfl, rfl, _, rfl, ?_⟩
        have e : decide (most < (wantsOf (chain t b) size l h : Int)) = false := decide_eq_false hw
        refine ite2 (fun c => ?_) (fun _ => ⟨_, rfl, rfl, _, rfl, iteT ⟨_, rfl, _, rfl, _, _, PrT.dp (sqT_same hg sB), PrT.dp (sqT_same hfA sB), rfl, rfl, _, rfl, ?_⟩⟩)
        · have c : (!decide (V.bl (decide (V.ref pg = V.non)) = V.bl (decide (most < (wantsOf (chain t b) size l h : Int))))) = true := c
          rw [e, decide_eq_false (show ¬ V.ref pg = V.non from fun z => by cases z)] at c
          exact absurd c (by decide)
        · rw [eqv_pr, decide_eq_true rfl]
          exact iteF ⟨rfl, sqT_same hfA sB⟩
    rintro σ HB ⟨rfl, hfB⟩
    -- turned round
    have ch2 : chain (-2 * t) (-2 * b) = chain t b := by
      have := chain_scale _ (x := t) (y := b) (k := -2) (Nat.le_refl _) (by decide)
      rw [Int.mul_comm t, Int.mul_comm b] at this
      exact this
    refine ⟨2, rfl, _, rfl, _, _, rfl, rfl, tame_cmul ⟨by decide, by decide⟩ tt, 2, rfl, _, rfl, _, _, rfl, rfl, tame_cmul ⟨by decide, by decide⟩ tb, (by show 3 ≤ sizeLine; decide), fun v3 nv3 => ⟨_, rfl, v3, -2 * t, -2 * b, size, 300, rfl, SqT.of upd_same, ⟨by omega, by omega⟩, ⟨by omega, by omega⟩, by omega, sz1, ts, by decide, by rw [ch2]; exact pos 300 (by decide), fun HC sC => ?_⟩⟩
    rw [ch2, n300]
    intro pt hpt
    have hfC : PrT K HC pf N := sqT_same (sqT_same hfB (same_upd nv3)) sC
    refine ⟨_, rfl, _, rfl, pt, pf, N, rfl, hpt, hfC, ⟨_, rfl, iteF ?_⟩⟩
    -- the fraction itself
    obtain ⟨l', h', N', so', du', _, nf'⟩ := near_main (t := t) (size := b) bp (by omega)
    have wle' := wants_le hne b l' h'
    have n300' : nearF (chain t b) b 300 = some N' := by rw [nf' 300 (by decide), if_neg (by omega)]
    have eN := due_self bp du'
    refine ⟨_, rfl, _, rfl, (by show 3 ≤ sizeLine; decide), fun v4 nv4 => ⟨_, rfl, v4, t, b, b, 300, rfl, SqT.of upd_same, tt, tb, nz, by omega, tb, by decide, fun l h e ne => sides_ok bp (by omega) (by decide) e ne, fun HD sD => ?_⟩⟩
    rw [n300']
    intro pn hpn
    refine ⟨_, rfl, _, rfl, t, b, rfl, nz, small_tame tt, small_tame tb, fun q nq => ⟨pn, q, N', rfl, sqT_same hpn (same_upd nq), ?_, k _⟩⟩
    rw [eN]
    exact SqT.of upd_same
end
theorem fun_ofD {K : PySem.W.Frag} {x qual : Str} {st : Stmt} {f : Addr} {fd : FuncData} (F : FunD K x qual (defArgs st) (defBody st) (defScope st) [] [] f fd) : Fun K x qual st f fd := by
  obtain ⟨⟨oc, od, dV, kV, doc, pm, an, cdv, ct, osl, rfl, lk, hcd, hd, hk⟩, kp⟩ := F
  rcases hd with ⟨_, rfl⟩ | ⟨z, _⟩
  · exact ⟨⟨oc, od, kV, doc, pm, an, cdv, ct, osl, rfl, lk, hcd⟩, kp⟩
  · exact absurd rfl z
def adOf (K : PySem.W.Frag) : Ad := ⟨He.ga K "Meter", He.ga K "FractionChain", He.ga K "RootChain", He.ga K "RuledChain", He.ga K "Leaf", He.ga K "FractionBox", He.ga K "FourBox", He.ga K "EightBox", He.ga K "Reading", He.ga K "END", He.ga K "WAITS", He.ga K "TIMES", He.ga K "LENGTHS", He.ga K "CHECKS", He.ga K "NoValue"⟩
section
variable {w : World} {K : PySem.W.Frag} {h : Heap} {mg : Str → Option Value}
theorem ct_of (X : K.In h) (G : h.Ns mainGlobals mg) (c : He.SaysX faL fnL tsL [] exL w h K) : CT K mg (adOf K) := by
  have d := c.t.d
  have ex : exL K = true := c.more
  obtain ⟨e0, ex⟩ := He.ba ex
  obtain ⟨e1, ex⟩ := He.ba ex
  obtain ⟨e2, ex⟩ := He.ba ex
  obtain ⟨e3, ex⟩ := He.ba ex
  have e4 := ex
  exact {
    b_len := He.free_ok X G (d.fact 0 (f := .free "len") (by rfl)),
    b_isinstance := He.free_ok X G (d.fact 1 (f := .free "isinstance") (by rfl)),
    b_range := He.free_ok X G (d.fact 2 (f := .free "range") (by rfl)),
    b_zip := He.free_ok X G (d.fact 3 (f := .free "zip") (by rfl)),
    b_abs := He.free_ok X G (d.fact 4 (f := .free "abs") (by rfl)),
    b_divmod := He.free_ok X G (d.fact 5 (f := .free "divmod") (by rfl)),
    b_min := He.free_ok X G (d.fact 6 (f := .free "min") (by rfl)),
    b_all := He.free_ok X G (d.fact 7 (f := .free "all") (by rfl)),
    b_any := He.free_ok X G (d.fact 8 (f := .free "any") (by rfl)),
    b_list := He.free_ok X G (d.fact 9 (f := .free "list") (by rfl)),
    b_tuple := He.free_ok X G (d.fact 10 (f := .free "tuple") (by rfl)),
    b_str := He.free_ok X G (d.fact 11 (f := .free "str") (by rfl)),
    b_int := He.free_ok X G (d.fact 12 (f := .free "int") (by rfl)),
    b_bool := He.free_ok X G (d.fact 13 (f := .free "bool") (by rfl)),
    b_sum := He.free_ok X G (d.fact 14 (f := .free "sum") (by rfl)),
    b_max := He.free_ok X G (d.fact 15 (f := .free "max") (by rfl)),
    cl_Meter := He.cls_ok (d.fact 25 (f := .cls "Meter") (by rfl)),
    n_Meter_left := He.noat_ok (d.fact 29 (f := .noat "Meter" "left") (by rfl)),
    n_Meter_spent := He.noat_ok (d.fact 30 (f := .noat "Meter" "spent") (by rfl)),
    g_Meter := He.glo_ok X G (d.fact 24 (f := .glo "Meter") (by rfl)),
    cl_FractionChain := He.cls_ok (d.fact 32 (f := .cls "FractionChain") (by rfl)),
    n_FractionChain_top := He.noat_ok (d.fact 36 (f := .noat "FractionChain" "top") (by rfl)),
    n_FractionChain_below := He.noat_ok (d.fact 37 (f := .noat "FractionChain" "below") (by rfl)),
    g_FractionChain := He.glo_ok X G (d.fact 31 (f := .glo "FractionChain") (by rfl)),
    cl_RootChain := He.cls_ok (d.fact 39 (f := .cls "RootChain") (by rfl)),
    n_RootChain_top := He.noat_ok (d.fact 44 (f := .noat "RootChain" "top") (by rfl)),
    n_RootChain_square := He.noat_ok (d.fact 45 (f := .noat "RootChain" "square") (by rfl)),
    n_RootChain_below := He.noat_ok (d.fact 46 (f := .noat "RootChain" "below") (by rfl)),
    n_RootChain_root := He.noat_ok (d.fact 47 (f := .noat "RootChain" "root") (by rfl)),
    g_RootChain := He.glo_ok X G (d.fact 38 (f := .glo "RootChain") (by rfl)),
    cl_RuledChain := He.cls_ok (d.fact 49 (f := .cls "RuledChain") (by rfl)),
    n_RuledChain_parts := He.noat_ok (d.fact 53 (f := .noat "RuledChain" "parts") (by rfl)),
    n_RuledChain_ring := He.noat_ok (d.fact 54 (f := .noat "RuledChain" "ring") (by rfl)),
    n_RuledChain_steps := He.noat_ok (d.fact 55 (f := .noat "RuledChain" "steps") (by rfl)),
    n_RuledChain_at := He.noat_ok (d.fact 56 (f := .noat "RuledChain" "at") (by rfl)),
    g_RuledChain := He.glo_ok X G (d.fact 48 (f := .glo "RuledChain") (by rfl)),
    cl_Leaf := He.cls_ok (d.fact 58 (f := .cls "Leaf") (by rfl)),
    n_Leaf_chain := He.noat_ok (d.fact 61 (f := .noat "Leaf" "chain") (by rfl)),
    g_Leaf := He.glo_ok X G (d.fact 57 (f := .glo "Leaf") (by rfl)),
    cl_FractionBox := He.cls_ok (d.fact 65 (f := .cls "FractionBox") (by rfl)),
    n_FractionBox_top := He.noat_ok (d.fact 69 (f := .noat "FractionBox" "top") (by rfl)),
    n_FractionBox_below := He.noat_ok (d.fact 70 (f := .noat "FractionBox" "below") (by rfl)),
    n_FractionBox_told := He.noat_ok (d.fact 71 (f := .noat "FractionBox" "told") (by rfl)),
    g_FractionBox := He.glo_ok X G (d.fact 64 (f := .glo "FractionBox") (by rfl)),
    cl_FourBox := He.cls_ok (d.fact 73 (f := .cls "FourBox") (by rfl)),
    n_FourBox_numbers := He.noat_ok (d.fact 78 (f := .noat "FourBox" "numbers") (by rfl)),
    n_FourBox_tree := He.noat_ok (d.fact 79 (f := .noat "FourBox" "tree") (by rfl)),
    n_FourBox_started := He.noat_ok (d.fact 80 (f := .noat "FourBox" "started") (by rfl)),
    n_FourBox_told := He.noat_ok (d.fact 81 (f := .noat "FourBox" "told") (by rfl)),
    n_FourBox_rest := He.noat_ok (d.fact 82 (f := .noat "FourBox" "rest") (by rfl)),
    g_FourBox := He.glo_ok X G (d.fact 72 (f := .glo "FourBox") (by rfl)),
    cl_EightBox := He.cls_ok (d.fact 84 (f := .cls "EightBox") (by rfl)),
    n_EightBox_numbers := He.noat_ok (d.fact 90 (f := .noat "EightBox" "numbers") (by rfl)),
    n_EightBox_trees := He.noat_ok (d.fact 91 (f := .noat "EightBox" "trees") (by rfl)),
    n_EightBox_taken := He.noat_ok (d.fact 92 (f := .noat "EightBox" "taken") (by rfl)),
    n_EightBox_told := He.noat_ok (d.fact 93 (f := .noat "EightBox" "told") (by rfl)),
    n_EightBox_rest := He.noat_ok (d.fact 94 (f := .noat "EightBox" "rest") (by rfl)),
    g_EightBox := He.glo_ok X G (d.fact 83 (f := .glo "EightBox") (by rfl)),
    cl_Reading := He.cls_ok (d.fact 122 (f := .cls "Reading") (by rfl)),
    n_Reading_box := He.noat_ok (d.fact 126 (f := .noat "Reading" "box") (by rfl)),
    n_Reading_meter := He.noat_ok (d.fact 127 (f := .noat "Reading" "meter") (by rfl)),
    g_Reading := He.glo_ok X G (d.fact 121 (f := .glo "Reading") (by rfl)),
    g_END := He.glo_ok X G (d.fact 22 (f := .glo "END") (by rfl)),
    t_END := fun H => He.tupB_ok e0 H,
    g_WAITS := He.glo_ok X G (d.fact 23 (f := .glo "WAITS") (by rfl)),
    t_WAITS := fun H => He.tupB_ok e1 H,
    g_TIMES := He.glo_ok X G (d.fact 120 (f := .glo "TIMES") (by rfl)),
    t_TIMES := fun H => He.tupB_ok e4 H,
    i_MOST_NUMBER := He.int_ok X G (d.fact 102 (f := .int "MOST_NUMBER" 1000000000000) (by rfl)),
    i_MOST_DEPTH := He.int_ok X G (d.fact 103 (f := .int "MOST_DEPTH" 5) (by rfl)),
    i_MOST_PARTS := He.int_ok X G (d.fact 104 (f := .int "MOST_PARTS" 12) (by rfl)),
    i_MOST_POWER := He.int_ok X G (d.fact 105 (f := .int "MOST_POWER" 4) (by rfl)),
    g_LENGTHS := He.glo_ok X G (d.fact 118 (f := .glo "LENGTHS") (by rfl)),
    g_CHECKS := He.glo_ok X G (d.fact 119 (f := .glo "CHECKS") (by rfl)),
    x_NoValue := ⟨He.glo_ok X G (d.fact 20 (f := .glo "NoValue") (by rfl)), (He.exc_ok (d.fact 16 (f := .exc "NoValue") (by rfl))).1, (He.exc_ok (d.fact 16 (f := .exc "NoValue") (by rfl))).2.1, (He.exc_ok (d.fact 16 (f := .exc "NoValue") (by rfl))).2.2.1, (He.exc_ok (d.fact 16 (f := .exc "NoValue") (by rfl))).2.2.2⟩ }
theorem tb_of (X : K.In h) (G : h.Ns mainGlobals mg) (c : He.SaysX faL fnL tsL [] exL w h K) : TB K w mg (adOf K) := by
  have d := c.t.d
  have ex : exL K = true := c.more
  obtain ⟨e0, ex⟩ := He.ba ex
  obtain ⟨e1, ex⟩ := He.ba ex
  obtain ⟨e2, ex⟩ := He.ba ex
  obtain ⟨e3, ex⟩ := He.ba ex
  have e4 := ex
  refine ⟨c.t.tab 0 (t := (fun K => He.ga K "LENGTHS", ["fraction", "root", "ruled", "four", "eight", "power"])) (by rfl), c.t.tab 1 (t := (fun K => He.ga K "CHECKS", ["fraction", "root", "ruled", "four", "eight", "power"])) (by rfl), fun x n hm => ?_, fun x y f hm hf => ?_⟩
  · simp only [List.mem_cons, Prod.mk.injEq, List.not_mem_nil, or_false] at hm
    rcases hm with ⟨rfl, rfl⟩ | ⟨rfl, rfl⟩ | ⟨rfl, rfl⟩ | ⟨rfl, rfl⟩ | ⟨rfl, rfl⟩ | ⟨rfl, rfl⟩
    · obtain ⟨u, e, t, rfl⟩ := He.valsB_ok e2 (q := ("fraction", .int 3)) (by simp)
      exact ⟨t, e⟩
    · obtain ⟨u, e, t, rfl⟩ := He.valsB_ok e2 (q := ("root", .int 4)) (by simp)
      exact ⟨t, e⟩
    · obtain ⟨u, e, t, rfl⟩ := He.valsB_ok e2 (q := ("ruled", .int 4)) (by simp)
      exact ⟨t, e⟩
    · obtain ⟨u, e, t, rfl⟩ := He.valsB_ok e2 (q := ("four", .int 3)) (by simp)
      exact ⟨t, e⟩
    · obtain ⟨u, e, t, rfl⟩ := He.valsB_ok e2 (q := ("eight", .int 4)) (by simp)
      exact ⟨t, e⟩
    · obtain ⟨u, e, t, rfl⟩ := He.valsB_ok e2 (q := ("power", .int 3)) (by simp)
      exact ⟨t, e⟩
  · simp only [List.mem_cons, Prod.mk.injEq, List.not_mem_nil, or_false] at hm
    rcases hm with ⟨rfl, rfl⟩ | ⟨rfl, rfl⟩ | ⟨rfl, rfl⟩ | ⟨rfl, rfl⟩ | ⟨rfl, rfl⟩ | ⟨rfl, rfl⟩
    · obtain ⟨u, e, r⟩ := He.valsB_ok e3 (q := ("fraction", .glo "check_fraction")) (by simp)
      have g := (He.glo_ok X G (d.fact 111 (f := .glo "check_fraction") (by rfl))).symm.trans hf
      cases g
      cases r
      exact e
    · obtain ⟨u, e, r⟩ := He.valsB_ok e3 (q := ("root", .glo "check_root")) (by simp)
      have g := (He.glo_ok X G (d.fact 112 (f := .glo "check_root") (by rfl))).symm.trans hf
      cases g
      cases r
      exact e
    · obtain ⟨u, e, r⟩ := He.valsB_ok e3 (q := ("ruled", .glo "check_ruled")) (by simp)
      have g := (He.glo_ok X G (d.fact 113 (f := .glo "check_ruled") (by rfl))).symm.trans hf
      cases g
      cases r
      exact e
    · obtain ⟨u, e, r⟩ := He.valsB_ok e3 (q := ("four", .glo "check_four")) (by simp)
      have g := (He.glo_ok X G (d.fact 114 (f := .glo "check_four") (by rfl))).symm.trans hf
      cases g
      cases r
      exact e
    · obtain ⟨u, e, r⟩ := He.valsB_ok e3 (q := ("eight", .glo "check_eight")) (by simp)
      have g := (He.glo_ok X G (d.fact 115 (f := .glo "check_eight") (by rfl))).symm.trans hf
      cases g
      cases r
      exact e
    · obtain ⟨u, e, r⟩ := He.valsB_ok e3 (q := ("power", .glo "check_power")) (by simp)
      have g := (He.glo_ok X G (d.fact 117 (f := .glo "check_power") (by rfl))).symm.trans hf
      cases g
      cases r
      exact e
theorem dt_of (X : K.In h) (G : h.Ns mainGlobals mg) (c : He.SaysX faL fnL tsL [] exL w h K) : DT K mg (adOf K) := by
  have d := c.t.d
  exact {
    wall := by
      obtain ⟨fd, F0⟩ := d.def_ 0 (d := d_wall) (by rfl)
      have F := fun_ofD (st := s_wall) F0
      exact ⟨_, fd, F, He.glo_ok X G (d.fact 17 (f := .glo "_wall") (by rfl)), (F.binds (ps := ["k"]) fun _ _ _ _ _ _ us hl => match us, hl with | [_], _ => rfl)⟩
    root_below := by
      obtain ⟨fd, F0⟩ := d.def_ 1 (d := d_root_below) (by rfl)
      have F := fun_ofD (st := s_root_below) F0
      exact ⟨_, fd, F, He.glo_ok X G (d.fact 21 (f := .glo "root_below") (by rfl)), (F.binds (ps := ["number"]) fun _ _ _ _ _ _ us hl => match us, hl with | [_], _ => rfl)⟩
    Meter_init := by
      obtain ⟨fd, F0⟩ := d.def_ 2 (d := d_Meter_init) (by rfl)
      have F := fun_ofD (st := s_Meter_init) F0
      exact ⟨_, fd, F, He.mkr_ok (d.fact 26 (f := .mkr "Meter") (by rfl)), (F.binds (ps := ["self"]) fun _ _ _ _ _ _ us hl => match us, hl with | [_], _ => rfl)⟩
    Meter_allow := by
      obtain ⟨fd, F0⟩ := d.def_ 3 (d := d_Meter_allow) (by rfl)
      have F := fun_ofD (st := s_Meter_allow) F0
      exact ⟨_, fd, F, He.meth_ok (d.fact 27 (f := .meth "Meter" "allow") (by rfl)), (F.binds (ps := ["self", "most"]) fun _ _ _ _ _ _ us hl => match us, hl with | [_, _], _ => rfl)⟩
    Meter_pay := by
      obtain ⟨fd, F0⟩ := d.def_ 4 (d := d_Meter_pay) (by rfl)
      have F := fun_ofD (st := s_Meter_pay) F0
      exact ⟨_, fd, F, He.meth_ok (d.fact 28 (f := .meth "Meter" "pay") (by rfl)), (F.binds (ps := ["self"]) fun _ _ _ _ _ _ us hl => match us, hl with | [_], _ => rfl)⟩
    FractionChain_init := by
      obtain ⟨fd, F0⟩ := d.def_ 5 (d := d_FractionChain_init) (by rfl)
      have F := fun_ofD (st := s_FractionChain_init) F0
      exact ⟨_, fd, F, He.mkr_ok (d.fact 33 (f := .mkr "FractionChain") (by rfl)), (F.binds (ps := ["self", "top", "below"]) fun _ _ _ _ _ _ us hl => match us, hl with | [_, _, _], _ => rfl)⟩
    FractionChain_has_ended := by
      obtain ⟨fd, F0⟩ := d.def_ 6 (d := d_FractionChain_has_ended) (by rfl)
      have F := fun_ofD (st := s_FractionChain_has_ended) F0
      exact ⟨_, fd, F, He.meth_ok (d.fact 34 (f := .meth "FractionChain" "has_ended") (by rfl)), (F.binds (ps := ["self"]) fun _ _ _ _ _ _ us hl => match us, hl with | [_], _ => rfl)⟩
    FractionChain_next_part := by
      obtain ⟨fd, F0⟩ := d.def_ 7 (d := d_FractionChain_next_part) (by rfl)
      have F := fun_ofD (st := s_FractionChain_next_part) F0
      exact ⟨_, fd, F, He.meth_ok (d.fact 35 (f := .meth "FractionChain" "next_part") (by rfl)), (F.binds (ps := ["self"]) fun _ _ _ _ _ _ us hl => match us, hl with | [_], _ => rfl)⟩
    RootChain_init := by
      obtain ⟨fd, F0⟩ := d.def_ 8 (d := d_RootChain_init) (by rfl)
      have F := fun_ofD (st := s_RootChain_init) F0
      exact ⟨_, fd, F, He.mkr_ok (d.fact 40 (f := .mkr "RootChain") (by rfl)), (F.binds (ps := ["self", "top", "square", "below"]) fun _ _ _ _ _ _ us hl => match us, hl with | [_, _, _, _], _ => rfl)⟩
    RootChain_has_ended := by
      obtain ⟨fd, F0⟩ := d.def_ 9 (d := d_RootChain_has_ended) (by rfl)
      have F := fun_ofD (st := s_RootChain_has_ended) F0
      exact ⟨_, fd, F, He.meth_ok (d.fact 41 (f := .meth "RootChain" "has_ended") (by rfl)), (F.binds (ps := ["self"]) fun _ _ _ _ _ _ us hl => match us, hl with | [_], _ => rfl)⟩
    RootChain_next_part := by
      obtain ⟨fd, F0⟩ := d.def_ 10 (d := d_RootChain_next_part) (by rfl)
      have F := fun_ofD (st := s_RootChain_next_part) F0
      exact ⟨_, fd, F, He.meth_ok (d.fact 42 (f := .meth "RootChain" "next_part") (by rfl)), (F.binds (ps := ["self"]) fun _ _ _ _ _ _ us hl => match us, hl with | [_], _ => rfl)⟩
    RootChain_what_is_left := by
      obtain ⟨fd, F0⟩ := d.def_ 11 (d := d_RootChain_what_is_left) (by rfl)
      have F := fun_ofD (st := s_RootChain_what_is_left) F0
      exact ⟨_, fd, F, He.meth_ok (d.fact 43 (f := .meth "RootChain" "what_is_left") (by rfl)), (F.binds (ps := ["self"]) fun _ _ _ _ _ _ us hl => match us, hl with | [_], _ => rfl)⟩
    RuledChain_init := by
      obtain ⟨fd, F0⟩ := d.def_ 12 (d := d_RuledChain_init) (by rfl)
      have F := fun_ofD (st := s_RuledChain_init) F0
      exact ⟨_, fd, F, He.mkr_ok (d.fact 50 (f := .mkr "RuledChain") (by rfl)), (F.binds (ps := ["self", "parts", "ring", "steps"]) fun _ _ _ _ _ _ us hl => match us, hl with | [_, _, _, _], _ => rfl)⟩
    RuledChain_has_ended := by
      obtain ⟨fd, F0⟩ := d.def_ 13 (d := d_RuledChain_has_ended) (by rfl)
      have F := fun_ofD (st := s_RuledChain_has_ended) F0
      exact ⟨_, fd, F, He.meth_ok (d.fact 51 (f := .meth "RuledChain" "has_ended") (by rfl)), (F.binds (ps := ["self"]) fun _ _ _ _ _ _ us hl => match us, hl with | [_], _ => rfl)⟩
    RuledChain_next_part := by
      obtain ⟨fd, F0⟩ := d.def_ 14 (d := d_RuledChain_next_part) (by rfl)
      have F := fun_ofD (st := s_RuledChain_next_part) F0
      exact ⟨_, fd, F, He.meth_ok (d.fact 52 (f := .meth "RuledChain" "next_part") (by rfl)), (F.binds (ps := ["self"]) fun _ _ _ _ _ _ us hl => match us, hl with | [_], _ => rfl)⟩
    Leaf_init := by
      obtain ⟨fd, F0⟩ := d.def_ 15 (d := d_Leaf_init) (by rfl)
      have F := fun_ofD (st := s_Leaf_init) F0
      exact ⟨_, fd, F, He.mkr_ok (d.fact 59 (f := .mkr "Leaf") (by rfl)), (F.binds (ps := ["self", "chain"]) fun _ _ _ _ _ _ us hl => match us, hl with | [_, _], _ => rfl)⟩
    Leaf_ask := by
      obtain ⟨fd, F0⟩ := d.def_ 16 (d := d_Leaf_ask) (by rfl)
      have F := fun_ofD (st := s_Leaf_ask) F0
      exact ⟨_, fd, F, He.meth_ok (d.fact 60 (f := .meth "Leaf" "ask") (by rfl)), (F.binds (ps := ["self", "meter"]) fun _ _ _ _ _ _ us hl => match us, hl with | [_, _], _ => rfl)⟩
    leaf_of := by
      obtain ⟨fd, F0⟩ := d.def_ 17 (d := d_leaf_of) (by rfl)
      have F := fun_ofD (st := s_leaf_of) F0
      exact ⟨_, fd, F, He.glo_ok X G (d.fact 62 (f := .glo "leaf_of") (by rfl)), (F.binds (ps := ["tree"]) fun _ _ _ _ _ _ us hl => match us, hl with | [_], _ => rfl)⟩
    root_chain := by
      obtain ⟨fd, F0⟩ := d.def_ 18 (d := d_root_chain) (by rfl)
      have F := fun_ofD (st := s_root_chain) F0
      exact ⟨_, fd, F, He.glo_ok X G (d.fact 63 (f := .glo "root_chain") (by rfl)), (F.binds (ps := ["top", "square", "below"]) fun _ _ _ _ _ _ us hl => match us, hl with | [_, _, _], _ => rfl)⟩
    FractionBox_init := by
      obtain ⟨fd, F0⟩ := d.def_ 19 (d := d_FractionBox_init) (by rfl)
      have F := fun_ofD (st := s_FractionBox_init) F0
      exact ⟨_, fd, F, He.mkr_ok (d.fact 66 (f := .mkr "FractionBox") (by rfl)), (F.binds (ps := ["self", "top", "below", "told"]) fun _ _ _ _ _ _ us hl => match us, hl with | [_, _, _, _], _ => rfl)⟩
    FractionBox_ask := by
      obtain ⟨fd, F0⟩ := d.def_ 20 (d := d_FractionBox_ask) (by rfl)
      have F := fun_ofD (st := s_FractionBox_ask) F0
      exact ⟨_, fd, F, He.meth_ok (d.fact 67 (f := .meth "FractionBox" "ask") (by rfl)), (F.binds (ps := ["self", "meter"]) fun _ _ _ _ _ _ us hl => match us, hl with | [_, _], _ => rfl)⟩
    FractionBox_nothing_left := by
      obtain ⟨fd, F0⟩ := d.def_ 21 (d := d_FractionBox_nothing_left) (by rfl)
      have F := fun_ofD (st := s_FractionBox_nothing_left) F0
      exact ⟨_, fd, F, He.meth_ok (d.fact 68 (f := .meth "FractionBox" "nothing_left") (by rfl)), (F.binds (ps := ["self"]) fun _ _ _ _ _ _ us hl => match us, hl with | [_], _ => rfl)⟩
    FourBox_init := by
      obtain ⟨fd, F0⟩ := d.def_ 22 (d := d_FourBox_init) (by rfl)
      have F := fun_ofD (st := s_FourBox_init) F0
      exact ⟨_, fd, F, He.mkr_ok (d.fact 74 (f := .mkr "FourBox") (by rfl)), (F.binds (ps := ["self", "numbers", "tree", "started", "told"]) fun _ _ _ _ _ _ us hl => match us, hl with | [_, _, _, _, _], _ => rfl)⟩
    FourBox_ask := by
      obtain ⟨fd, F0⟩ := d.def_ 23 (d := d_FourBox_ask) (by rfl)
      have F := fun_ofD (st := s_FourBox_ask) F0
      exact ⟨_, fd, F, He.meth_ok (d.fact 75 (f := .meth "FourBox" "ask") (by rfl)), (F.binds (ps := ["self", "meter"]) fun _ _ _ _ _ _ us hl => match us, hl with | [_, _], _ => rfl)⟩
    FourBox_tell := by
      obtain ⟨fd, F0⟩ := d.def_ 24 (d := d_FourBox_tell) (by rfl)
      have F := fun_ofD (st := s_FourBox_tell) F0
      exact ⟨_, fd, F, He.meth_ok (d.fact 76 (f := .meth "FourBox" "tell") (by rfl)), (F.binds (ps := ["self", "part"]) fun _ _ _ _ _ _ us hl => match us, hl with | [_, _], _ => rfl)⟩
    FourBox_take := by
      obtain ⟨fd, F0⟩ := d.def_ 25 (d := d_FourBox_take) (by rfl)
      have F := fun_ofD (st := s_FourBox_take) F0
      exact ⟨_, fd, F, He.meth_ok (d.fact 77 (f := .meth "FourBox" "take") (by rfl)), (F.binds (ps := ["self", "answer"]) fun _ _ _ _ _ _ us hl => match us, hl with | [_, _], _ => rfl)⟩
    EightBox_init := by
      obtain ⟨fd, F0⟩ := d.def_ 26 (d := d_EightBox_init) (by rfl)
      have F := fun_ofD (st := s_EightBox_init) F0
      exact ⟨_, fd, F, He.mkr_ok (d.fact 85 (f := .mkr "EightBox") (by rfl)), (F.binds (ps := ["self", "numbers", "one", "other"]) fun _ _ _ _ _ _ us hl => match us, hl with | [_, _, _, _], _ => rfl)⟩
    EightBox_ask := by
      obtain ⟨fd, F0⟩ := d.def_ 27 (d := d_EightBox_ask) (by rfl)
      have F := fun_ofD (st := s_EightBox_ask) F0
      exact ⟨_, fd, F, He.meth_ok (d.fact 86 (f := .meth "EightBox" "ask") (by rfl)), (F.binds (ps := ["self", "meter"]) fun _ _ _ _ _ _ us hl => match us, hl with | [_, _], _ => rfl)⟩
    EightBox_tell := by
      obtain ⟨fd, F0⟩ := d.def_ 28 (d := d_EightBox_tell) (by rfl)
      have F := fun_ofD (st := s_EightBox_tell) F0
      exact ⟨_, fd, F, He.meth_ok (d.fact 87 (f := .meth "EightBox" "tell") (by rfl)), (F.binds (ps := ["self", "part"]) fun _ _ _ _ _ _ us hl => match us, hl with | [_, _], _ => rfl)⟩
    EightBox_take := by
      obtain ⟨fd, F0⟩ := d.def_ 29 (d := d_EightBox_take) (by rfl)
      have F := fun_ofD (st := s_EightBox_take) F0
      exact ⟨_, fd, F, He.meth_ok (d.fact 88 (f := .meth "EightBox" "take") (by rfl)), (F.binds (ps := ["self", "which", "answer"]) fun _ _ _ _ _ _ us hl => match us, hl with | [_, _, _], _ => rfl)⟩
    EightBox_left_without := by
      obtain ⟨fd, F0⟩ := d.def_ 30 (d := d_EightBox_left_without) (by rfl)
      have F := fun_ofD (st := s_EightBox_left_without) F0
      exact ⟨_, fd, F, He.meth_ok (d.fact 89 (f := .meth "EightBox" "left_without") (by rfl)), (F.binds (ps := ["self", "which"]) fun _ _ _ _ _ _ us hl => match us, hl with | [_, _], _ => rfl)⟩
    box_of_one := by
      obtain ⟨fd, F0⟩ := d.def_ 31 (d := d_box_of_one) (by rfl)
      have F := fun_ofD (st := s_box_of_one) F0
      exact ⟨_, fd, F, He.glo_ok X G (d.fact 95 (f := .glo "box_of_one") (by rfl)), (F.binds (ps := ["numbers", "tree", "told"]) fun _ _ _ _ _ _ us hl => match us, hl with | [_, _, _], _ => rfl)⟩
    with_first_part := by
      obtain ⟨fd, F0⟩ := d.def_ 32 (d := d_with_first_part) (by rfl)
      have F := fun_ofD (st := s_with_first_part) F0
      exact ⟨_, fd, F, He.glo_ok X G (d.fact 96 (f := .glo "with_first_part") (by rfl)), (F.binds (ps := ["numbers", "part"]) fun _ _ _ _ _ _ us hl => match us, hl with | [_, _], _ => rfl)⟩
    with_second_part := by
      obtain ⟨fd, F0⟩ := d.def_ 33 (d := d_with_second_part) (by rfl)
      have F := fun_ofD (st := s_with_second_part) F0
      exact ⟨_, fd, F, He.glo_ok X G (d.fact 97 (f := .glo "with_second_part") (by rfl)), (F.binds (ps := ["numbers", "part"]) fun _ _ _ _ _ _ us hl => match us, hl with | [_, _], _ => rfl)⟩
    turned_over := by
      obtain ⟨fd, F0⟩ := d.def_ 34 (d := d_turned_over) (by rfl)
      have F := fun_ofD (st := s_turned_over) F0
      exact ⟨_, fd, F, He.glo_ok X G (d.fact 98 (f := .glo "turned_over") (by rfl)), (F.binds (ps := ["numbers", "part"]) fun _ _ _ _ _ _ us hl => match us, hl with | [_, _], _ => rfl)⟩
    four_corners := by
      obtain ⟨fd, F0⟩ := d.def_ 35 (d := d_four_corners) (by rfl)
      have F := fun_ofD (st := s_four_corners) F0
      exact ⟨_, fd, F, He.glo_ok X G (d.fact 99 (f := .glo "four_corners") (by rfl)), (F.binds (ps := ["numbers"]) fun _ _ _ _ _ _ us hl => match us, hl with | [_], _ => rfl)⟩
    eight_corners := by
      obtain ⟨fd, F0⟩ := d.def_ 36 (d := d_eight_corners) (by rfl)
      have F := fun_ofD (st := s_eight_corners) F0
      exact ⟨_, fd, F, He.glo_ok X G (d.fact 100 (f := .glo "eight_corners") (by rfl)), (F.binds (ps := ["numbers"]) fun _ _ _ _ _ _ us hl => match us, hl with | [_], _ => rfl)⟩
    sure_part := by
      obtain ⟨fd, F0⟩ := d.def_ 37 (d := d_sure_part) (by rfl)
      have F := fun_ofD (st := s_sure_part) F0
      exact ⟨_, fd, F, He.glo_ok X G (d.fact 101 (f := .glo "sure_part") (by rfl)), (F.binds (ps := ["corners"]) fun _ _ _ _ _ _ us hl => match us, hl with | [_], _ => rfl)⟩
    check_tree := by
      obtain ⟨fd, F0⟩ := d.def_ 38 (d := d_check_tree) (by rfl)
      have F := fun_ofD (st := s_check_tree) F0
      exact ⟨_, fd, F, He.glo_ok X G (d.fact 106 (f := .glo "check_tree") (by rfl)), (F.binds (ps := ["tree"]) fun _ _ _ _ _ _ us hl => match us, hl with | [_], _ => rfl)⟩
    check_at_depth := by
      obtain ⟨fd, F0⟩ := d.def_ 39 (d := d_check_at_depth) (by rfl)
      have F := fun_ofD (st := s_check_at_depth) F0
      exact ⟨_, fd, F, He.glo_ok X G (d.fact 107 (f := .glo "check_at_depth") (by rfl)), (F.binds (ps := ["tree", "depth"]) fun _ _ _ _ _ _ us hl => match us, hl with | [_, _], _ => rfl)⟩
    require := by
      obtain ⟨fd, F0⟩ := d.def_ 40 (d := d_require) (by rfl)
      have F := fun_ofD (st := s_require) F0
      exact ⟨_, fd, F, He.glo_ok X G (d.fact 108 (f := .glo "require") (by rfl)), (F.binds (ps := ["holds", "why"]) fun _ _ _ _ _ _ us hl => match us, hl with | [_, _], _ => rfl)⟩
    check_row := by
      obtain ⟨fd, F0⟩ := d.def_ 41 (d := d_check_row) (by rfl)
      have F := fun_ofD (st := s_check_row) F0
      exact ⟨_, fd, F, He.glo_ok X G (d.fact 109 (f := .glo "check_row") (by rfl)), (F.binds (ps := ["row", "fewest", "most"]) fun _ _ _ _ _ _ us hl => match us, hl with | [_, _, _], _ => rfl)⟩
    is_whole := by
      obtain ⟨fd, F0⟩ := d.def_ 42 (d := d_is_whole) (by rfl)
      have F := fun_ofD (st := s_is_whole) F0
      exact ⟨_, fd, F, He.glo_ok X G (d.fact 110 (f := .glo "is_whole") (by rfl)), (F.binds (ps := ["number"]) fun _ _ _ _ _ _ us hl => match us, hl with | [_], _ => rfl)⟩
    check_fraction := by
      obtain ⟨fd, F0⟩ := d.def_ 43 (d := d_check_fraction) (by rfl)
      have F := fun_ofD (st := s_check_fraction) F0
      exact ⟨_, fd, F, He.glo_ok X G (d.fact 111 (f := .glo "check_fraction") (by rfl)), (F.binds (ps := ["tree", "depth"]) fun _ _ _ _ _ _ us hl => match us, hl with | [_, _], _ => rfl)⟩
    check_root := by
      obtain ⟨fd, F0⟩ := d.def_ 44 (d := d_check_root) (by rfl)
      have F := fun_ofD (st := s_check_root) F0
      exact ⟨_, fd, F, He.glo_ok X G (d.fact 112 (f := .glo "check_root") (by rfl)), (F.binds (ps := ["tree", "depth"]) fun _ _ _ _ _ _ us hl => match us, hl with | [_, _], _ => rfl)⟩
    check_ruled := by
      obtain ⟨fd, F0⟩ := d.def_ 45 (d := d_check_ruled) (by rfl)
      have F := fun_ofD (st := s_check_ruled) F0
      exact ⟨_, fd, F, He.glo_ok X G (d.fact 113 (f := .glo "check_ruled") (by rfl)), (F.binds (ps := ["tree", "depth"]) fun _ _ _ _ _ _ us hl => match us, hl with | [_, _], _ => rfl)⟩
    check_four := by
      obtain ⟨fd, F0⟩ := d.def_ 46 (d := d_check_four) (by rfl)
      have F := fun_ofD (st := s_check_four) F0
      exact ⟨_, fd, F, He.glo_ok X G (d.fact 114 (f := .glo "check_four") (by rfl)), (F.binds (ps := ["tree", "depth"]) fun _ _ _ _ _ _ us hl => match us, hl with | [_, _], _ => rfl)⟩
    check_eight := by
      obtain ⟨fd, F0⟩ := d.def_ 47 (d := d_check_eight) (by rfl)
      have F := fun_ofD (st := s_check_eight) F0
      exact ⟨_, fd, F, He.glo_ok X G (d.fact 115 (f := .glo "check_eight") (by rfl)), (F.binds (ps := ["tree", "depth"]) fun _ _ _ _ _ _ us hl => match us, hl with | [_, _], _ => rfl)⟩
    check_line := by
      obtain ⟨fd, F0⟩ := d.def_ 48 (d := d_check_line) (by rfl)
      have F := fun_ofD (st := s_check_line) F0
      exact ⟨_, fd, F, He.glo_ok X G (d.fact 116 (f := .glo "check_line") (by rfl)), (F.binds (ps := ["numbers"]) fun _ _ _ _ _ _ us hl => match us, hl with | [_], _ => rfl)⟩
    check_power := by
      obtain ⟨fd, F0⟩ := d.def_ 49 (d := d_check_power) (by rfl)
      have F := fun_ofD (st := s_check_power) F0
      exact ⟨_, fd, F, He.glo_ok X G (d.fact 117 (f := .glo "check_power") (by rfl)), (F.binds (ps := ["tree", "depth"]) fun _ _ _ _ _ _ us hl => match us, hl with | [_, _], _ => rfl)⟩
    Reading_init := by
      obtain ⟨fd, F0⟩ := d.def_ 50 (d := d_Reading_init) (by rfl)
      have F := fun_ofD (st := s_Reading_init) F0
      exact ⟨_, fd, F, He.mkr_ok (d.fact 123 (f := .mkr "Reading") (by rfl)), (F.binds (ps := ["self", "box"]) fun _ _ _ _ _ _ us hl => match us, hl with | [_, _], _ => rfl)⟩
    Reading_part := by
      obtain ⟨fd, F0⟩ := d.def_ 51 (d := d_Reading_part) (by rfl)
      have F := fun_ofD (st := s_Reading_part) F0
      exact ⟨_, fd, F, He.meth_ok (d.fact 124 (f := .meth "Reading" "part") (by rfl)), (F.binds (ps := ["self", "most"]) fun _ _ _ _ _ _ us hl => match us, hl with | [_, _], _ => rfl)⟩
    Reading_took := by
      obtain ⟨fd, F0⟩ := d.def_ 52 (d := d_Reading_took) (by rfl)
      have F := fun_ofD (st := s_Reading_took) F0
      exact ⟨_, fd, F, He.meth_ok (d.fact 125 (f := .meth "Reading" "took") (by rfl)), (F.binds (ps := ["self"]) fun _ _ _ _ _ _ us hl => match us, hl with | [_], _ => rfl)⟩
    reader := by
      obtain ⟨fd, F0⟩ := d.def_ 53 (d := d_reader) (by rfl)
      have F := fun_ofD (st := s_reader) F0
      exact ⟨_, fd, F, He.glo_ok X G (d.fact 128 (f := .glo "reader") (by rfl)), (F.binds (ps := ["tree"]) fun _ _ _ _ _ _ us hl => match us, hl with | [_], _ => rfl)⟩
    box_of := by
      obtain ⟨fd, F0⟩ := d.def_ 54 (d := d_box_of) (by rfl)
      have F := fun_ofD (st := s_box_of) F0
      exact ⟨_, fd, F, He.glo_ok X G (d.fact 129 (f := .glo "box_of") (by rfl)), (F.binds (ps := ["tree"]) fun _ _ _ _ _ _ us hl => match us, hl with | [_], _ => rfl)⟩
    power_box := by
      obtain ⟨fd, F0⟩ := d.def_ 55 (d := d_power_box) (by rfl)
      have F := fun_ofD (st := s_power_box) F0
      exact ⟨_, fd, F, He.glo_ok X G (d.fact 130 (f := .glo "power_box") (by rfl)), (F.binds (ps := ["tree", "times"]) fun _ _ _ _ _ _ us hl => match us, hl with | [_, _], _ => rfl)⟩
    order_of := by
      obtain ⟨fd, F0⟩ := d.def_ 56 (d := d_order_of) (by rfl)
      have F := fun_ofD (st := s_order_of) F0
      exact ⟨_, fd, F, He.glo_ok X G (d.fact 131 (f := .glo "order_of") (by rfl)), (F.binds (ps := ["one", "other", "most"]) fun _ _ _ _ _ _ us hl => match us, hl with | [_, _, _], _ => rfl)⟩
    order_at := by
      obtain ⟨fd, F0⟩ := d.def_ 57 (d := d_order_at) (by rfl)
      have F := fun_ofD (st := s_order_at) F0
      exact ⟨_, fd, F, He.glo_ok X G (d.fact 132 (f := .glo "order_at") (by rfl)), (F.binds (ps := ["at", "first", "second"]) fun _ _ _ _ _ _ us hl => match us, hl with | [_, _, _], _ => rfl)⟩
    is_greater := by
      obtain ⟨fd, F0⟩ := d.def_ 58 (d := d_is_greater) (by rfl)
      have F := fun_ofD (st := s_is_greater) F0
      exact ⟨_, fd, F, He.glo_ok X G (d.fact 133 (f := .glo "is_greater") (by rfl)), (F.binds (ps := ["first", "second"]) fun _ _ _ _ _ _ us hl => match us, hl with | [_, _], _ => rfl)⟩
    nearest := by
      obtain ⟨fd, F0⟩ := d.def_ 59 (d := d_nearest) (by rfl)
      have F := fun_ofD (st := s_nearest) F0
      exact ⟨_, fd, F, He.glo_ok X G (d.fact 134 (f := .glo "nearest") (by rfl)), (F.binds (ps := ["tree", "size", "most"]) fun _ _ _ _ _ _ us hl => match us, hl with | [_, _, _], _ => rfl)⟩
    read_sides := by
      obtain ⟨fd, F0⟩ := d.def_ 60 (d := d_read_sides) (by rfl)
      have F := fun_ofD (st := s_read_sides) F0
      exact ⟨_, fd, F, He.glo_ok X G (d.fact 135 (f := .glo "read_sides") (by rfl)), (F.binds (ps := ["reading", "size", "most"]) fun _ _ _ _ _ _ us hl => match us, hl with | [_, _, _], _ => rfl)⟩
    stepped := by
      obtain ⟨fd, F0⟩ := d.def_ 61 (d := d_stepped) (by rfl)
      have F := fun_ofD (st := s_stepped) F0
      exact ⟨_, fd, F, He.glo_ok X G (d.fact 136 (f := .glo "stepped") (by rfl)), (F.binds (ps := ["before", "last", "times"]) fun _ _ _ _ _ _ us hl => match us, hl with | [_, _, _], _ => rfl)⟩
    sides_within := by
      obtain ⟨fd, F0⟩ := d.def_ 62 (d := d_sides_within) (by rfl)
      have F := fun_ofD (st := s_sides_within) F0
      exact ⟨_, fd, F, He.glo_ok X G (d.fact 137 (f := .glo "sides_within") (by rfl)), (F.binds (ps := ["before", "last", "size"]) fun _ _ _ _ _ _ us hl => match us, hl with | [_, _, _], _ => rfl)⟩
    middle_reading := by
      obtain ⟨fd, F0⟩ := d.def_ 63 (d := d_middle_reading) (by rfl)
      have F := fun_ofD (st := s_middle_reading) F0
      exact ⟨_, fd, F, He.glo_ok X G (d.fact 138 (f := .glo "middle_reading") (by rfl)), (F.binds (ps := ["low", "high"]) fun _ _ _ _ _ _ us hl => match us, hl with | [_, _], _ => rfl)⟩
    nearer_side := by
      obtain ⟨fd, F0⟩ := d.def_ 64 (d := d_nearer_side) (by rfl)
      have F := fun_ofD (st := s_nearer_side) F0
      exact ⟨_, fd, F, He.glo_ok X G (d.fact 139 (f := .glo "nearer_side") (by rfl)), (F.binds (ps := ["order", "low", "high"]) fun _ _ _ _ _ _ us hl => match us, hl with | [_, _, _], _ => rfl)⟩
    law_row := by
      obtain ⟨fd, F0⟩ := d.def_ 65 (d := d_law_row) (by rfl)
      have F := fun_ofD (st := s_law_row) F0
      exact ⟨_, fd, F, He.glo_ok X G (d.fact 140 (f := .glo "_law_row") (by rfl)), (F.binds (ps := ["_law_script"]) fun _ _ _ _ _ _ us hl => match us, hl with | [_], _ => rfl)⟩
    law_taken := by
      obtain ⟨fd, F0⟩ := d.def_ 66 (d := d_law_taken) (by rfl)
      have F := fun_ofD (st := s_law_taken) F0
      exact ⟨_, fd, F, He.glo_ok X G (d.fact 141 (f := .glo "_law_taken") (by rfl)), (F.binds (ps := ["_law_row_here", "_law_many"]) fun _ _ _ _ _ _ us hl => match us, hl with | [_, _], _ => rfl)⟩
    law_whole := by
      obtain ⟨fd, F0⟩ := d.def_ 67 (d := d_law_whole) (by rfl)
      have F := fun_ofD (st := s_law_whole) F0
      exact ⟨_, fd, F, He.glo_ok X G (d.fact 142 (f := .glo "_law_whole") (by rfl)), (F.binds (ps := ["_law_found"]) fun _ _ _ _ _ _ us hl => match us, hl with | [_], _ => rfl)⟩
    law_pair := by
      obtain ⟨fd, F0⟩ := d.def_ 68 (d := d_law_pair) (by rfl)
      have F := fun_ofD (st := s_law_pair) F0
      exact ⟨_, fd, F, He.glo_ok X G (d.fact 143 (f := .glo "_law_pair") (by rfl)), (F.binds (ps := ["_law_found", "_law_due_here"]) fun _ _ _ _ _ _ us hl => match us, hl with | [_, _], _ => rfl)⟩
    law_signed := by
      obtain ⟨fd, F0⟩ := d.def_ 69 (d := d_law_signed) (by rfl)
      have F := fun_ofD (st := s_law_signed) F0
      exact ⟨_, fd, F, He.glo_ok X G (d.fact 144 (f := .glo "_law_signed") (by rfl)), (F.binds (ps := ["_law_row_here", "_law_most"]) fun _ _ _ _ _ _ us hl => match us, hl with | [_, _], _ => rfl)⟩
    law_common := by
      obtain ⟨fd, F0⟩ := d.def_ 70 (d := d_law_common) (by rfl)
      have F := fun_ofD (st := s_law_common) F0
      exact ⟨_, fd, F, He.glo_ok X G (d.fact 145 (f := .glo "_law_common") (by rfl)), (F.binds (ps := ["_law_one", "_law_other"]) fun _ _ _ _ _ _ us hl => match us, hl with | [_, _], _ => rfl)⟩
    law_lowest := by
      obtain ⟨fd, F0⟩ := d.def_ 71 (d := d_law_lowest) (by rfl)
      have F := fun_ofD (st := s_law_lowest) F0
      exact ⟨_, fd, F, He.glo_ok X G (d.fact 146 (f := .glo "_law_lowest") (by rfl)), (F.binds (ps := ["_law_top", "_law_below"]) fun _ _ _ _ _ _ us hl => match us, hl with | [_, _], _ => rfl)⟩
    law_nearer := by
      obtain ⟨fd, F0⟩ := d.def_ 72 (d := d_law_nearer) (by rfl)
      have F := fun_ofD (st := s_law_nearer) F0
      exact ⟨_, fd, F, He.glo_ok X G (d.fact 147 (f := .glo "_law_nearer") (by rfl)), (F.binds (ps := ["_law_one", "_law_other", "_law_top", "_law_below"]) fun _ _ _ _ _ _ us hl => match us, hl with | [_, _, _, _], _ => rfl)⟩
    law_due := by
      obtain ⟨fd, F0⟩ := d.def_ 73 (d := d_law_due) (by rfl)
      have F := fun_ofD (st := s_law_due) F0
      exact ⟨_, fd, F, He.glo_ok X G (d.fact 148 (f := .glo "_law_due") (by rfl)), (F.binds (ps := ["_law_top", "_law_below", "_law_size"]) fun _ _ _ _ _ _ us hl => match us, hl with | [_, _, _], _ => rfl)⟩
    law_chain := by
      obtain ⟨fd, F0⟩ := d.def_ 74 (d := d_law_chain) (by rfl)
      have F := fun_ofD (st := s_law_chain) F0
      exact ⟨_, fd, F, He.glo_ok X G (d.fact 149 (f := .glo "_law_chain") (by rfl)), (F.binds (ps := ["_law_top", "_law_below"]) fun _ _ _ _ _ _ us hl => match us, hl with | [_, _], _ => rfl)⟩
    law_first_wants := by
      obtain ⟨fd, F0⟩ := d.def_ 75 (d := d_law_first_wants) (by rfl)
      have F := fun_ofD (st := s_law_first_wants) F0
      exact ⟨_, fd, F, He.glo_ok X G (d.fact 150 (f := .glo "_law_first_wants") (by rfl)), (F.binds (ps := ["_law_chain_here", "_law_size"]) fun _ _ _ _ _ _ us hl => match us, hl with | [_, _], _ => rfl)⟩
    law_middle := by
      obtain ⟨fd, F0⟩ := d.def_ 76 (d := d_law_middle) (by rfl)
      have F := fun_ofD (st := s_law_middle) F0
      exact ⟨_, fd, F, He.glo_ok X G (d.fact 151 (f := .glo "_law_middle") (by rfl)), (F.binds (ps := ["_law_top", "_law_below", "_law_size"]) fun _ _ _ _ _ _ us hl => match us, hl with | [_, _, _], _ => rfl)⟩
    law_wants := by
      obtain ⟨fd, F0⟩ := d.def_ 77 (d := d_law_wants) (by rfl)
      have F := fun_ofD (st := s_law_wants) F0
      exact ⟨_, fd, F, He.glo_ok X G (d.fact 152 (f := .glo "_law_wants") (by rfl)), (F.binds (ps := ["_law_top", "_law_below", "_law_size"]) fun _ _ _ _ _ _ us hl => match us, hl with | [_, _, _], _ => rfl)⟩
    law := by
      obtain ⟨fd, F0⟩ := d.def_ 78 (d := d_law) (by rfl)
      have F := fun_ofD (st := s_law) F0
      exact ⟨_, fd, F, He.glo_ok X G (d.fact 153 (f := .glo "law") (by rfl)), (F.binds (ps := ["_law_script"]) fun _ _ _ _ _ _ us hl => match us, hl with | [_], _ => rfl)⟩ }
theorem facts {P : Program} {fa : Addr} (X : K.In h) (G : h.Ns mainGlobals mg) (hfa : mg "law" = some (.ref fa)) (c : He.SaysX faL fnL tsL [] exL w h K) :
    ∃ fd : FuncData, (∀ (s : Shared) (v : Value), BindsTo s fd ⟨[v], []⟩ [("_law_script", v)]) ∧ ∀ base : Heap, K.In base → base.Ns mainGlobals mg → FnOk P w K mg base CX0 30 fa fd ["_law_script"] (sp_law K) := by
  have T := ct_of X G c
  have TT := tb_of X G c
  have D := dt_of X G c
  obtain ⟨fd0, F0⟩ := c.t.d.def_ 78 (d := d_law) (by rfl)
  have e := hfa.symm.trans (He.glo_ok X G (c.t.d.fact 153 (f := .glo "law") (by rfl)))
  cases e
  refine ⟨fd0, fun s v => ?_, fun base _ _ => ?_⟩
  · exact (FunD.bindsA (ps := ["_law_script"]) F0 fun _ _ _ _ _ _ us hl => match us, hl with | [_], _ => rfl) s [v] rfl
  · exact ok_law T TT D (fun_ofD (st := s_law) F0)
end
end Cp
open PySem PySem.W PySem.Calls PyProof.Rows
set_option maxRecDepth 100000 in
set_option maxHeartbeats 0 in
theorem PySem.Challenge.cw_chainparts_k19_nearest_of_fractions_holds : PySem.Challenge.rw_chainparts_k19_nearest_of_fractions.Holds := by
  w_on; o_law
  refine HandSHeadRun.head_any (r := OpenLaw.row PySem.Challenge.rw_chainparts_k19_nearest_of_fractions) (q := view (OpenLaw.row PySem.Challenge.rw_chainparts_k19_nearest_of_fractions).prog [78]) (H := Cp.hk) (ob := Cp.ob) (M := 7500) (loose := Cp.looseL) (d := HandSHeadRun.topDef (OpenLaw.row PySem.Challenge.rw_chainparts_k19_nearest_of_fractions).prog 78) (kwd := []) Cp.ob_eq
    (by kernel_rfl) (fun s => by kernel_rfl) Cp.run (by kernel_rfl) (by kernel_rfl) (by kernel_rfl) (by rfl) (by first | assumption | decide +kernel) (by decide +kernel) ⟨rfl, rfl, rfl, rfl, rfl, by decide +kernel⟩ ?hw ?hc
  case hw => w_witness2
  case hc =>
    refine L2.walk_ofE (l := PySem.Challenge.rw_chainparts_k19_nearest_of_fractions) (n := 63) (k := 30) (x := "_law_script") (CX := L2.CX0) rfl (by decide) (by kernel_rfl) ⟨rfl, by decide, by decide⟩ ?F (fun _ _ _ _ z => z)
    intro w mg fa h Y G hmg0
    obtain ⟨K, KX, c⟩ := Y
    have hmg : mg ("law" : PySem.Str) = some (.ref fa) := by
      have e : (HandSHeadRun.topDef (OpenLaw.row PySem.Challenge.rw_chainparts_k19_nearest_of_fractions).prog 78).name = ("law" : PySem.Str) := by kernel_rfl
      rw [← e]
      exact hmg0
    obtain ⟨fd, hb, hF⟩ := Cp.facts (P := (PySem.Challenge.rw_chainparts_k19_nearest_of_fractions).prog) (w := w) KX G hmg c
    exact ⟨K, fd, Cp.sp_law K, KX, hb, fun H a ns hl hO hS => ⟨a, ns, rfl, Cp.ScrAt.of hO hS, hl, fun _ => rfl⟩, hF⟩
