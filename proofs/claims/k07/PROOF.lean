import PyProof.Rows.All
import Wide.All
import OpenK.AllK
import Wide.FinOn
import HandS.RaiseMore
import HandS.TupMul
import HandS.ForMost
import HandS.Style
import KE.KRevSl
import KE.KEqSeq
import HandS.Wide
import HandS.WideBits
import HandS.IsInst
import HandS.Codes
import HandS.More
import HandS.CallLocal
import HandS.TupAny
import HandS.Zip
import HandS.ForExc
import HandS.ExcIs
import HandS.Deep
import HandS.TryOnly
import KE.KStateDown
import HandS.ForExc
import HandS.Defaults
import HandS.Head0
import HandS.Head1
import HandS.Head2
import HandS.HeadEnd
import HandS.HeadHook1
import HandS.HeadHook2
import HandS.HeadHook3
import HandS.HeadHook4
import PySem.Challenge.RW_chainparts_k07_trees_that_are_none
set_option Elab.async false
set_option linter.all false
set_option maxRecDepth 100000
set_option maxHeartbeats 4000000
namespace Cp
open PySem L2
def topS (i : Nat) : Stmt := PySem.Challenge.pw_chainparts_k07_trees_that_are_none.main.body.getD i (.Pass ⟨0, 0, 0, 0⟩)
abbrev s_wall : Stmt := topS 0
theorem sc_wall : FnScope ["k"] ["k"] (defScope s_wall) := ⟨rfl, rfl, rfl, by decide +kernel, rfl, by decide +kernel, by decide +kernel⟩
abbrev s_root_below : Stmt := topS 7
theorem sc_root_below : FnScope ["number", "guess", "better"] ["number"] (defScope s_root_below) := ⟨rfl, rfl, rfl, by decide +kernel, rfl, by decide +kernel, by decide +kernel⟩
abbrev s_Meter_init : Stmt := inClass (topS 11) 0
theorem sc_Meter_init : FnScope ["self"] ["self"] (defScope s_Meter_init) := ⟨rfl, rfl, rfl, by decide +kernel, rfl, by decide +kernel, by decide +kernel⟩
abbrev s_Meter_allow : Stmt := inClass (topS 11) 1
theorem sc_Meter_allow : FnScope ["self", "most"] ["self", "most"] (defScope s_Meter_allow) := ⟨rfl, rfl, rfl, by decide +kernel, rfl, by decide +kernel, by decide +kernel⟩
abbrev s_Meter_pay : Stmt := inClass (topS 11) 2
theorem sc_Meter_pay : FnScope ["self"] ["self"] (defScope s_Meter_pay) := ⟨rfl, rfl, rfl, by decide +kernel, rfl, by decide +kernel, by decide +kernel⟩
abbrev s_FractionChain_init : Stmt := inClass (topS 12) 0
theorem sc_FractionChain_init : FnScope ["self", "top", "below"] ["self", "top", "below"] (defScope s_FractionChain_init) := ⟨rfl, rfl, rfl, by decide +kernel, rfl, by decide +kernel, by decide +kernel⟩
abbrev s_FractionChain_has_ended : Stmt := inClass (topS 12) 1
theorem sc_FractionChain_has_ended : FnScope ["self"] ["self"] (defScope s_FractionChain_has_ended) := ⟨rfl, rfl, rfl, by decide +kernel, rfl, by decide +kernel, by decide +kernel⟩
abbrev s_FractionChain_next_part : Stmt := inClass (topS 12) 2
theorem sc_FractionChain_next_part : FnScope ["self", "part"] ["self"] (defScope s_FractionChain_next_part) := ⟨rfl, rfl, rfl, by decide +kernel, rfl, by decide +kernel, by decide +kernel⟩
abbrev s_RootChain_init : Stmt := inClass (topS 13) 0
theorem sc_RootChain_init : FnScope ["self", "top", "square", "below", "wide"] ["self", "top", "square", "below"] (defScope s_RootChain_init) := ⟨rfl, rfl, rfl, by decide +kernel, rfl, by decide +kernel, by decide +kernel⟩
abbrev s_RootChain_has_ended : Stmt := inClass (topS 13) 1
theorem sc_RootChain_has_ended : FnScope ["self"] ["self"] (defScope s_RootChain_has_ended) := ⟨rfl, rfl, rfl, by decide +kernel, rfl, by decide +kernel, by decide +kernel⟩
abbrev s_RootChain_next_part : Stmt := inClass (topS 13) 2
theorem sc_RootChain_next_part : FnScope ["self", "upward", "part"] ["self"] (defScope s_RootChain_next_part) := ⟨rfl, rfl, rfl, by decide +kernel, rfl, by decide +kernel, by decide +kernel⟩
abbrev s_RootChain_what_is_left : Stmt := inClass (topS 13) 3
theorem sc_RootChain_what_is_left : FnScope ["self"] ["self"] (defScope s_RootChain_what_is_left) := ⟨rfl, rfl, rfl, by decide +kernel, rfl, by decide +kernel, by decide +kernel⟩
abbrev s_RuledChain_init : Stmt := inClass (topS 14) 0
theorem sc_RuledChain_init : FnScope ["self", "parts", "ring", "steps"] ["self", "parts", "ring", "steps"] (defScope s_RuledChain_init) := ⟨rfl, rfl, rfl, by decide +kernel, rfl, by decide +kernel, by decide +kernel⟩
abbrev s_RuledChain_has_ended : Stmt := inClass (topS 14) 1
theorem sc_RuledChain_has_ended : FnScope ["self"] ["self"] (defScope s_RuledChain_has_ended) := ⟨rfl, rfl, rfl, by decide +kernel, rfl, by decide +kernel, by decide +kernel⟩
abbrev s_RuledChain_next_part : Stmt := inClass (topS 14) 2
theorem sc_RuledChain_next_part : FnScope ["self", "at", "turn", "place"] ["self"] (defScope s_RuledChain_next_part) := ⟨rfl, rfl, rfl, by decide +kernel, rfl, by decide +kernel, by decide +kernel⟩
abbrev s_Leaf_init : Stmt := inClass (topS 15) 0
theorem sc_Leaf_init : FnScope ["self", "chain"] ["self", "chain"] (defScope s_Leaf_init) := ⟨rfl, rfl, rfl, by decide +kernel, rfl, by decide +kernel, by decide +kernel⟩
abbrev s_Leaf_ask : Stmt := inClass (topS 15) 1
theorem sc_Leaf_ask : FnScope ["self", "meter"] ["self", "meter"] (defScope s_Leaf_ask) := ⟨rfl, rfl, rfl, by decide +kernel, rfl, by decide +kernel, by decide +kernel⟩
abbrev s_leaf_of : Stmt := topS 16
theorem sc_leaf_of : FnScope ["tree"] ["tree"] (defScope s_leaf_of) := ⟨rfl, rfl, rfl, by decide +kernel, rfl, by decide +kernel, by decide +kernel⟩
abbrev s_root_chain : Stmt := topS 17
theorem sc_root_chain : FnScope ["top", "square", "below", "root"] ["top", "square", "below"] (defScope s_root_chain) := ⟨rfl, rfl, rfl, by decide +kernel, rfl, by decide +kernel, by decide +kernel⟩
abbrev s_FractionBox_init : Stmt := inClass (topS 19) 0
theorem sc_FractionBox_init : FnScope ["self", "top", "below", "told"] ["self", "top", "below", "told"] (defScope s_FractionBox_init) := ⟨rfl, rfl, rfl, by decide +kernel, rfl, by decide +kernel, by decide +kernel⟩
abbrev s_FractionBox_ask : Stmt := inClass (topS 19) 1
theorem sc_FractionBox_ask : FnScope ["self", "meter", "part"] ["self", "meter"] (defScope s_FractionBox_ask) := ⟨rfl, rfl, rfl, by decide +kernel, rfl, by decide +kernel, by decide +kernel⟩
abbrev s_FractionBox_nothing_left : Stmt := inClass (topS 19) 2
theorem sc_FractionBox_nothing_left : FnScope ["self"] ["self"] (defScope s_FractionBox_nothing_left) := ⟨rfl, rfl, rfl, by decide +kernel, rfl, by decide +kernel, by decide +kernel⟩
abbrev s_FourBox_init : Stmt := inClass (topS 20) 0
theorem sc_FourBox_init : FnScope ["self", "numbers", "tree", "started", "told"] ["self", "numbers", "tree", "started", "told"] (defScope s_FourBox_init) := ⟨rfl, rfl, rfl, by decide +kernel, rfl, by decide +kernel, by decide +kernel⟩
abbrev s_FourBox_ask : Stmt := inClass (topS 20) 1
theorem sc_FourBox_ask : FnScope ["self", "meter", "part", "answer"] ["self", "meter"] (defScope s_FourBox_ask) := ⟨rfl, rfl, rfl, by decide +kernel, rfl, by decide +kernel, by decide +kernel⟩
abbrev s_FourBox_tell : Stmt := inClass (topS 20) 2
theorem sc_FourBox_tell : FnScope ["self", "part"] ["self", "part"] (defScope s_FourBox_tell) := ⟨rfl, rfl, rfl, by decide +kernel, rfl, by decide +kernel, by decide +kernel⟩
abbrev s_FourBox_take : Stmt := inClass (topS 20) 3
theorem sc_FourBox_take : FnScope ["self", "answer", "a", "b", "c", "d", "part"] ["self", "answer"] (defScope s_FourBox_take) := ⟨rfl, rfl, rfl, by decide +kernel, rfl, by decide +kernel, by decide +kernel⟩
abbrev s_EightBox_init : Stmt := inClass (topS 21) 0
theorem sc_EightBox_init : FnScope ["self", "numbers", "one", "other"] ["self", "numbers", "one", "other"] (defScope s_EightBox_init) := ⟨rfl, rfl, rfl, by decide +kernel, rfl, by decide +kernel, by decide +kernel⟩
abbrev s_EightBox_ask : Stmt := inClass (topS 21) 1
theorem sc_EightBox_ask : FnScope ["self", "meter", "part", "which", "answer"] ["self", "meter"] (defScope s_EightBox_ask) := ⟨rfl, rfl, rfl, by decide +kernel, rfl, by decide +kernel, by decide +kernel⟩
abbrev s_EightBox_tell : Stmt := inClass (topS 21) 2
theorem sc_EightBox_tell : FnScope ["self", "part"] ["self", "part"] (defScope s_EightBox_tell) := ⟨rfl, rfl, rfl, by decide +kernel, rfl, by decide +kernel, by decide +kernel⟩
abbrev s_EightBox_take : Stmt := inClass (topS 21) 3
theorem sc_EightBox_take : FnScope ["self", "which", "answer"] ["self", "which", "answer"] (defScope s_EightBox_take) := ⟨rfl, rfl, rfl, by decide +kernel, rfl, by decide +kernel, by decide +kernel⟩
abbrev s_EightBox_left_without : Stmt := inClass (topS 21) 4
theorem sc_EightBox_left_without : FnScope ["self", "which", "a", "b", "c", "d", "e", "f", "g", "h"] ["self", "which"] (defScope s_EightBox_left_without) := ⟨rfl, rfl, rfl, by decide +kernel, rfl, by decide +kernel, by decide +kernel⟩
abbrev s_box_of_one : Stmt := topS 22
theorem sc_box_of_one : FnScope ["numbers", "tree", "told", "a", "b", "c", "d"] ["numbers", "tree", "told"] (defScope s_box_of_one) := ⟨rfl, rfl, rfl, by decide +kernel, rfl, by decide +kernel, by decide +kernel⟩
abbrev s_with_first_part : Stmt := topS 23
theorem sc_with_first_part : FnScope ["numbers", "part", "a", "b", "c", "d", "e", "f", "g", "h"] ["numbers", "part"] (defScope s_with_first_part) := ⟨rfl, rfl, rfl, by decide +kernel, rfl, by decide +kernel, by decide +kernel⟩
abbrev s_with_second_part : Stmt := topS 24
theorem sc_with_second_part : FnScope ["numbers", "part", "a", "b", "c", "d", "e", "f", "g", "h"] ["numbers", "part"] (defScope s_with_second_part) := ⟨rfl, rfl, rfl, by decide +kernel, rfl, by decide +kernel, by decide +kernel⟩
abbrev s_turned_over : Stmt := topS 25
theorem sc_turned_over : FnScope ["numbers", "part", "half", "above", "below", "left", "top", "under"] ["numbers", "part"] (defScope s_turned_over) := ⟨rfl, rfl, rfl, by decide +kernel, rfl, by decide +kernel, by decide +kernel⟩
abbrev s_four_corners : Stmt := topS 26
theorem sc_four_corners : FnScope ["numbers", "a", "b", "c", "d"] ["numbers"] (defScope s_four_corners) := ⟨rfl, rfl, rfl, by decide +kernel, rfl, by decide +kernel, by decide +kernel⟩
abbrev s_eight_corners : Stmt := topS 27
theorem sc_eight_corners : FnScope ["numbers", "a", "b", "c", "d", "e", "f", "g", "h"] ["numbers"] (defScope s_eight_corners) := ⟨rfl, rfl, rfl, by decide +kernel, rfl, by decide +kernel, by decide +kernel⟩
abbrev s_sure_part : Stmt := topS 28
theorem sc_sure_part : FnScope ["corners", "top", "below", "part"] ["corners"] (defScope s_sure_part) := ⟨rfl, rfl, rfl, by decide +kernel, rfl, by decide +kernel, by decide +kernel⟩
abbrev s_check_tree : Stmt := topS 34
theorem sc_check_tree : FnScope ["tree"] ["tree"] (defScope s_check_tree) := ⟨rfl, rfl, rfl, by decide +kernel, rfl, by decide +kernel, by decide +kernel⟩
abbrev s_check_at_depth : Stmt := topS 35
theorem sc_check_at_depth : FnScope ["tree", "depth", "word", "check"] ["tree", "depth"] (defScope s_check_at_depth) := ⟨rfl, rfl, rfl, by decide +kernel, rfl, by decide +kernel, by decide +kernel⟩
abbrev s_require : Stmt := topS 36
theorem sc_require : FnScope ["holds", "why"] ["holds", "why"] (defScope s_require) := ⟨rfl, rfl, rfl, by decide +kernel, rfl, by decide +kernel, by decide +kernel⟩
abbrev s_check_row : Stmt := topS 37
theorem sc_check_row : FnScope ["row", "fewest", "most", "number"] ["row", "fewest", "most"] (defScope s_check_row) := ⟨rfl, rfl, rfl, by decide +kernel, rfl, by decide +kernel, by decide +kernel⟩
abbrev s_is_whole : Stmt := topS 38
theorem sc_is_whole : FnScope ["number"] ["number"] (defScope s_is_whole) := ⟨rfl, rfl, rfl, by decide +kernel, rfl, by decide +kernel, by decide +kernel⟩
abbrev s_check_fraction : Stmt := topS 39
theorem sc_check_fraction : FnScope ["tree", "depth"] ["tree", "depth"] (defScope s_check_fraction) := ⟨rfl, rfl, rfl, by decide +kernel, rfl, by decide +kernel, by decide +kernel⟩
abbrev s_check_root : Stmt := topS 40
theorem sc_check_root : FnScope ["tree", "depth"] ["tree", "depth"] (defScope s_check_root) := ⟨rfl, rfl, rfl, by decide +kernel, rfl, by decide +kernel, by decide +kernel⟩
abbrev s_check_ruled : Stmt := topS 41
theorem sc_check_ruled : FnScope ["tree", "depth", "parts", "ring", "steps", "part", "step", "ends"] ["tree", "depth"] (defScope s_check_ruled) := ⟨rfl, rfl, rfl, by decide +kernel, rfl, by decide +kernel, by decide +kernel⟩
abbrev s_check_four : Stmt := topS 42
theorem sc_check_four : FnScope ["tree", "depth"] ["tree", "depth"] (defScope s_check_four) := ⟨rfl, rfl, rfl, by decide +kernel, rfl, by decide +kernel, by decide +kernel⟩
abbrev s_check_eight : Stmt := topS 43
theorem sc_check_eight : FnScope ["tree", "depth"] ["tree", "depth"] (defScope s_check_eight) := ⟨rfl, rfl, rfl, by decide +kernel, rfl, by decide +kernel, by decide +kernel⟩
abbrev s_check_line : Stmt := topS 44
theorem sc_check_line : FnScope ["numbers", "half", "above", "below", "crossed", "i", "k"] ["numbers"] (defScope s_check_line) := ⟨rfl, rfl, rfl, by decide +kernel, rfl, by decide +kernel, by decide +kernel⟩
abbrev s_check_power : Stmt := topS 45
theorem sc_check_power : FnScope ["tree", "depth"] ["tree", "depth"] (defScope s_check_power) := ⟨rfl, rfl, rfl, by decide +kernel, rfl, by decide +kernel, by decide +kernel⟩
abbrev s_Reading_init : Stmt := inClass (topS 50) 0
theorem sc_Reading_init : FnScope ["self", "box"] ["self", "box"] (defScope s_Reading_init) := ⟨rfl, rfl, rfl, by decide +kernel, rfl, by decide +kernel, by decide +kernel⟩
abbrev s_Reading_part : Stmt := inClass (topS 50) 1
theorem sc_Reading_part : FnScope ["self", "most"] ["self", "most"] (defScope s_Reading_part) := ⟨rfl, rfl, rfl, by decide +kernel, rfl, by decide +kernel, by decide +kernel⟩
abbrev s_Reading_took : Stmt := inClass (topS 50) 2
theorem sc_Reading_took : FnScope ["self"] ["self"] (defScope s_Reading_took) := ⟨rfl, rfl, rfl, by decide +kernel, rfl, by decide +kernel, by decide +kernel⟩
abbrev s_reader : Stmt := topS 51
theorem sc_reader : FnScope ["tree"] ["tree"] (defScope s_reader) := ⟨rfl, rfl, rfl, by decide +kernel, rfl, by decide +kernel, by decide +kernel⟩
abbrev s_box_of : Stmt := topS 52
theorem sc_box_of : FnScope ["tree", "word"] ["tree"] (defScope s_box_of) := ⟨rfl, rfl, rfl, by decide +kernel, rfl, by decide +kernel, by decide +kernel⟩
abbrev s_power_box : Stmt := topS 53
theorem sc_power_box : FnScope ["tree", "times"] ["tree", "times"] (defScope s_power_box) := ⟨rfl, rfl, rfl, by decide +kernel, rfl, by decide +kernel, by decide +kernel⟩
abbrev s_first_parts : Stmt := topS 54
theorem sc_first_parts : FnScope ["tree", "many", "most", "reading", "parts", "answer"] ["tree", "many", "most"] (defScope s_first_parts) := ⟨rfl, rfl, rfl, by decide +kernel, rfl, by decide +kernel, by decide +kernel⟩
abbrev s_compared : Stmt := topS 56
theorem sc_compared : FnScope ["one", "other", "most"] ["one", "other", "most"] (defScope s_compared) := ⟨rfl, rfl, rfl, by decide +kernel, rfl, by decide +kernel, by decide +kernel⟩
abbrev s_order_of : Stmt := topS 57
theorem sc_order_of : FnScope ["one", "other", "most", "at", "first", "second"] ["one", "other", "most"] (defScope s_order_of) := ⟨rfl, rfl, rfl, by decide +kernel, rfl, by decide +kernel, by decide +kernel⟩
abbrev s_order_at : Stmt := topS 58
theorem sc_order_at : FnScope ["at", "first", "second", "turned"] ["at", "first", "second"] (defScope s_order_at) := ⟨rfl, rfl, rfl, by decide +kernel, rfl, by decide +kernel, by decide +kernel⟩
abbrev s_is_greater : Stmt := topS 59
theorem sc_is_greater : FnScope ["first", "second"] ["first", "second"] (defScope s_is_greater) := ⟨rfl, rfl, rfl, by decide +kernel, rfl, by decide +kernel, by decide +kernel⟩
abbrev s_nearest : Stmt := topS 61
theorem sc_nearest : FnScope ["tree", "size", "most", "sides", "low", "high", "order"] ["tree", "size", "most"] (defScope s_nearest) := ⟨rfl, rfl, rfl, by decide +kernel, rfl, by decide +kernel, by decide +kernel⟩
abbrev s_read_sides : Stmt := topS 62
theorem sc_read_sides : FnScope ["reading", "size", "most", "before", "last", "answer", "following"] ["reading", "size", "most"] (defScope s_read_sides) := ⟨rfl, rfl, rfl, by decide +kernel, rfl, by decide +kernel, by decide +kernel⟩
abbrev s_stepped : Stmt := topS 63
theorem sc_stepped : FnScope ["before", "last", "times"] ["before", "last", "times"] (defScope s_stepped) := ⟨rfl, rfl, rfl, by decide +kernel, rfl, by decide +kernel, by decide +kernel⟩
abbrev s_sides_within : Stmt := topS 64
theorem sc_sides_within : FnScope ["before", "last", "size", "other"] ["before", "last", "size"] (defScope s_sides_within) := ⟨rfl, rfl, rfl, by decide +kernel, rfl, by decide +kernel, by decide +kernel⟩
abbrev s_middle_reading : Stmt := topS 65
theorem sc_middle_reading : FnScope ["low", "high", "top"] ["low", "high"] (defScope s_middle_reading) := ⟨rfl, rfl, rfl, by decide +kernel, rfl, by decide +kernel, by decide +kernel⟩
abbrev s_nearer_side : Stmt := topS 66
theorem sc_nearer_side : FnScope ["order", "low", "high"] ["order", "low", "high"] (defScope s_nearer_side) := ⟨rfl, rfl, rfl, by decide +kernel, rfl, by decide +kernel, by decide +kernel⟩
abbrev s_law_row : Stmt := topS 68
theorem sc_law_row : FnScope ["_law_script", "_law_mixed", "_law_cell"] ["_law_script"] (defScope s_law_row) := ⟨rfl, rfl, rfl, by decide +kernel, rfl, by decide +kernel, by decide +kernel⟩
abbrev s_law_taken : Stmt := topS 69
theorem sc_law_taken : FnScope ["_law_row_here", "_law_many", "_law_found", "_law_cell"] ["_law_row_here", "_law_many"] (defScope s_law_taken) := ⟨rfl, rfl, rfl, by decide +kernel, rfl, by decide +kernel, by decide +kernel⟩
abbrev s_law_signed : Stmt := topS 70
theorem sc_law_signed : FnScope ["_law_row_here", "_law_most"] ["_law_row_here", "_law_most"] (defScope s_law_signed) := ⟨rfl, rfl, rfl, by decide +kernel, rfl, by decide +kernel, by decide +kernel⟩
abbrev s_law_bad : Stmt := topS 71
theorem sc_law_bad : FnScope ["_law_row_here", "_law_big", "_law_some", "_law_one", "_law_ring", "_law_steps", "_law_deep", "_law_k", "_law_numbers", "_law_found", "_law_bad_here"] ["_law_row_here"] (defScope s_law_bad) := ⟨rfl, rfl, rfl, by decide +kernel, rfl, by decide +kernel, by decide +kernel⟩
abbrev s_law_around : Stmt := topS 72
theorem sc_law_around : FnScope ["_law_row_here", "_law_tree", "_law_many", "_law_good", "_law_k", "_law_way"] ["_law_row_here", "_law_tree", "_law_many"] (defScope s_law_around) := ⟨rfl, rfl, rfl, by decide +kernel, rfl, by decide +kernel, by decide +kernel⟩
abbrev s_law_refused : Stmt := topS 73
theorem sc_law_refused : FnScope ["_law_way", "_law_tree", "_law_good", "e"] ["_law_way", "_law_tree"] (defScope s_law_refused) := ⟨rfl, rfl, rfl, by decide +kernel, rfl, by decide +kernel, by decide +kernel⟩
abbrev s_law : Stmt := topS 74
theorem sc_law : FnScope ["_law_script", "_law_row_here", "_law_bad_here", "_law_way", "_law_top", "_law_good", "_law_one"] ["_law_script"] (defScope s_law) := ⟨rfl, rfl, rfl, by decide +kernel, rfl, by decide +kernel, by decide +kernel⟩
/-! ### the head: facts by names, the run -/
def d_wall : He.DefD := ⟨("_wall", none), "_wall", "_wall", defArgs s_wall, defBody s_wall, defScope s_wall, [], []⟩
def d_root_below : He.DefD := ⟨("root_below", none), "root_below", "root_below", defArgs s_root_below, defBody s_root_below, defScope s_root_below, [], []⟩
def d_Meter_init : He.DefD := ⟨("Meter", some "__init__"), "__init__", "Meter.__init__", defArgs s_Meter_init, defBody s_Meter_init, defScope s_Meter_init, [], []⟩
def d_Meter_allow : He.DefD := ⟨("Meter", some "allow"), "allow", "Meter.allow", defArgs s_Meter_allow, defBody s_Meter_allow, defScope s_Meter_allow, [], []⟩
def d_Meter_pay : He.DefD := ⟨("Meter", some "pay"), "pay", "Meter.pay", defArgs s_Meter_pay, defBody s_Meter_pay, defScope s_Meter_pay, [], []⟩
def d_FractionChain_init : He.DefD := ⟨("FractionChain", some "__init__"), "__init__", "FractionChain.__init__", defArgs s_FractionChain_init, defBody s_FractionChain_init, defScope s_FractionChain_init, [], []⟩
def d_FractionChain_has_ended : He.DefD := ⟨("FractionChain", some "has_ended"), "has_ended", "FractionChain.has_ended", defArgs s_FractionChain_has_ended, defBody s_FractionChain_has_ended, defScope s_FractionChain_has_ended, [], []⟩
def d_FractionChain_next_part : He.DefD := ⟨("FractionChain", some "next_part"), "next_part", "FractionChain.next_part", defArgs s_FractionChain_next_part, defBody s_FractionChain_next_part, defScope s_FractionChain_next_part, [], []⟩
def d_RootChain_init : He.DefD := ⟨("RootChain", some "__init__"), "__init__", "RootChain.__init__", defArgs s_RootChain_init, defBody s_RootChain_init, defScope s_RootChain_init, [], []⟩
def d_RootChain_has_ended : He.DefD := ⟨("RootChain", some "has_ended"), "has_ended", "RootChain.has_ended", defArgs s_RootChain_has_ended, defBody s_RootChain_has_ended, defScope s_RootChain_has_ended, [], []⟩
def d_RootChain_next_part : He.DefD := ⟨("RootChain", some "next_part"), "next_part", "RootChain.next_part", defArgs s_RootChain_next_part, defBody s_RootChain_next_part, defScope s_RootChain_next_part, [], []⟩
def d_RootChain_what_is_left : He.DefD := ⟨("RootChain", some "what_is_left"), "what_is_left", "RootChain.what_is_left", defArgs s_RootChain_what_is_left, defBody s_RootChain_what_is_left, defScope s_RootChain_what_is_left, [], []⟩
def d_RuledChain_init : He.DefD := ⟨("RuledChain", some "__init__"), "__init__", "RuledChain.__init__", defArgs s_RuledChain_init, defBody s_RuledChain_init, defScope s_RuledChain_init, [], []⟩
def d_RuledChain_has_ended : He.DefD := ⟨("RuledChain", some "has_ended"), "has_ended", "RuledChain.has_ended", defArgs s_RuledChain_has_ended, defBody s_RuledChain_has_ended, defScope s_RuledChain_has_ended, [], []⟩
def d_RuledChain_next_part : He.DefD := ⟨("RuledChain", some "next_part"), "next_part", "RuledChain.next_part", defArgs s_RuledChain_next_part, defBody s_RuledChain_next_part, defScope s_RuledChain_next_part, [], []⟩
def d_Leaf_init : He.DefD := ⟨("Leaf", some "__init__"), "__init__", "Leaf.__init__", defArgs s_Leaf_init, defBody s_Leaf_init, defScope s_Leaf_init, [], []⟩
def d_Leaf_ask : He.DefD := ⟨("Leaf", some "ask"), "ask", "Leaf.ask", defArgs s_Leaf_ask, defBody s_Leaf_ask, defScope s_Leaf_ask, [], []⟩
def d_leaf_of : He.DefD := ⟨("leaf_of", none), "leaf_of", "leaf_of", defArgs s_leaf_of, defBody s_leaf_of, defScope s_leaf_of, [], []⟩
def d_root_chain : He.DefD := ⟨("root_chain", none), "root_chain", "root_chain", defArgs s_root_chain, defBody s_root_chain, defScope s_root_chain, [], []⟩
def d_FractionBox_init : He.DefD := ⟨("FractionBox", some "__init__"), "__init__", "FractionBox.__init__", defArgs s_FractionBox_init, defBody s_FractionBox_init, defScope s_FractionBox_init, [], []⟩
def d_FractionBox_ask : He.DefD := ⟨("FractionBox", some "ask"), "ask", "FractionBox.ask", defArgs s_FractionBox_ask, defBody s_FractionBox_ask, defScope s_FractionBox_ask, [], []⟩
def d_FractionBox_nothing_left : He.DefD := ⟨("FractionBox", some "nothing_left"), "nothing_left", "FractionBox.nothing_left", defArgs s_FractionBox_nothing_left, defBody s_FractionBox_nothing_left, defScope s_FractionBox_nothing_left, [], []⟩
def d_FourBox_init : He.DefD := ⟨("FourBox", some "__init__"), "__init__", "FourBox.__init__", defArgs s_FourBox_init, defBody s_FourBox_init, defScope s_FourBox_init, [], []⟩
def d_FourBox_ask : He.DefD := ⟨("FourBox", some "ask"), "ask", "FourBox.ask", defArgs s_FourBox_ask, defBody s_FourBox_ask, defScope s_FourBox_ask, [], []⟩
def d_FourBox_tell : He.DefD := ⟨("FourBox", some "tell"), "tell", "FourBox.tell", defArgs s_FourBox_tell, defBody s_FourBox_tell, defScope s_FourBox_tell, [], []⟩
def d_FourBox_take : He.DefD := ⟨("FourBox", some "take"), "take", "FourBox.take", defArgs s_FourBox_take, defBody s_FourBox_take, defScope s_FourBox_take, [], []⟩
def d_EightBox_init : He.DefD := ⟨("EightBox", some "__init__"), "__init__", "EightBox.__init__", defArgs s_EightBox_init, defBody s_EightBox_init, defScope s_EightBox_init, [], []⟩
def d_EightBox_ask : He.DefD := ⟨("EightBox", some "ask"), "ask", "EightBox.ask", defArgs s_EightBox_ask, defBody s_EightBox_ask, defScope s_EightBox_ask, [], []⟩
def d_EightBox_tell : He.DefD := ⟨("EightBox", some "tell"), "tell", "EightBox.tell", defArgs s_EightBox_tell, defBody s_EightBox_tell, defScope s_EightBox_tell, [], []⟩
def d_EightBox_take : He.DefD := ⟨("EightBox", some "take"), "take", "EightBox.take", defArgs s_EightBox_take, defBody s_EightBox_take, defScope s_EightBox_take, [], []⟩
def d_EightBox_left_without : He.DefD := ⟨("EightBox", some "left_without"), "left_without", "EightBox.left_without", defArgs s_EightBox_left_without, defBody s_EightBox_left_without, defScope s_EightBox_left_without, [], []⟩
def d_box_of_one : He.DefD := ⟨("box_of_one", none), "box_of_one", "box_of_one", defArgs s_box_of_one, defBody s_box_of_one, defScope s_box_of_one, [], []⟩
def d_with_first_part : He.DefD := ⟨("with_first_part", none), "with_first_part", "with_first_part", defArgs s_with_first_part, defBody s_with_first_part, defScope s_with_first_part, [], []⟩
def d_with_second_part : He.DefD := ⟨("with_second_part", none), "with_second_part", "with_second_part", defArgs s_with_second_part, defBody s_with_second_part, defScope s_with_second_part, [], []⟩
def d_turned_over : He.DefD := ⟨("turned_over", none), "turned_over", "turned_over", defArgs s_turned_over, defBody s_turned_over, defScope s_turned_over, [], []⟩
def d_four_corners : He.DefD := ⟨("four_corners", none), "four_corners", "four_corners", defArgs s_four_corners, defBody s_four_corners, defScope s_four_corners, [], []⟩
def d_eight_corners : He.DefD := ⟨("eight_corners", none), "eight_corners", "eight_corners", defArgs s_eight_corners, defBody s_eight_corners, defScope s_eight_corners, [], []⟩
def d_sure_part : He.DefD := ⟨("sure_part", none), "sure_part", "sure_part", defArgs s_sure_part, defBody s_sure_part, defScope s_sure_part, [], []⟩
def d_check_tree : He.DefD := ⟨("check_tree", none), "check_tree", "check_tree", defArgs s_check_tree, defBody s_check_tree, defScope s_check_tree, [], []⟩
def d_check_at_depth : He.DefD := ⟨("check_at_depth", none), "check_at_depth", "check_at_depth", defArgs s_check_at_depth, defBody s_check_at_depth, defScope s_check_at_depth, [], []⟩
def d_require : He.DefD := ⟨("require", none), "require", "require", defArgs s_require, defBody s_require, defScope s_require, [], []⟩
def d_check_row : He.DefD := ⟨("check_row", none), "check_row", "check_row", defArgs s_check_row, defBody s_check_row, defScope s_check_row, [], []⟩
def d_is_whole : He.DefD := ⟨("is_whole", none), "is_whole", "is_whole", defArgs s_is_whole, defBody s_is_whole, defScope s_is_whole, [], []⟩
def d_check_fraction : He.DefD := ⟨("check_fraction", none), "check_fraction", "check_fraction", defArgs s_check_fraction, defBody s_check_fraction, defScope s_check_fraction, [], []⟩
def d_check_root : He.DefD := ⟨("check_root", none), "check_root", "check_root", defArgs s_check_root, defBody s_check_root, defScope s_check_root, [], []⟩
def d_check_ruled : He.DefD := ⟨("check_ruled", none), "check_ruled", "check_ruled", defArgs s_check_ruled, defBody s_check_ruled, defScope s_check_ruled, [], []⟩
def d_check_four : He.DefD := ⟨("check_four", none), "check_four", "check_four", defArgs s_check_four, defBody s_check_four, defScope s_check_four, [], []⟩
def d_check_eight : He.DefD := ⟨("check_eight", none), "check_eight", "check_eight", defArgs s_check_eight, defBody s_check_eight, defScope s_check_eight, [], []⟩
def d_check_line : He.DefD := ⟨("check_line", none), "check_line", "check_line", defArgs s_check_line, defBody s_check_line, defScope s_check_line, [], []⟩
def d_check_power : He.DefD := ⟨("check_power", none), "check_power", "check_power", defArgs s_check_power, defBody s_check_power, defScope s_check_power, [], []⟩
def d_Reading_init : He.DefD := ⟨("Reading", some "__init__"), "__init__", "Reading.__init__", defArgs s_Reading_init, defBody s_Reading_init, defScope s_Reading_init, [], []⟩
def d_Reading_part : He.DefD := ⟨("Reading", some "part"), "part", "Reading.part", defArgs s_Reading_part, defBody s_Reading_part, defScope s_Reading_part, [], []⟩
def d_Reading_took : He.DefD := ⟨("Reading", some "took"), "took", "Reading.took", defArgs s_Reading_took, defBody s_Reading_took, defScope s_Reading_took, [], []⟩
def d_reader : He.DefD := ⟨("reader", none), "reader", "reader", defArgs s_reader, defBody s_reader, defScope s_reader, [], []⟩
def d_box_of : He.DefD := ⟨("box_of", none), "box_of", "box_of", defArgs s_box_of, defBody s_box_of, defScope s_box_of, [], []⟩
def d_power_box : He.DefD := ⟨("power_box", none), "power_box", "power_box", defArgs s_power_box, defBody s_power_box, defScope s_power_box, [], []⟩
def d_first_parts : He.DefD := ⟨("first_parts", none), "first_parts", "first_parts", defArgs s_first_parts, defBody s_first_parts, defScope s_first_parts, [], []⟩
def d_compared : He.DefD := ⟨("compared", none), "compared", "compared", defArgs s_compared, defBody s_compared, defScope s_compared, [], []⟩
def d_order_of : He.DefD := ⟨("order_of", none), "order_of", "order_of", defArgs s_order_of, defBody s_order_of, defScope s_order_of, [], []⟩
def d_order_at : He.DefD := ⟨("order_at", none), "order_at", "order_at", defArgs s_order_at, defBody s_order_at, defScope s_order_at, [], []⟩
def d_is_greater : He.DefD := ⟨("is_greater", none), "is_greater", "is_greater", defArgs s_is_greater, defBody s_is_greater, defScope s_is_greater, [], []⟩
def d_nearest : He.DefD := ⟨("nearest", none), "nearest", "nearest", defArgs s_nearest, defBody s_nearest, defScope s_nearest, [], []⟩
def d_read_sides : He.DefD := ⟨("read_sides", none), "read_sides", "read_sides", defArgs s_read_sides, defBody s_read_sides, defScope s_read_sides, [], []⟩
def d_stepped : He.DefD := ⟨("stepped", none), "stepped", "stepped", defArgs s_stepped, defBody s_stepped, defScope s_stepped, [], []⟩
def d_sides_within : He.DefD := ⟨("sides_within", none), "sides_within", "sides_within", defArgs s_sides_within, defBody s_sides_within, defScope s_sides_within, [], []⟩
def d_middle_reading : He.DefD := ⟨("middle_reading", none), "middle_reading", "middle_reading", defArgs s_middle_reading, defBody s_middle_reading, defScope s_middle_reading, [], []⟩
def d_nearer_side : He.DefD := ⟨("nearer_side", none), "nearer_side", "nearer_side", defArgs s_nearer_side, defBody s_nearer_side, defScope s_nearer_side, [], []⟩
def d_law_row : He.DefD := ⟨("_law_row", none), "_law_row", "_law_row", defArgs s_law_row, defBody s_law_row, defScope s_law_row, [], []⟩
def d_law_taken : He.DefD := ⟨("_law_taken", none), "_law_taken", "_law_taken", defArgs s_law_taken, defBody s_law_taken, defScope s_law_taken, [], []⟩
def d_law_signed : He.DefD := ⟨("_law_signed", none), "_law_signed", "_law_signed", defArgs s_law_signed, defBody s_law_signed, defScope s_law_signed, [], []⟩
def d_law_bad : He.DefD := ⟨("_law_bad", none), "_law_bad", "_law_bad", defArgs s_law_bad, defBody s_law_bad, defScope s_law_bad, [], []⟩
def d_law_around : He.DefD := ⟨("_law_around", none), "_law_around", "_law_around", defArgs s_law_around, defBody s_law_around, defScope s_law_around, [], []⟩
def d_law_refused : He.DefD := ⟨("_law_refused", none), "_law_refused", "_law_refused", defArgs s_law_refused, defBody s_law_refused, defScope s_law_refused, [], []⟩
def d_law : He.DefD := ⟨("law", none), "law", "law", defArgs s_law, defBody s_law, defScope s_law, [], []⟩
def fnL : List He.DefD := ([d_wall, d_root_below, d_Meter_init, d_Meter_allow, d_Meter_pay, d_FractionChain_init, d_FractionChain_has_ended, d_FractionChain_next_part, d_RootChain_init, d_RootChain_has_ended, d_RootChain_next_part, d_RootChain_what_is_left, d_RuledChain_init, d_RuledChain_has_ended, d_RuledChain_next_part, d_Leaf_init, d_Leaf_ask, d_leaf_of, d_root_chain, d_FractionBox_init, d_FractionBox_ask, d_FractionBox_nothing_left, d_FourBox_init, d_FourBox_ask, d_FourBox_tell, d_FourBox_take, d_EightBox_init, d_EightBox_ask, d_EightBox_tell, d_EightBox_take] : List He.DefD) ++ ([d_EightBox_left_without, d_box_of_one, d_with_first_part, d_with_second_part, d_turned_over, d_four_corners, d_eight_corners, d_sure_part, d_check_tree, d_check_at_depth, d_require, d_check_row, d_is_whole, d_check_fraction, d_check_root, d_check_ruled, d_check_four, d_check_eight, d_check_line, d_check_power, d_Reading_init, d_Reading_part, d_Reading_took, d_reader, d_box_of, d_power_box, d_first_parts, d_compared, d_order_of, d_order_at] : List He.DefD) ++ ([d_is_greater, d_nearest, d_read_sides, d_stepped, d_sides_within, d_middle_reading, d_nearer_side, d_law_row, d_law_taken, d_law_signed, d_law_bad, d_law_around, d_law_refused, d_law] : List He.DefD)
def faL : List He.Fa := ([.free "len", .free "isinstance", .free "range", .free "zip", .free "abs", .free "divmod", .free "min", .free "all", .free "any", .free "list", .free "tuple", .free "str", .free "int", .free "bool", .free "sum", .free "max", .exc "BadTree", .exc "NoValue", .free "ValueError", .exm "BadTree" "PartError" true, .glo "_wall", .glo "PartError", .glo "BadTree", .glo "NoValue", .glo "TooLong", .glo "root_below", .glo "END", .glo "WAITS", .glo "Meter", .cls "Meter"] : List He.Fa) ++ ([.mkr "Meter", .meth "Meter" "allow", .meth "Meter" "pay", .noat "Meter" "left", .noat "Meter" "spent", .glo "FractionChain", .cls "FractionChain", .mkr "FractionChain", .meth "FractionChain" "has_ended", .meth "FractionChain" "next_part", .noat "FractionChain" "top", .noat "FractionChain" "below", .glo "RootChain", .cls "RootChain", .mkr "RootChain", .meth "RootChain" "has_ended", .meth "RootChain" "next_part", .meth "RootChain" "what_is_left", .noat "RootChain" "top", .noat "RootChain" "square", .noat "RootChain" "below", .noat "RootChain" "root", .glo "RuledChain", .cls "RuledChain", .mkr "RuledChain", .meth "RuledChain" "has_ended", .meth "RuledChain" "next_part", .noat "RuledChain" "parts", .noat "RuledChain" "ring", .noat "RuledChain" "steps"] : List He.Fa) ++ ([.noat "RuledChain" "at", .glo "Leaf", .cls "Leaf", .mkr "Leaf", .meth "Leaf" "ask", .noat "Leaf" "chain", .glo "leaf_of", .glo "root_chain", .glo "FractionBox", .cls "FractionBox", .mkr "FractionBox", .meth "FractionBox" "ask", .meth "FractionBox" "nothing_left", .noat "FractionBox" "top", .noat "FractionBox" "below", .noat "FractionBox" "told", .glo "FourBox", .cls "FourBox", .mkr "FourBox", .meth "FourBox" "ask", .meth "FourBox" "tell", .meth "FourBox" "take", .noat "FourBox" "numbers", .noat "FourBox" "tree", .noat "FourBox" "started", .noat "FourBox" "told", .noat "FourBox" "rest", .glo "EightBox", .cls "EightBox", .mkr "EightBox"] : List He.Fa) ++ ([.meth "EightBox" "ask", .meth "EightBox" "tell", .meth "EightBox" "take", .meth "EightBox" "left_without", .noat "EightBox" "numbers", .noat "EightBox" "trees", .noat "EightBox" "taken", .noat "EightBox" "told", .noat "EightBox" "rest", .glo "box_of_one", .glo "with_first_part", .glo "with_second_part", .glo "turned_over", .glo "four_corners", .glo "eight_corners", .glo "sure_part", .int "MOST_NUMBER" 1000000000000, .int "MOST_DEPTH" 5, .int "MOST_PARTS" 12, .int "MOST_POWER" 4, .glo "check_tree", .glo "check_at_depth", .glo "require", .glo "check_row", .glo "is_whole", .glo "check_fraction", .glo "check_root", .glo "check_ruled", .glo "check_four", .glo "check_eight"] : List He.Fa) ++ ([.glo "check_line", .glo "check_power", .glo "LENGTHS", .glo "CHECKS", .glo "TIMES", .glo "Reading", .cls "Reading", .mkr "Reading", .meth "Reading" "part", .meth "Reading" "took", .noat "Reading" "box", .noat "Reading" "meter", .glo "reader", .glo "box_of", .glo "power_box", .glo "first_parts", .glo "compared", .glo "order_of", .glo "order_at", .glo "is_greater", .glo "nearest", .glo "read_sides", .glo "stepped", .glo "sides_within", .glo "middle_reading", .glo "nearer_side", .glo "_law_row", .glo "_law_taken", .glo "_law_signed", .glo "_law_bad"] : List He.Fa) ++ ([.glo "_law_around", .glo "_law_refused", .glo "law"] : List He.Fa)
def tsL : List He.Tab := [(fun K => He.ga K "LENGTHS", ["fraction", "root", "ruled", "four", "eight", "power"]), (fun K => He.ga K "CHECKS", ["fraction", "root", "ruled", "four", "eight", "power"])]
def excCB (K : PySem.W.Frag) (x : Str) : Bool := He.eqO (PySem.W.findIn K (.ref (He.ga K x)) "__getattribute__") (some (some (.builtin "BaseException.__getattribute__"))) && (He.eqO (PySem.W.findIn K (.ref (He.ga K x)) "__getattr__") (some none) &&
  (decide (PySem.W.subIn K (.ref (He.ga K x)) (.type "BaseException") = some true) && (PySem.W.hasDictIn K (He.ga K x) && (He.eqO (PySem.W.findIn K (.ref (He.ga K x)) "__class__") (some (some (.builtin "object.__class__"))) &&
  (He.eqO (PySem.W.specialIn K (.builtin "object.__class__") "__get__") (some (some (.builtin "getset_descriptor.__get__"))) && (decide (PySem.W.takesIn K (.builtin "object.__class__") = some true) && decide (PySem.W.mroIn K (He.ga K x) (.type "object") = some true)))))))
def xetB (K : PySem.W.Frag) : Bool := excCB K "BadTree" && (decide (PySem.W.kitOne K (.ref (He.ga K "BadTree")) (.ref (He.ga K "BadTree")) = some true) && (decide (PySem.W.kitOne K (.ref (He.ga K "BadTree")) (.type "ValueError") = some true) &&
  decide (PySem.W.kitAny K (.ref (He.ga K "BadTree")) [.ref (He.ga K "NoValue"), .ref (He.ga K "TooLong")] = some false)))
theorem excC_of {K : PySem.W.Frag} {x : Str} (h : excCB K x = true) : ExcC K (He.ga K x) := by
  obtain ⟨h1, h⟩ := He.ba h
  obtain ⟨h2, h⟩ := He.ba h
  obtain ⟨h3, h⟩ := He.ba h
  obtain ⟨h4, h⟩ := He.ba h
  obtain ⟨h5, h⟩ := He.ba h
  obtain ⟨h6, h⟩ := He.ba h
  obtain ⟨h7, h8⟩ := He.ba h
  exact ⟨He.eqO_ok h1, He.eqO_ok h2, of_decide_eq_true h3, h4, He.eqO_ok h5, He.eqO_ok h6, of_decide_eq_true h7, of_decide_eq_true h8⟩
open He in
def exL (K : PySem.W.Frag) : Bool := tupB K "END" [.str "end"] && (tupB K "WAITS" [.str "waits"] && (valsB K (ga K "LENGTHS") [("fraction", .int 3), ("root", .int 4), ("ruled", .int 4), ("four", .int 3), ("eight", .int 4), ("power", .int 3)] && (valsB K (ga K "CHECKS") [("fraction", .glo "check_fraction"), ("root", .glo "check_root"), ("ruled", .glo "check_ruled"), ("four", .glo "check_four"), ("eight", .glo "check_eight"), ("power", .glo "check_power")] && (tupB K "TIMES" [.int 1, .int 0, .int 0, .int 0, .int 0, .int 0, .int 0, .int 1] && (xetB K)))))
def looseL : List Str := (["_wall", "PartError", "BadTree", "NoValue", "TooLong", "root_below", "END", "WAITS", "Meter", "FractionChain", "RootChain", "RuledChain", "Leaf", "leaf_of", "root_chain", "FractionBox", "FourBox", "EightBox", "box_of_one", "with_first_part", "with_second_part", "turned_over", "four_corners", "eight_corners", "sure_part", "MOST_NUMBER", "MOST_DEPTH", "MOST_PARTS", "MOST_POWER", "check_tree"] : List Str) ++ (["check_at_depth", "require", "check_row", "is_whole", "check_fraction", "check_root", "check_ruled", "check_four", "check_eight", "check_line", "check_power", "LENGTHS", "CHECKS", "TIMES", "Reading", "reader", "box_of", "power_box", "first_parts", "compared", "order_of", "order_at", "is_greater", "nearest", "read_sides", "stepped", "sides_within", "middle_reading", "nearer_side", "_law_row"] : List Str) ++ (["_law_taken", "_law_signed", "_law_bad", "_law_around", "_law_refused"] : List Str)
abbrev hk : PySem.W.Hook := He.hookX 4 faL fnL tsL [] exL
def ob (s : PySem.W.SharedT) : He.AlX := He.obsX 4 faL fnL tsL [] exL (HandSHeadRun.getT s)
theorem ob_eq (s : PySem.W.SharedT) : ob s = hk.obs s.abs := He.obsX_eq (HandSHeadRun.getT_eq s)
section
open PySem PySem.W PySem.Calls PyProof.Rows HandSHeadRun
theorem map3 {α β γ δ : Type _} {o : Option α} {f : α → β} {g : α → γ} {h : α → δ} {x : β} {y : γ} {z : δ} (a : o.map f = some x) (b : o.map g = some y) (c : o.map h = some z) : o.map (fun s => (f s, g s, h s)) = some (x, y, z) := by
  cases o with
  | none => cases a
  | some s => cases a; cases b; cases c; rfl
def RunA (r : OpenRow) (M : Nat) (w : World) : Prop := ∀ os : OsState, (endF (stepQ (denQ tabQ) r.prog w) M r.prog w os).map (fun s => looksF r.prog (boot_heap w.params) s.abs) = some true
def RunB (r : OpenRow) (q : Program) (M : Nat) (loose : List PySem.Str) (w : World) : Prop := ∀ os : OsState, (endF (stepQ (denQ tabQ) r.prog w) M r.prog w os).map (fun s => seenQ q loose (importedModules r.prog.main.body) (fun s => xlAt q [] s && recOk r.toRowW.records s) s.abs) = some (openGood q loose)
def RunC (r : OpenRow) (H : Hook) (ob : SharedT → H.α) (M : Nat) (w : World) : Prop := ∀ os : OsState, (endF (stepQ (denQ tabQ) r.prog w) M r.prog w os).map (fun s => ob s) = some (H.val w)
theorem run_of {r : OpenRow} {q : Program} {H : Hook} {ob : SharedT → H.α} {M : Nat} {loose : List PySem.Str} {w : World} (a : RunA r M w) (b : RunB r q M loose w) (c : RunC r H ob M w) : RunEq r q H ob M loose w := fun os => map3 (a os) (b os) (c os)
end
set_option maxHeartbeats 0 in
theorem run0a (w : World) : RunA (PySem.W.OpenLaw.row PySem.Challenge.rw_chainparts_k07_trees_that_are_none) 7500 (w.withFollow "special-get-raises" false) := by
  intro os
  kernel_rfl
set_option maxHeartbeats 0 in
theorem run0b (w : World) : RunB (PySem.W.OpenLaw.row PySem.Challenge.rw_chainparts_k07_trees_that_are_none) (PySem.W.view (PySem.W.OpenLaw.row PySem.Challenge.rw_chainparts_k07_trees_that_are_none).prog [74]) 7500 looseL (w.withFollow "special-get-raises" false) := by
  intro os
  kernel_rfl
set_option maxHeartbeats 0 in
theorem run0c (w : World) : RunC (PySem.W.OpenLaw.row PySem.Challenge.rw_chainparts_k07_trees_that_are_none) hk ob 7500 (w.withFollow "special-get-raises" false) := by
  intro os
  kernel_rfl
theorem run0 (w : World) : HandSHeadRun.RunEq (PySem.W.OpenLaw.row PySem.Challenge.rw_chainparts_k07_trees_that_are_none) (PySem.W.view (PySem.W.OpenLaw.row PySem.Challenge.rw_chainparts_k07_trees_that_are_none).prog [74]) hk ob 7500 looseL (w.withFollow "special-get-raises" false) := run_of (run0a w) (run0b w) (run0c w)
set_option maxHeartbeats 0 in
theorem run1a (w : World) : RunA (PySem.W.OpenLaw.row PySem.Challenge.rw_chainparts_k07_trees_that_are_none) 7500 (w.withFollow "special-get-raises" true) := by
  intro os
  kernel_rfl
set_option maxHeartbeats 0 in
theorem run1b (w : World) : RunB (PySem.W.OpenLaw.row PySem.Challenge.rw_chainparts_k07_trees_that_are_none) (PySem.W.view (PySem.W.OpenLaw.row PySem.Challenge.rw_chainparts_k07_trees_that_are_none).prog [74]) 7500 looseL (w.withFollow "special-get-raises" true) := by
  intro os
  kernel_rfl
set_option maxHeartbeats 0 in
theorem run1c (w : World) : RunC (PySem.W.OpenLaw.row PySem.Challenge.rw_chainparts_k07_trees_that_are_none) hk ob 7500 (w.withFollow "special-get-raises" true) := by
  intro os
  kernel_rfl
theorem run1 (w : World) : HandSHeadRun.RunEq (PySem.W.OpenLaw.row PySem.Challenge.rw_chainparts_k07_trees_that_are_none) (PySem.W.view (PySem.W.OpenLaw.row PySem.Challenge.rw_chainparts_k07_trees_that_are_none).prog [74]) hk ob 7500 looseL (w.withFollow "special-get-raises" true) := run_of (run1a w) (run1b w) (run1c w)
theorem run (w : World) : HandSHeadRun.RunEq (PySem.W.OpenLaw.row PySem.Challenge.rw_chainparts_k07_trees_that_are_none) (PySem.W.view (PySem.W.OpenLaw.row PySem.Challenge.rw_chainparts_k07_trees_that_are_none).prog [74]) hk ob 7500 looseL w := PySem.W.byRow2 "special-get-raises" (P := fun w => HandSHeadRun.RunEq (PySem.W.OpenLaw.row PySem.Challenge.rw_chainparts_k07_trees_that_are_none) (PySem.W.view (PySem.W.OpenLaw.row PySem.Challenge.rw_chainparts_k07_trees_that_are_none).prog [74]) hk ob 7500 looseL w) run0 run1 w
/-! ### calls of defs, in short -/
/-- the def x of the text stands at f, no one else bears its name -/
structure DefAt (K : PySem.W.Frag) (mg : Str → Option Value) (x : Str) (st : Stmt) (ps : List Str) (f : Addr) (fd : FuncData) : Prop where
  fn : Fun K x x st f fd
  mgx : mg x = some (.ref f)
  bd : Binds K fd ps []
/-- the def x keeps the promise sp, at level k -/
def COk (P : Program) (w : World) (K : PySem.W.Frag) (mg : Str → Option Value) (base : Heap) (CX : CXT) (k : Nat) (x : Str) (ps : List Str) (sp : Sp) : Prop :=
  ∃ (f : Addr) (fd : FuncData), FnOk P w K mg base CX k f fd ps sp ∧ mg x = some (.ref f) ∧ PySem.W.keepIn K (.ref f) = true ∧ Binds K fd ps []
theorem COk.of {P : Program} {w : World} {K : PySem.W.Frag} {mg : Str → Option Value} {base : Heap} {CX : CXT} {k : Nat} {x : Str} {st : Stmt} {ps : List Str} {sp : Sp} {f : Addr} {fd : FuncData}
    (D : DefAt K mg x st ps f fd) (h : FnOk P w K mg base CX k f fd ps sp) : COk P w K mg base CX k x ps sp := ⟨f, fd, h, D.mgx, D.fn.kp, D.bd⟩
theorem COk.mono {P : Program} {w : World} {K : PySem.W.Frag} {mg : Str → Option Value} {base : Heap} {CX : CXT} {k j : Nat} {x : Str} {ps : List Str} {sp : Sp}
    (h : COk P w K mg base CX k x ps sp) (hk : k ≤ j) : COk P w K mg base CX j x ps sp := by
  obtain ⟨f, fd, F, a, b, c⟩ := h
  exact ⟨f, fd, F.mono hk, a, b, c⟩
section
variable {X : Cx} {k : Nat} {x : Str} {ps : List Str} {sp : Sp} {e : Expr} {es : List Expr} {t : TA} {p pos : Pos}
theorem pe_c (C : COk X.prog X.w X.K X.mg X.base CX0 k x ps sp) (hr : Room k X.A) (ha : PA X (e :: es) t) (hg : Gl X x := by rfl)
    (hdb : (x == ("__debug__" : Str)) = false := by decide) (he : starEach (e :: es) X.env = (false, eval e X.env) :: starEach es X.env := by rfl) (hpl : (backTo pos (starEach es X.env)).any (·.1) = false := by rfl) :
    PE X (.Call (.Name x p) (e :: es) [] pos) (tCall sp [] E0 t) := by
  obtain ⟨f, fd, F, a, b, c⟩ := C
  exact pe_call F hr hg a b c .nil pass0 ha hdb he hpl
/-- one of two readings -/
theorem pe_alt {e : Expr} {t u : TE} (h : PE X e t) (h' : PE X e u) : PE X e (fun σ H Q => t σ H Q ∨ u σ H Q) :=
  ⟨fun pins s σ H Q I q => q.elim (h.run pins s σ H Q I) (h'.run pins s σ H Q I)⟩
/-- // by any divisor but nought -/
def CDivS (_ j : Int) : Prop := j ≠ 0 ∧ j.natAbs < 2 ^ 8000
theorem op_fdivS : OpR X (binaryOp .FloorDiv) (rI CDivS fun i j => .int (i.fdiv j)) := opI fun _ _ _ _ _ _ _ hc q =>
  PyProof.Rows.floordiv_int hc.1 q (.inl (PyProof.noPylong_of_log2 (Nat.lt_of_lt_of_le (PySem.Flt.log2_lt_of (k := 8000) (by decide) hc.2) (by decide))))
/-- ** of great ints -/
def CPowW (i j : Int) : Prop := 0 ≤ j ∧ (Builtin.Int.intBits i : Int) * j ≤ 2 ^ 27
/-- a written power -/
theorem pe_powc {a n v : Int} {j j' : Nat} {p p' pos : Pos} (h : a ^ n.toNat = v) (hc : CPow a n) : PE X (.BinOp (.Constant (.int a) j p) .Pow (.Constant (.int n) j' p') pos) (tC (.int v)) := by
  refine ⟨fun pins s σ H Q I q => ?_⟩
  have q' : Q (.int (a ^ n.toNat)) H := by rw [h]; exact q
  exact (pe_op op_pow pe_int pe_int).run pins s σ H Q I ⟨a, n, rfl, rfl, hc, q'⟩
/-- x ** 2 -/
def CSq (i : Int) : Prop := (Builtin.Int.intBits i : Int) * 2 ≤ 2 ^ 27
theorem op_sq : OpR X (binaryOp .Pow) (fun x y H Q => ∃ i, x = .int i ∧ y = .int 2 ∧ CSq i ∧ Q (.int (i * i)) H) := by
  intro pins s σ H x y v u Q I rx ry h
  obtain ⟨i, rfl, rfl, hc, q⟩ := h
  have e : i ^ (2 : Int).toNat = i * i := by
    show i ^ 2 = i * i
    grind
  exact (opI fun _ _ _ _ _ _ _ hc q => PyProof.Rows.pow_int hc.1 hc.2 q : OpR X (binaryOp .Pow) (rI CPowW fun i j => .int (i ^ j.toNat))) pins s σ H _ _ v u Q I rx ry ⟨i, 2, rfl, rfl, ⟨by decide, hc⟩, by show Q (.int (i ^ (2 : Int).toNat)) H; rw [e]; exact q⟩
theorem op_powW : OpR X (binaryOp .Pow) (rI CPowW fun i j => .int (i ^ j.toNat)) := opI fun _ _ _ _ _ _ _ hc q => PyProof.Rows.pow_int hc.1 hc.2 q
end
theorem same_upd {H : Hp} {p : Addr} {o : HO} (h : H p = none) : Same H (upd H p o) := fun b x e => by
  rw [upd_ne (ne_of_none e h)]
  exact e
theorem defAt_mk {K : PySem.W.Frag} {mg : Str → Option Value} {h : Heap} {x : Str} {st : Stmt} {ps : List Str} {f : Addr} {oc : Value} {od an : Option Addr} {osl : Array (Option Value)} {kV doc pm cdv ct : Value}
    (X : K.In h) (G : h.Ns mainGlobals mg) (a : PySem.W.nsIn K mainGlobals x = some (some (.ref f)))
    (l : K.lookup f = some ⟨oc, od, .func (PySem.W.fnOf x x (defArgs st) (defBody st) (defScope st) .none kV doc pm an cdv ct), osl⟩) (c : PySem.W.codeIn K cdv x = true) (k : PySem.W.keepIn K (.ref f) = true)
    (hb : ∀ (kV doc pm : Value) (an : Option Addr) (cdv ct : Value) (us : List Value), us.length = ps.length → bindArgs (PySem.W.fnOf x x (defArgs st) (defBody st) (defScope st) .none kV doc pm an cdv ct) ⟨us, []⟩ = pure (ps.zip us)) :
    DefAt K mg x st ps f (PySem.W.fnOf x x (defArgs st) (defBody st) (defScope st) .none kV doc pm an cdv ct) :=
  ⟨fun_mk l c k, PySem.W.mg_of X G a, (fun_mk (st := st) l c k).binds hb⟩
/-- the built-ins' names are still their own -/
structure BT (mg : Str → Option Value) : Prop where
  b_len : mg "len" = none
  b_isinstance : mg "isinstance" = none
  b_range : mg "range" = none
  b_zip : mg "zip" = none
  b_abs : mg "abs" = none
  b_divmod : mg "divmod" = none
  b_min : mg "min" = none
  b_all : mg "all" = none
  b_any : mg "any" = none
  b_list : mg "list" = none
  b_tuple : mg "tuple" = none
  b_str : mg "str" = none
  b_int : mg "int" = none
  b_bool : mg "bool" = none
  b_sum : mg "sum" = none
  b_max : mg "max" = none
/-! ### what the laws' own helpers do: a row of numbers is drawn from the script -/
/-- the script at a: known, never written -/
def ScrAt (K : PySem.W.Frag) (H : Hp) (a : Addr) (ns : List Int) : Prop := (∃ o, H a = some (.frz o (.lst (ns.map V.int)))) ∨ ∀ H', SqL K H' a (ns.map V.int)
theorem ScrAt.seq {K : PySem.W.Frag} {H : Hp} {a : Addr} {ns : List Int} (h : ScrAt K H a ns) : SqL K H a (ns.map V.int) := by
  rcases h with ⟨o, h⟩ | h
  · exact .inl (.inr ⟨o, h⟩)
  · exact h H
theorem ScrAt.of {K : PySem.W.Frag} {H : Hp} {a : Addr} {ns : List Int} (hO : Only H) (h : SqL K H a (ns.map V.int)) : ScrAt K H a ns := by
  rcases h with (h | ⟨o, h⟩) | h
  · rcases hO a with z | ⟨o, xs, z⟩
    · rw [z] at h; cases h
    · rw [z] at h; cases h
  · exact .inl ⟨o, h⟩
  · exact .inr fun _ => .inr h
theorem ScrAt.same {K : PySem.W.Frag} {H H' : Hp} {a : Addr} {ns : List Int} (h : ScrAt K H a ns) (s : Same H H') : ScrAt K H' a ns := by
  rcases h with ⟨o, h⟩ | h
  · exact .inl ⟨o, s _ _ h⟩
  · exact .inr h
/-- what is no locked thing may be written -/
theorem ScrAt.but {K : PySem.W.Frag} {H H' : Hp} {a r : Addr} {ns : List Int} (h : ScrAt K H a ns) (hr : ∀ o u, H r ≠ some (.frz o u)) (k : ∀ b o, H b = some o → b ≠ r → H' b = some o) : ScrAt K H' a ns := by
  rcases h with ⟨o, h⟩ | h
  · exact .inl ⟨o, k _ _ h fun z => by rw [z] at h; exact hr _ _ h⟩
  · exact .inr h
theorem no_frz {H : Hp} {r : Addr} {xs : List V} (h : H r = some (.lst xs)) : ∀ o u, H r ≠ some (.frz o u) := fun o u z => by rw [h] at z; cases z
/-- the row at r: the script at a (ns), a place in it, what is left of a great number, a mixed number -/
structure RowAt (K : PySem.W.Frag) (H : Hp) (r a : Addr) (ns : List Int) : Prop where
  row : ∃ (i : Nat) (left mixed : Int), H r = some (.lst [.ref a, .int i, .int left, .int mixed]) ∧ i ≤ ns.length ∧ 0 ≤ left ∧ 0 ≤ mixed ∧ mixed < 2147483647
  scr : ScrAt K H a ns
theorem ref_ne {a : Addr} {xs : List V} (ns : List Int) : V.ref a :: xs ≠ ns.map V.int := by
  cases ns with
  | nil => intro z; cases z
  | cons n r => intro z; rw [List.map_cons] at z; cases (List.cons.inj z).1
theorem RowAt.same {K : PySem.W.Frag} {H H' : Hp} {r a : Addr} {ns : List Int} (R : RowAt K H r a ns) (s : Same H H') : RowAt K H' r a ns := by
  obtain ⟨⟨i, l, m, e, z⟩, hS⟩ := R
  exact ⟨⟨i, l, m, s _ _ e, z⟩, hS.same s⟩
/-- a list other than the row is written -/
theorem RowAt.put {K : PySem.W.Frag} {H : Hp} {r a d : Addr} {ns : List Int} {xs ys : List V} (R : RowAt K H r a ns) (hd : H d = some (.lst xs)) (ne : d ≠ r) : RowAt K (upd H d (.lst ys)) r a ns := by
  obtain ⟨⟨i, l, m, e, z⟩, hS⟩ := R
  exact ⟨⟨i, l, m, by rw [upd_ne ne.symm]; exact e, z⟩, hS.but (no_frz hd) fun b o h hb => by rw [upd_ne hb]; exact h⟩
theorem RowAt.at_ {K : PySem.W.Frag} {H : Hp} {r a : Addr} {ns : List Int} (R : RowAt K H r a ns) : ∃ x xs, H r = some (.lst (.ref x :: xs)) := by
  obtain ⟨⟨i, l, m, e, z⟩, hS⟩ := R
  exact ⟨_, _, e⟩
def sp_law_row (K : PySem.W.Frag) : Sp := fun vs H Q _ => ∃ (a : Addr) (ns : List Int), vs = [.ref a] ∧ ScrAt K H a ns ∧ ns.length ≤ 63 ∧
  ∀ r H', H r = none → Same H H' → RowAt K H' r a ns → Q (.ref r) H'
/-- a drawn number: any one below many; only the row's list changes -/
def sp_law_taken (K : PySem.W.Frag) : Sp := fun vs H Q _ => ∃ (r a : Addr) (ns : List Int) (many : Int), vs = [.ref r, .int many] ∧ RowAt K H r a ns ∧ 0 < many ∧ many < 2 ^ 8000 ∧
  ∀ v H', 0 ≤ v → v < many → RowAt K H' r a ns → (∀ b o, H b = some o → b ≠ r → H' b = some o) → Q (.int v) H'
section
variable {P : Program} {w : World} {K : PySem.W.Frag} {mg : Str → Option Value} {base : Heap}
theorem ok_law_row {f : Addr} {fd : FuncData} (F : Fun K "_law_row" "_law_row" s_law_row f fd) : FnOk P w K mg base CX0 1 f fd ["_law_script"] (sp_law_row K) := by
  refine F.ok sc_law_row (fun vs H Q E h => ?_) (fun cdv A outer s H vs Q E hr h => ?_)
  · obtain ⟨a, ns, rfl, _⟩ := h
    rfl
  · obtain ⟨a, ns, rfl, hC, hlen, k⟩ := h
    have hS := hC.seq
    refine ⟨_, (pss_cons (ps_set (i := 1) sc_law_row.nd rfl (Or.inl rfl) pe_int)
    (pss_cons (ps_for PassesOwn.never rfl (pi_list (pv 0)) (pg_name (i := 2) sc_law_row.nd rfl (Or.inl rfl))
      (pss_one (ps_set (i := 1) sc_law_row.nd rfl (Or.inl rfl) (pe_op op_mod (pe_op op_add (pe_op op_add (pe_op op_mul (pv 1) pe_int) (pv 2)) pe_int) pe_int))))
    (pss_one (ps_ret (pe_lst (pa_cons (pv 0) (pa_cons pe_int (pa_cons pe_int (pa_cons (pv 1) pa_nil))))))))), ?_⟩
    refine ⟨_, rfl, a, rfl, ⟨_, hS⟩, for_list (K := K) (a := a) (xs := ns.map V.int) (fun i σ H2 => ∃ (m : Int) (v : Option V), σ = [some (.ref a), some (.int m), v] ∧ 0 ≤ m ∧ m < 2147483647 ∧ H2 = H)
      ⟨7, none, rfl, by decide, by decide, rfl⟩ (fun i σ H2 _ ⟨_, _, _, _, _, e⟩ => by rw [e]; exact hS) ?_ ?_⟩
    · rintro i y σ H2 hi ⟨m, v, rfl, h0, h1, rfl⟩
      obtain ⟨z, rfl⟩ : ∃ z, y = V.int z := by
        rw [List.getElem?_map] at hi
        cases e : ns[i]? with
        | none => rw [e] at hi; cases hi
        | some z => rw [e] at hi; exact ⟨z, (Option.some.inj hi).symm⟩
      refine ⟨_, rfl, _, _, rfl, rfl, .inl ⟨by omega, by omega⟩, _, rfl, _, _, rfl, rfl, _, _, rfl, rfl, _, _, rfl, rfl, (by show (0 : Int) < 2147483647; decide), ?_⟩
      exact ⟨_, _, rfl, Int.emod_nonneg _ (by decide), Int.emod_lt_of_pos _ (by decide), rfl⟩
    · rintro σ H2 ⟨m, v, rfl, h0, h1, rfl⟩
      refine ⟨_, rfl, _, rfl, (by show 4 ≤ sizeLine; decide), fun p hp => ?_⟩
      exact k p _ hp (same_upd hp) ⟨⟨0, 0, m, upd_same, Nat.zero_le _, by decide, h0, h1⟩, hC.same (same_upd hp)⟩
theorem natAbs_lt_pow {z : Int} {n : Nat} (h0 : 0 ≤ z) (h : z < 2 ^ n) : z.natAbs < 2 ^ n := by
  have e : ((2 ^ n : Nat) : Int) = 2 ^ n := by norm_cast
  omega
theorem ok_law_taken {f : Addr} {fd : FuncData} (F : Fun K "_law_taken" "_law_taken" s_law_taken f fd) (T : BT mg) : FnOk P w K mg base CX0 1 f fd ["_law_row_here", "_law_many"] (sp_law_taken K) := by
  refine F.ok sc_law_taken (fun vs H Q E h => ?_) (fun cdv A outer s H vs Q E hr h => ?_)
  · obtain ⟨r, a, ns, many, rfl, _⟩ := h
    rfl
  · obtain ⟨r, a, ns, many, rfl, ⟨⟨i, left, mixed, hr0, hi, hl, hm0, hm1⟩, hC⟩, hm, hmw, k⟩ := h
    have hS := hC.seq
    have mw : ∀ z, CDivW z many := fun z => wide_div (b := 8000) hm (natAbs_lt_pow (Int.le_of_lt hm) hmw) (by decide) (by decide)
    have nra : ∀ o, ScrAt K (upd H r o) a ns := fun o => hC.but (no_frz hr0) fun b z e hb => by rw [upd_ne hb]; exact e
    have kp : ∀ o b z, H b = some z → b ≠ r → (upd H r o) b = some z := fun o b z e hb => by rw [upd_ne hb]; exact e
    refine ⟨_, (pss_cons (ps_if (pt_cmpR op_gt (pe_ix ix_list (pv 0) pe_int (fun _ _ => rfl)) pe_int (nomark _))
      (pss_cons (ps_set (i := 2) sc_law_taken.nd rfl (Or.inl rfl) (pe_op op_mod (pe_ix ix_list (pv 0) pe_int (fun _ _ => rfl)) (pv 1)))
    (pss_cons (ps_asg (pe_op op_fdivW (pe_ix ix_list (pv 0) pe_int (fun _ _ => rfl)) (pv 1)) (pg_sub (pv 0) pe_int set_list))
    (pss_one (ps_ret (pv 2))))) pss_nil)
    (pss_cons (ps_if (pt_cmpR op_lt (pe_ix ix_list (pv 0) pe_int (fun _ _ => rfl)) (pe_callB call_len_seq (by rfl) T.b_len (by decide +kernel) (pa_cons (pe_ix ix_list (pv 0) pe_int (fun _ _ => rfl)) pa_nil)) (nomark _))
      (pss_cons (ps_set (i := 3) sc_law_taken.nd rfl (Or.inl rfl) (pe_ix ix_list (pe_ix ix_list (pv 0) pe_int (fun _ _ => rfl)) (pe_ix ix_list (pv 0) pe_int (fun _ _ => rfl)) (fun _ _ => rfl)))
    (pss_cons (ps_asg (pe_op op_add (pe_ix ix_list (pv 0) pe_int (fun _ _ => rfl)) pe_int) (pg_sub (pv 0) pe_int set_list))
    (pss_cons (ps_if (pt_cmpR op_ge (pv 3) (pe_powc (v := 1000000000000000000) (by decide) ⟨by decide, by decide, by decide⟩) (nomark _))
      (pss_one (ps_asg (pe_op op_fdivW (pv 3) (pv 1)) (pg_sub (pv 0) pe_int set_list))) pss_nil)
    (pss_one (ps_ret (pe_op op_mod (pv 3) (pv 1))))))) pss_nil)
    (pss_cons (ps_asg (pe_op op_mod (pe_op op_add (pe_op op_mul (pe_ix ix_list (pv 0) pe_int (fun _ _ => rfl)) pe_int) pe_int) pe_int) (pg_sub (pv 0) pe_int set_list))
    (pss_one (ps_ret (pe_op op_mod (pe_op op_fdiv (pe_ix ix_list (pv 0) pe_int (fun _ _ => rfl)) pe_int) (pv 1))))))), ?_⟩
    refine ⟨_, rfl, r, _, 2, .int left, rfl, rfl, SqL.of hr0, atI_nat (j := 2) rfl, _, _, rfl, rfl, _, rfl, ite2 (fun c => ?_) (fun c => ?_)⟩
    · -- what is left of a great number
      refine ⟨_, rfl, r, _, 2, .int left, rfl, rfl, SqL.of hr0, atI_nat (j := 2) rfl, _, rfl, _, _, rfl, rfl, hm, ?_⟩
      refine ⟨_, rfl, r, _, 2, .int left, rfl, rfl, SqL.of hr0, atI_nat (j := 2) rfl, _, rfl, _, _, rfl, rfl, mw _, ?_⟩
      refine ⟨_, rfl, r, _, 2, 2, rfl, rfl, hr0, rfl, ?_⟩
      refine ⟨_, rfl, k _ _ (Int.emod_nonneg _ (by omega)) (Int.emod_lt_of_pos _ hm) ⟨⟨i, left / many, mixed, upd_same, hi, Int.ediv_nonneg hl (by omega), hm0, hm1⟩, nra _⟩ (kp _)⟩
    · refine ⟨_, rfl, r, _, 1, .int i, rfl, rfl, SqL.of hr0, atI_nat (j := 1) rfl, _, rfl, r, _, 0, .ref a, rfl, rfl, SqL.of hr0, atI_nat (j := 0) rfl, a, _, rfl, .inl hS, _, _, rfl, rfl, _, rfl, ite2 (fun c2 => ?_) (fun c2 => ?_)⟩
      · have hi2 : i < ns.length := by
          have := of_decide_eq_true c2
          rw [List.length_map] at this
          omega
        have hz : (ns.map V.int)[i]? = some (.int ns[i]) := by
          rw [List.getElem?_map, List.getElem?_eq_getElem hi2]
          rfl
        refine ⟨_, rfl, r, _, 0, .ref a, rfl, rfl, SqL.of hr0, atI_nat (j := 0) rfl, _, rfl, r, _, 1, .int i, rfl, rfl, SqL.of hr0, atI_nat (j := 1) rfl, a, _, i, _, rfl, rfl, hS, atI_nat hz, ?_⟩
        generalize ns[i] = cell
        refine ⟨_, rfl, r, _, 1, .int i, rfl, rfl, SqL.of hr0, atI_nat (j := 1) rfl, _, _, rfl, rfl, _, rfl, r, _, 1, 1, rfl, rfl, hr0, rfl, ?_⟩
        have h1 : (upd H r (.lst [V.ref a, .int ((i : Int) + 1), .int left, .int mixed])) r = _ := upd_same
        refine ⟨_, rfl, _, _, rfl, rfl, _, rfl, ite2 (fun c3 => ?_) (fun c3 => ?_)⟩
        · have hc : 0 ≤ cell := by
            have := of_decide_eq_true c3
            omega
          refine ⟨_, rfl, _, rfl, _, _, rfl, rfl, mw _, _, rfl, r, _, 2, 2, rfl, rfl, h1, rfl, ?_⟩
          refine ⟨_, rfl, _, rfl, _, _, rfl, rfl, hm, ?_⟩
          rw [upd_upd]
          exact k _ _ (Int.emod_nonneg _ (by omega)) (Int.emod_lt_of_pos _ hm) ⟨⟨i + 1, cell / many, mixed, upd_same, hi2, Int.ediv_nonneg hc (by omega), hm0, hm1⟩, nra _⟩ (kp _)
        · refine ⟨_, rfl, _, rfl, _, _, rfl, rfl, hm, ?_⟩
          exact k _ _ (Int.emod_nonneg _ (by omega)) (Int.emod_lt_of_pos _ hm) ⟨⟨i + 1, left, mixed, upd_same, hi2, hl, hm0, hm1⟩, nra _⟩ (kp _)
      · refine ⟨_, rfl, r, _, 3, .int mixed, rfl, rfl, SqL.of hr0, atI_nat (j := 3) rfl, _, _, rfl, rfl, .inl ⟨by omega, by omega⟩, _, _, rfl, rfl, _, _, rfl, rfl, (by show (0 : Int) < 2147483647; decide), _, rfl, r, _, 3, 3, rfl, rfl, hr0, rfl, ?_⟩
        have h1 : (upd H r (.lst [V.ref a, .int (i : Int), .int left, .int ((mixed * 48271 + 12345) % 2147483647)])) r = _ := upd_same
        refine ⟨_, rfl, r, _, 3, _, rfl, rfl, SqL.of h1, atI_nat (j := 3) rfl, _, _, rfl, rfl, ⟨by decide, by decide⟩, _, rfl, _, _, rfl, rfl, hm, ?_⟩
        exact k _ _ (Int.emod_nonneg _ (by omega)) (Int.emod_lt_of_pos _ hm) ⟨⟨i, left, _, upd_same, hi, hl, Int.emod_nonneg _ (by decide), Int.emod_lt_of_pos _ (by decide)⟩, nra _⟩ (kp _)
def sp_law_whole : Sp := fun vs H Q _ => ∃ i : Int, vs = [.int i] ∧ Q (.bl true) H
def sp_law_signed (K : PySem.W.Frag) : Sp := fun vs H Q _ => ∃ (r a : Addr) (ns : List Int) (most : Int), vs = [.ref r, .int most] ∧ RowAt K H r a ns ∧ 0 ≤ most ∧ most < 2 ^ 60 ∧
  ∀ v H', -most ≤ v → v ≤ most → RowAt K H' r a ns → (∀ b o, H b = some o → b ≠ r → H' b = some o) → Q (.int v) H'
theorem ok_law_signed {f : Addr} {fd : FuncData} (F : Fun K "_law_signed" "_law_signed" s_law_signed f fd) (G_law_taken : COk P w K mg base CX0 1 "_law_taken" ["_law_row_here", "_law_many"] (sp_law_taken K)) : FnOk P w K mg base CX0 2 f fd ["_law_row_here", "_law_most"] (sp_law_signed K) := by
  refine F.ok sc_law_signed (fun vs H Q E h => ?_) (fun cdv A outer s H vs Q E hr h => ?_)
  · obtain ⟨r, a, ns, most, rfl, _⟩ := h
    rfl
  · obtain ⟨r, a, ns, most, rfl, R, h0, h1, k⟩ := h
    refine ⟨_, (pss_one (ps_ret (pe_op op_sub (pe_c G_law_taken (hr.mono (by first | decide | omega)) (pa_cons (pv 0) (pa_cons (pe_op op_add (pe_op op_mul pe_int (pv 1)) pe_int) pa_nil))) (pv 1)))), ?_⟩
    have b60 : (2 : Int) ^ 60 = 1152921504606846976 := by decide
    have b8 : (2 : Int) ^ 62 < 2 ^ 8000 := by decide +kernel
    have b62 : (2 : Int) ^ 62 = 4611686018427387904 := by decide
    refine ⟨_, rfl, _, rfl, _, _, rfl, rfl, .inl ⟨by decide, by decide⟩, _, _, rfl, rfl, r, a, ns, _, rfl, R, by omega, by omega, fun v H' v0 v1 R' kp => ?_⟩
    exact ⟨_, rfl, _, _, rfl, rfl, k _ _ (by omega) (by omega) R' kp⟩
end

/-! ### root_below -/
/-- r is the greatest whole number whose square is no greater than n -/
def IsRoot (n r : Int) : Prop := 0 ≤ r ∧ r * r ≤ n ∧ n < (r + 1) * (r + 1)
theorem sq_nonneg (x : Int) : 0 ≤ x * x := by
  rcases Int.le_total 0 x with h | h
  · exact Int.mul_nonneg h h
  · exact Int.mul_nonneg_of_nonpos_of_nonpos h h
theorem IsRoot.unique {n r s : Int} (a : IsRoot n r) (b : IsRoot n s) : r = s := by
  obtain ⟨a0, a1, a2⟩ := a
  obtain ⟨b0, b1, b2⟩ := b
  have key : ∀ x y : Int, 0 ≤ x → 0 ≤ y → x * x ≤ n → n < (y + 1) * (y + 1) → x ≤ y := fun x y hx hy h1 h2 => by
    rcases Int.lt_or_le y x with h | h
    · have := Int.mul_le_mul (show y + 1 ≤ x by omega) (show y + 1 ≤ x by omega) (by omega) hx
      omega
    · exact h
  have h1 := key r s a0 b0 a1 b2
  have h2 := key s r b0 a0 b1 a2
  omega
theorem newton {n g q b : Int} (hg : 0 < g) (hq : q = n / g) (hb : b = (g + q) / 2) : n < (b + 1) * (b + 1) := by
  have h1 : n < g * (q + 1) := by
    have := Int.lt_mul_ediv_self_add (x := n) (k := g) hg
    rw [← hq] at this
    have e : g * (q + 1) = g * q + g := by grind
    omega
  have h2 : g + q + 1 ≤ 2 * (b + 1) := by omega
  have h3 : 4 * (g * (q + 1)) ≤ (g + q + 1) * (g + q + 1) := by
    have h : (g + q + 1) * (g + q + 1) - 4 * (g * (q + 1)) = (g - q - 1) * (g - q - 1) := by grind
    have := sq_nonneg (g - q - 1)
    omega
  rcases Int.lt_or_le n 0 with hn | hn
  · have := sq_nonneg (b + 1)
    omega
  · have hq0 : 0 ≤ q := by rw [hq]; exact Int.ediv_nonneg hn (by omega)
    have h4 : (g + q + 1) * (g + q + 1) ≤ (2 * (b + 1)) * (2 * (b + 1)) := Int.mul_le_mul h2 h2 (by omega) (by omega)
    have h5 : (2 * (b + 1)) * (2 * (b + 1)) = 4 * ((b + 1) * (b + 1)) := by grind
    omega
theorem newton_end {n g : Int} (hg : 0 < g) (hn : 0 ≤ n) (h : g ≤ (g + n / g) / 2) : g * g ≤ n := by
  have h1 : g ≤ n / g := by omega
  have h2 := Int.mul_le_mul_of_nonneg_left h1 (show 0 ≤ g by omega)
  have h3 := Int.mul_ediv_self_le (x := n) (k := g) (by omega)
  omega
theorem first_guess {n : Int} (h : 0 ≤ n) : n < ((2 : Int) ^ ((Builtin.Int.intBits n + 1) / 2) + 1) * ((2 : Int) ^ ((Builtin.Int.intBits n + 1) / 2) + 1) := by
  have hb : n < (2 : Int) ^ Builtin.Int.intBits n := by
    unfold Builtin.Int.intBits
    split
    · rename_i z
      have : n = 0 := by simpa using z
      subst this
      decide
    · have := Nat.lt_log2_self (n := n.natAbs)
      have e : ((2 ^ (n.natAbs.log2 + 1) : Nat) : Int) = 2 ^ (n.natAbs.log2 + 1) := by norm_cast
      omega
  generalize Builtin.Int.intBits n = m at *
  have hp : ∀ k : Nat, (0 : Int) < 2 ^ k := fun k => Int.pow_pos (by decide)
  have h1 : (2 : Int) ^ m ≤ 2 ^ ((m + 1) / 2) * 2 ^ ((m + 1) / 2) := by
    rw [← Int.pow_add]
    have z := Nat.pow_le_pow_right (n := 2) (by decide) (show m ≤ (m + 1) / 2 + (m + 1) / 2 by omega)
    exact_mod_cast z
  have h2 := hp ((m + 1) / 2)
  generalize (2 : Int) ^ ((m + 1) / 2) = g at *
  have e : (g + 1) * (g + 1) = g * g + 2 * g + 1 := by grind
  omega
def sp_root_below : Sp := fun vs H Q _ => ∃ n : Int, vs = [.int n] ∧ 0 ≤ n ∧ n < 2 ^ 4000 ∧ ∀ r, IsRoot n r → Q (.int r) H
section
variable {P : Program} {w : World} {K : PySem.W.Frag} {mg : Str → Option Value} {base : Heap}
theorem ok_root_below {f : Addr} {fd : FuncData} (F : Fun K "root_below" "root_below" s_root_below f fd) : FnOk P w K mg base CX0 1 f fd ["number"] sp_root_below := by
  refine F.ok sc_root_below (fun vs H Q E h => ?_) (fun cdv A outer s H vs Q E hr h => ?_)
  · obtain ⟨n, rfl, _⟩ := h
    rfl
  · obtain ⟨n, rfl, h0, hw, k⟩ := h
    refine ⟨_, (pss_cons (ps_if (pt_cmpR op_eq (pv 0) pe_int (nomark _))
      (pss_one (ps_ret pe_int)) pss_nil)
    (pss_cons (ps_set (i := 1) sc_root_below.nd rfl (Or.inl rfl) (pe_op op_shl pe_int (pe_op op_fdiv (pe_op op_add (pe_bits (pv 0)) pe_int) pe_int)))
    (pss_one (ps_while PassesOwn.never (pt_val pe_bl)
      (pss_cons (ps_set (i := 2) sc_root_below.nd rfl (Or.inl rfl) (pe_op op_fdiv (pe_op op_add (pv 1) (pe_op op_fdivW (pv 0) (pv 1))) pe_int))
    (pss_cons (ps_if (pt_cmpR op_ge (pv 2) (pv 1) (nomark _))
      (pss_one (ps_ret (pv 1))) pss_nil)
    (pss_one (ps_set (i := 1) sc_root_below.nd rfl (Or.inl rfl) (pv 2))))))))), ?_⟩
    refine ⟨_, rfl, rfl, _, rfl, ite2 (fun c => ?_) (fun c => ?_)⟩
    · have e : n = 0 := V.int.inj (of_decide_eq_true c)
      subst e
      exact k 0 ⟨by decide, by decide, by decide⟩
    · have hn : 0 < n := by
        have : n ≠ 0 := fun z => c (decide_eq_true (by rw [z]))
        omega
      have hbits : Builtin.Int.intBits n ≤ 4000 := PyProof.Rows.intBits_le (natAbs_lt_pow h0 hw)
      refine ⟨_, rfl, _, rfl, _, _, rfl, rfl, _, _, rfl, rfl, ⟨by decide, by decide⟩, _, _, rfl, rfl, ⟨by omega, by omega, by decide⟩, ?_⟩
      have e0 : (((Builtin.Int.intBits n : Nat) : Int) + 1) / 2 = (((Builtin.Int.intBits n + 1) / 2 : Nat) : Int) := by omega
      have e1 : (1 : Int) * 2 ^ ((((Builtin.Int.intBits n : Nat) : Int) + 1) / 2).toNat = 2 ^ ((Builtin.Int.intBits n + 1) / 2) := by rw [e0, Int.toNat_natCast, Int.one_mul]
      show tWhile _ _ _ [some (V.int n), some (V.int ((1 : Int) * 2 ^ ((((Builtin.Int.intBits n : Nat) : Int) + 1) / 2).toNat)), none] H
      rw [e1]
      refine while_by (fun σ H2 => ∃ (g : Int) (b : Option V), σ = [some (.int n), some (.int g), b] ∧ 0 < g ∧ g < 2 ^ 4001 ∧ n < (g + 1) * (g + 1) ∧ H2 = H)
        (fun σ _ => match σ with | [_, some (.int g), _] => g.toNat | _ => 0) ⟨_, none, rfl, Int.pow_pos (by decide), ?_, first_guess h0, rfl⟩ ?_ ?_
      · exact Int.pow_lt_pow_of_lt (by decide) (by omega)
      · rintro σ H2 ⟨g, b, rfl, hg, hgw, hlt, rfl⟩
        refine ⟨_, rfl, iteT ?_⟩
        refine ⟨_, rfl, _, rfl, _, rfl, _, _, rfl, rfl, wide_div (b := 4001) hg (natAbs_lt_pow (Int.le_of_lt hg) hgw) (by decide) (by decide), _, _, rfl, rfl, _, _, rfl, rfl, ⟨by decide, by decide⟩, ?_⟩
        have hb := newton (n := n) hg rfl rfl
        refine ⟨_, rfl, _, rfl, _, _, rfl, rfl, _, rfl, ite2 (fun c2 => ?_) (fun c2 => ?_)⟩
        · exact ⟨_, rfl, k g ⟨by omega, newton_end hg h0 (of_decide_eq_true c2), hlt⟩⟩
        · have c3 : ¬ g ≤ (g + n / g) / 2 := fun z => c2 (decide_eq_true z)
          have hd : 0 ≤ n / g := Int.ediv_nonneg h0 (by omega)
          have hb0 : 0 < (g + n / g) / 2 := by
            rcases Int.lt_or_le 0 ((g + n / g) / 2) with z | z
            · exact z
            · exfalso
              have e1 : g = 1 := by omega
              subst e1
              have : n / 1 = n := Int.ediv_one n
              omega
          exact ⟨_, rfl, ⟨_, _, rfl, hb0, by omega, hb, rfl⟩, by show ((g + n / g) / 2).toNat < g.toNat; omega⟩
      · intro σ H2 Q1 Q2 im hq
        exact hq.elim fun c ⟨e, z⟩ => ⟨c, e, im _ _ z⟩
end
/-! ### chains of fractions, in plain Lean -/
theorem fmod_pos {a b : Int} (h : 0 < b) : 0 ≤ a.fmod b ∧ a.fmod b < b := ⟨Int.fmod_nonneg_of_pos a h, Int.fmod_lt_of_pos a h⟩
theorem fmod_neg {a b : Int} (h : b < 0) : b < a.fmod b ∧ a.fmod b ≤ 0 := by
  have h1 := Int.fmod_nonneg_of_pos (-a) (show 0 < -b by omega)
  have h2 := Int.fmod_lt_of_pos (-a) (show 0 < -b by omega)
  rw [Int.neg_fmod_neg] at h1 h2
  omega
theorem fmod_abs {a b : Int} (h : b ≠ 0) : (a.fmod b).natAbs < b.natAbs := by
  rcases Int.lt_or_gt_of_ne h with h | h
  · have := fmod_neg (a := a) h; omega
  · have := fmod_pos (a := a) h; omega
theorem fdm (a b : Int) : b * a.fdiv b + a.fmod b = a := Int.mul_fdiv_add_fmod a b
theorem fmod_eq (a b : Int) : a - a.fdiv b * b = a.fmod b := by
  have := fdm a b
  rw [Int.mul_comm] at this
  omega
/-- the parts of the fraction t / b -/
def chain (t b : Int) : List Int := if h : b = 0 then [] else t.fdiv b :: chain b (t.fmod b)
termination_by b.natAbs
decreasing_by exact fmod_abs h
theorem chain_zero (t : Int) : chain t 0 = [] := by rw [chain, dif_pos rfl]
theorem chain_cons {t b : Int} (h : b ≠ 0) : chain t b = t.fdiv b :: chain b (t.fmod b) := by rw [chain, dif_neg h]
theorem chain_len : ∀ (n : Nat) (t b : Int), b.natAbs < 2 ^ n → (chain t b).length ≤ 2 * n
  | 0, t, b, h => by
    have e : b = 0 := by simp at h; exact h
    rw [e, chain_zero]; simp
  | n + 1, t, b, h => by
    by_cases hb : b = 0
    · rw [hb, chain_zero]; simp
    · rw [chain_cons hb, List.length_cons]
      by_cases hr : t.fmod b = 0
      · rw [hr, chain_zero, List.length_nil]; omega
      · rw [chain_cons hr, List.length_cons]
        have key : (b.fmod (t.fmod b)).natAbs < 2 ^ n := by
          have h1 := fdm b (t.fmod b)
          have hrp : 0 < b → 0 ≤ t.fmod b ∧ t.fmod b < b := fun z => fmod_pos z
          have hrn : b < 0 → b < t.fmod b ∧ t.fmod b ≤ 0 := fun z => fmod_neg z
          generalize t.fmod b = r at *
          have hd : ∀ q s : Int, r * q + s = b → ((0 < b ∧ 0 ≤ r ∧ r < b) ∨ (b < 0 ∧ b < r ∧ r ≤ 0)) → ((0 ≤ s ∧ s < r) ∨ (r < s ∧ s ≤ 0)) → 2 * s.natAbs < b.natAbs := by
            intro q s e c1 c2
            rcases c1 with ⟨p1, p2, p3⟩ | ⟨p1, p2, p3⟩
            · rcases c2 with ⟨p4, p5⟩ | ⟨p4, p5⟩
              · have hq : 0 < q := by
                  rcases Int.lt_or_le 0 q with z | z
                  · exact z
                  · have := Int.mul_le_mul_of_nonneg_left z p2
                    rw [Int.mul_zero] at this
                    omega
                have := Int.mul_le_mul_of_nonneg_left (show 1 ≤ q from hq) p2
                omega
              · omega
            · rcases c2 with ⟨p4, p5⟩ | ⟨p4, p5⟩
              · omega
              · have hq : 0 < q := by
                  rcases Int.lt_or_le 0 q with z | z
                  · exact z
                  · have := Int.mul_nonneg_of_nonpos_of_nonpos p3 z
                    omega
                have := Int.mul_nonneg (show 0 ≤ -r by omega) (show 0 ≤ q - 1 by omega)
                have e3 : -r * (q - 1) = r - r * q := by grind
                omega
          have c1 : (0 < b ∧ 0 ≤ r ∧ r < b) ∨ (b < 0 ∧ b < r ∧ r ≤ 0) := by
            rcases Int.lt_or_gt_of_ne hb with z | z
            · exact .inr ⟨z, hrn z⟩
            · exact .inl ⟨z, hrp z⟩
          have c2 : (0 ≤ b.fmod r ∧ b.fmod r < r) ∨ (r < b.fmod r ∧ b.fmod r ≤ 0) := by
            rcases Int.lt_or_gt_of_ne hr with z | z
            · exact .inr (fmod_neg z)
            · exact .inl (fmod_pos z)
          have := hd _ _ h1 c1 c2
          have e2 : 2 ^ (n + 1) = 2 * 2 ^ n := by rw [Nat.pow_succ]; omega
          omega
        have := chain_len n (t.fmod b) (b.fmod (t.fmod b)) key
        omega
/-- what a row of parts comes to -/
def fold : List Int → Int × Int
  | [] => (1, 0)
  | p :: r => (p * (fold r).1 + (fold r).2, (fold r).1)
theorem fold_pos : ∀ r : List Int, (∀ p ∈ r, 1 ≤ p) → 1 ≤ (fold r).1 ∧ 0 ≤ (fold r).2 ∧ (r ≠ [] → 1 ≤ (fold r).2)
  | [], _ => ⟨by decide, by decide, fun h => absurd rfl h⟩
  | p :: r, h => by
    obtain ⟨h1, h2, _⟩ := fold_pos r fun q hq => h q (List.mem_cons_of_mem _ hq)
    have hp := h p List.mem_cons_self
    have := Int.mul_le_mul hp h1 (by decide) (by omega)
    show 1 ≤ p * (fold r).1 + (fold r).2 ∧ 0 ≤ (fold r).1 ∧ (_ → 1 ≤ (fold r).1)
    omega
/-- parts as a chain has them behind the first: 1 or more, the last 2 or more -/
def Tail (r : List Int) : Prop := (∀ p ∈ r, 1 ≤ p) ∧ ∀ x, r.getLast? = some x → 2 ≤ x
theorem Tail.tail {p : Int} {r : List Int} (h : Tail (p :: r)) : Tail r := by
  refine ⟨fun q hq => h.1 q (List.mem_cons_of_mem _ hq), fun x hx => h.2 x ?_⟩
  cases r with
  | nil => cases hx
  | cons y s => rw [List.getLast?_cons_cons]; exact hx
theorem fold_tail : ∀ r : List Int, r ≠ [] → Tail r → (fold r).2 < (fold r).1
  | [], h, _ => absurd rfl h
  | [p], _, h => by
    have := h.2 p rfl
    show (1 : Int) < p * 1 + 0
    omega
  | p :: q :: r, _, h => by
    obtain ⟨h1, h2, h3⟩ := fold_pos (q :: r) fun x hx => h.1 x (List.mem_cons_of_mem _ hx)
    have hp := h.1 p List.mem_cons_self
    have := Int.mul_le_mul_of_nonneg_right hp (show 0 ≤ (fold (q :: r)).1 by omega)
    have h4 := h3 (List.cons_ne_nil _ _)
    show (fold (q :: r)).1 < p * (fold (q :: r)).1 + (fold (q :: r)).2
    omega
theorem fdiv_unique {a b q r : Int} (hb : 0 < b) (h : a = q * b + r) (h0 : 0 ≤ r) (h1 : r < b) : a.fdiv b = q ∧ a.fmod b = r := by
  have e := fdm a b
  obtain ⟨m0, m1⟩ := fmod_pos (a := a) hb
  have k : a.fdiv b = q := by
    generalize a.fdiv b = x at *
    generalize a.fmod b = y at *
    rcases Int.lt_trichotomy x q with z | z | z
    · have := Int.mul_le_mul_of_nonneg_left (show x + 1 ≤ q by omega) (show 0 ≤ b by omega)
      have e1 : b * (x + 1) = b * x + b := by grind
      have e2 : b * q = q * b := Int.mul_comm _ _
      omega
    · exact z
    · have := Int.mul_le_mul_of_nonneg_left (show q + 1 ≤ x by omega) (show 0 ≤ b by omega)
      have e1 : b * (q + 1) = b * q + b := by grind
      have e2 : b * q = q * b := Int.mul_comm _ _
      omega
  refine ⟨k, ?_⟩
  rw [k, Int.mul_comm] at e
  omega
theorem chain_fold : ∀ (p : Int) (r : List Int), Tail r → chain (fold (p :: r)).1 (fold (p :: r)).2 = p :: r
  | p, [], _ => by
    show chain (p * 1 + 0) 1 = [p]
    obtain ⟨e1, e2⟩ := fdiv_unique (a := p * 1 + 0) (b := 1) (q := p) (r := 0) (by decide) (by omega) (by decide) (by decide)
    rw [chain_cons (by decide), e1, e2, chain_zero]
  | p, q :: r, h => by
    obtain ⟨h1, h2, h3⟩ := fold_pos (q :: r) h.1
    have h4 := fold_tail (q :: r) (List.cons_ne_nil _ _) h
    have ih := chain_fold q r h.tail
    show chain (p * (fold (q :: r)).1 + (fold (q :: r)).2) (fold (q :: r)).1 = p :: q :: r
    obtain ⟨e1, e2⟩ := fdiv_unique (a := p * (fold (q :: r)).1 + (fold (q :: r)).2) (b := (fold (q :: r)).1) (q := p) (r := (fold (q :: r)).2) (by omega) rfl h2 h4
    rw [chain_cons (by omega), e1, e2, ih]
theorem gcd_fold : ∀ r : List Int, Int.gcd (fold r).1 (fold r).2 = 1
  | [] => by decide
  | p :: r => by
    have ih := gcd_fold r
    show Int.gcd (p * (fold r).1 + (fold r).2) (fold r).1 = 1
    rw [Int.gcd_comm, Int.add_comm, Int.mul_comm, Int.gcd_add_mul_left_right]
    exact ih
/-- a fraction is what its chain comes to, but for a factor -/
theorem fold_chain : ∀ (n : Nat) (t b : Int), b.natAbs ≤ n → ∃ g : Int, t = g * (fold (chain t b)).1 ∧ b = g * (fold (chain t b)).2 ∧ (0 < b → 0 < g) ∧ (b < 0 → g < 0) ∧ (b = 0 → g = t)
  | n, t, b, hn => by
    by_cases hb : b = 0
    · subst hb
      rw [chain_zero]
      exact ⟨t, by show t = t * 1; omega, by show (0 : Int) = t * 0; omega, fun h => by omega, fun h => by omega, fun _ => rfl⟩
    · have hm := fmod_abs (a := t) hb
      match n, hn with
      | n + 1, hn =>
        obtain ⟨g, e1, e2, p1, p2, p3⟩ := fold_chain n b (t.fmod b) (by omega)
        rw [chain_cons hb]
        refine ⟨g, ?_, e1, fun z => ?_, fun z => ?_, fun z => absurd z hb⟩
        · have e := fdm t b
          show t = g * (t.fdiv b * (fold (chain b (t.fmod b))).1 + (fold (chain b (t.fmod b))).2)
          generalize fold (chain b (t.fmod b)) = x at *
          generalize t.fmod b = r at *
          generalize t.fdiv b = q at *
          grind
        · obtain ⟨m0, m1⟩ := fmod_pos (a := t) z
          rcases Int.lt_or_eq_of_le m0 with y | y
          · exact p1 y
          · rw [p3 y.symm]; exact z
        · obtain ⟨m0, m1⟩ := fmod_neg (a := t) z
          rcases Int.lt_or_eq_of_le m1 with y | y
          · exact p2 y
          · rw [p3 y]; exact z
      | 0, hn => omega
theorem fold_low {t b : Int} (hb : b ≠ 0) : ∃ g : Int, t = g * (fold (chain t b)).1 ∧ b = g * (fold (chain t b)).2 ∧ g ≠ 0 ∧ (0 < g ↔ 0 < b) ∧ (g.natAbs = Int.gcd t b) := by
  obtain ⟨g, e1, e2, p1, p2, p3⟩ := fold_chain b.natAbs t b (Nat.le_refl _)
  have hg : g ≠ 0 := by
    rcases Int.lt_or_gt_of_ne hb with z | z
    · have := p2 z; omega
    · have := p1 z; omega
  refine ⟨g, e1, e2, hg, ⟨fun z => ?_, p1⟩, ?_⟩
  · rcases Int.lt_or_gt_of_ne hb with y | y
    · have := p2 y; omega
    · exact y
  · have h := gcd_fold (chain t b)
    generalize fold (chain t b) = x at *
    rw [e1, e2, Int.gcd_mul_left, h, Nat.mul_one]
theorem fold_bound : ∀ (r : List Int), (∀ p ∈ r, p.natAbs ≤ 2 ^ 39) → (fold r).1.natAbs ≤ 2 ^ (40 * r.length) ∧ (fold r).2.natAbs ≤ 2 ^ (40 * r.length)
  | [], _ => ⟨by decide, by decide⟩
  | p :: r, h => by
    obtain ⟨h1, h2⟩ := fold_bound r fun q hq => h q (List.mem_cons_of_mem _ hq)
    have hp := h p List.mem_cons_self
    have e : 2 ^ (40 * (r.length + 1)) = 2 ^ 39 * 2 ^ (40 * r.length) + 2 ^ 39 * 2 ^ (40 * r.length) := by
      rw [Nat.mul_add, Nat.pow_add]
      omega
    have e3 : 2 ^ (40 * r.length) ≤ 2 ^ 39 * 2 ^ (40 * r.length) := Nat.le_mul_of_pos_left _ (by decide)
    show (p * (fold r).1 + (fold r).2).natAbs ≤ 2 ^ (40 * (r.length + 1)) ∧ (fold r).1.natAbs ≤ 2 ^ (40 * (r.length + 1))
    have e4 := Int.natAbs_add_le (p * (fold r).1) (fold r).2
    have e5 : (p * (fold r).1).natAbs ≤ 2 ^ 39 * 2 ^ (40 * r.length) := by
      rw [Int.natAbs_mul]
      exact Nat.mul_le_mul hp h1
    omega
/-! ### further helpers of the laws -/
section
variable {P : Program} {w : World} {K : PySem.W.Frag} {mg : Str → Option Value} {base : Heap}
theorem dpAll_ints {H : Hp} : ∀ ns : List Int, DpAll K H (ns.map V.int) (ns.map PyData.int)
  | [] => .nil
  | n :: r => .cons (.int n) (dpAll_ints r)
theorem shaped_ints (ns : List Int) : SeqAt.shaped (.list (ns.map PyData.int)) = true := PySem.W.ke_shaped_ints ns
def small (z : Int) : Prop := z.natAbs < 2 ^ 1000
theorem small_fdiv {z : Int} (h : small z) (h0 : z ≠ 0) (y : Int) : CDivS y z := ⟨h0, Nat.lt_of_lt_of_le h (Nat.pow_le_pow_right (by decide) (by decide))⟩
theorem small_mul {x y : Int} (h : small x) (h' : small y) : CMulW x y := wide_mul (a := 1000) (b := 1000) h h' (by decide) (by decide) (by decide)
theorem fdiv_abs {a b : Int} (hb : b ≠ 0) : (a.fdiv b).natAbs ≤ a.natAbs := by
  have key : ∀ (x y q r : Int), 0 < y → y * q + r = x → 0 ≤ r → r < y → q.natAbs ≤ x.natAbs := by
    intro x y q r hy e r0 r1
    rcases Int.lt_or_le q 0 with z | z
    · have := Int.mul_nonneg (show 0 ≤ y - 1 by omega) (show 0 ≤ -q - 1 by omega)
      have e2 : (y - 1) * (-q - 1) = -(y * q) - y + q + 1 := by grind
      omega
    · have := Int.mul_nonneg (show 0 ≤ y - 1 by omega) z
      have e2 : (y - 1) * q = y * q - q := by grind
      omega
  rcases Int.lt_or_gt_of_ne hb with z | z
  · have h1 := fdm (-a) (-b)
    rw [Int.neg_fdiv_neg] at h1
    have := fmod_pos (a := -a) (show 0 < -b by omega)
    have := key (-a) (-b) _ _ (by omega) h1 this.1 this.2
    omega
  · exact key a b _ _ z (fdm a b) (fmod_pos z).1 (fmod_pos z).2
theorem small_fd {a b : Int} (h : small a) (hb : b ≠ 0) : small (a.fdiv b) := Nat.lt_of_le_of_lt (fdiv_abs hb) h
theorem small_fm {a b : Int} (h : small b) (hb : b ≠ 0) : small (a.fmod b) := Nat.lt_trans (fmod_abs hb) h
end
/-! ### methods and makers, in short -/
def MOk (P : Program) (w : World) (K : PySem.W.Frag) (mg : Str → Option Value) (base : Heap) (CX : CXT) (k : Nat) (C : Addr) (m : Str) (ps : List Str) (sp : Sp) : Prop :=
  Cls K C ∧ ∃ (f : Addr) (fd : FuncData), FnOk P w K mg base CX k f fd ps sp ∧ Meth K C m f ∧ Binds K fd ps []
def IOk (P : Program) (w : World) (K : PySem.W.Frag) (mg : Str → Option Value) (base : Heap) (k : Nat) (x : Str) (C : Addr) (ps : List Str) (sp : Sp) : Prop :=
  mg x = some (.ref C) ∧ ∃ (f : Addr) (fd : FuncData), FnOk P w K mg base CX0 k f fd ps sp ∧ Mk K C f ∧ Binds K fd ps []
theorem MOk.of {P : Program} {w : World} {K : PySem.W.Frag} {mg : Str → Option Value} {base : Heap} {CX : CXT} {k : Nat} {C : Addr} {m qual : Str} {ps : List Str} {sp : Sp} {st : Stmt}
    (c : Cls K C) (D : ∃ f fd, Fun K m qual st f fd ∧ Meth K C m f ∧ Binds K fd ps []) (h : ∀ f fd, Fun K m qual st f fd → FnOk P w K mg base CX k f fd ps sp) : MOk P w K mg base CX k C m ps sp := by
  obtain ⟨f, fd, F, M, B⟩ := D
  exact ⟨c, f, fd, h f fd F, M, B⟩
theorem IOk.of {P : Program} {w : World} {K : PySem.W.Frag} {mg : Str → Option Value} {base : Heap} {k : Nat} {x : Str} {C : Addr} {m qual : Str} {ps : List Str} {sp : Sp} {st : Stmt}
    (g : mg x = some (.ref C)) (D : ∃ f fd, Fun K m qual st f fd ∧ Mk K C f ∧ Binds K fd ps []) (h : ∀ f fd, Fun K m qual st f fd → FnOk P w K mg base CX0 k f fd ps sp) : IOk P w K mg base k x C ps sp := by
  obtain ⟨f, fd, F, M, B⟩ := D
  exact ⟨g, f, fd, h f fd F, M, B⟩
theorem COk.by {P : Program} {w : World} {K : PySem.W.Frag} {mg : Str → Option Value} {base : Heap} {CX : CXT} {k : Nat} {x : Str} {st : Stmt} {ps : List Str} {sp : Sp}
    (D : ∃ f fd, DefAt K mg x st ps f fd) (h : ∀ f fd, Fun K x x st f fd → FnOk P w K mg base CX k f fd ps sp) : COk P w K mg base CX k x ps sp := by
  obtain ⟨f, fd, F⟩ := D
  exact .of F (h f fd F.fn)
section
variable {X : Cx} {k : Nat} {x m : Str} {ps : List Str} {sp : Sp} {o e : Expr} {es : List Expr} {ta : TE} {t : TA} {p pos apos : Pos} {C : Addr}
theorem pe_m {pl : Sem Bool} (M : MOk X.prog X.w X.K X.mg X.base CX0 k C m ps sp) (hr : Room k X.A) (he : PE X o ta) (ha : PA X (e :: es) t)
    (hst : starEach (e :: es) X.env = (false, eval e X.env) :: starEach es X.env := by rfl) (hpl : (backTo pos (starEach es X.env)).any (·.1) = false := by rfl)
    (ht : eval (.Call (.Attribute o m apos) (e :: es) [] pos) X.env = (do
      let ov ← eval o X.env; standAt apos.atName
      let (f, first) ← holding [ov] (getMethod ov m pl)
      callWith pos f first (backTo pos (starEach (e :: es) X.env)) (backToKw pos (keywordEach [] X.env))) := by rfl) :
    PE X (.Call (.Attribute o m apos) (e :: es) [] pos) (tMeth C m sp [] E0 ta t) := by
  obtain ⟨c, f, fd, F, M, B⟩ := M
  exact pe_meth (pl := pl) he c M F hr B .nil pass0 ha hst hpl ht
theorem pe_m0 {pl : Sem Bool} (M : MOk X.prog X.w X.K X.mg X.base CX0 k C m ps sp) (hr : Room k X.A) (he : PE X o ta)
    (ht : eval (.Call (.Attribute o m apos) [] [] pos) X.env = (do
      let ov ← eval o X.env; standAt apos.atName
      let (f, first) ← holding [ov] (getMethod ov m pl)
      callWith pos f first (backTo pos (starEach [] X.env)) (backToKw pos (keywordEach [] X.env))) := by rfl) :
    PE X (.Call (.Attribute o m apos) [] [] pos) (tMeth C m sp [] E0 ta tNil) := by
  obtain ⟨c, f, fd, F, M, B⟩ := M
  exact pe_meth0 (pl := pl) he c M F hr B .nil pass0 ht
theorem pe_mk (I : IOk X.prog X.w X.K X.mg X.base k x C ps sp) (hr : Room (k + 1) X.A) (ha : PA X (e :: es) t) (hg : Gl X x := by rfl)
    (hdb : (x == ("__debug__" : Str)) = false := by decide) (he : starEach (e :: es) X.env = (false, eval e X.env) :: starEach es X.env := by rfl) (hpl : (backTo pos (starEach es X.env)).any (·.1) = false := by rfl) :
    PE X (.Call (.Name x p) (e :: es) [] pos) (tMake C sp [] E0 t) := by
  obtain ⟨g, f, fd, F, M, B⟩ := I
  exact pe_make M F hr hg g B .nil pass0 ha hdb he hpl
theorem pe_mk0 (I : IOk X.prog X.w X.K X.mg X.base k x C ps sp) (hr : Room (k + 1) X.A) (hg : Gl X x := by rfl) (hdb : (x == ("__debug__" : Str)) = false := by decide) :
    PE X (.Call (.Name x p) [] [] pos) (tMake C sp [] E0 tNil) := by
  obtain ⟨g, f, fd, F, M, B⟩ := I
  exact pe_make0 M F hr hg g B .nil pass0 hdb
/-- what a call lets out, the def lets out -/
theorem passes_tk {E : XK} (tk : Takes X (fun cls d _ H => E cls d H)) : Passes (L2.CX X.prog X.w) X E := fun pins σ H s e s' I c => passAt (W := fun cls d _ H => E cls d H) tk σ pins H s e s' I c
theorem pe_mX {E : XK} {pl : Sem Bool} (M : MOk X.prog X.w X.K X.mg X.base (L2.CX X.prog X.w) k C m ps sp) (hr : Room k X.A) (hx : Passes (L2.CX X.prog X.w) X E) (he : PE X o ta) (ha : PA X (e :: es) t)
    (hst : starEach (e :: es) X.env = (false, eval e X.env) :: starEach es X.env := by rfl) (hpl : (backTo pos (starEach es X.env)).any (·.1) = false := by rfl)
    (ht : eval (.Call (.Attribute o m apos) (e :: es) [] pos) X.env = (do
      let ov ← eval o X.env; standAt apos.atName
      let (f, first) ← holding [ov] (getMethod ov m pl)
      callWith pos f first (backTo pos (starEach (e :: es) X.env)) (backToKw pos (keywordEach [] X.env))) := by rfl) :
    PE X (.Call (.Attribute o m apos) (e :: es) [] pos) (tMeth C m sp [] E ta t) := by
  obtain ⟨c, f, fd, F, M, B⟩ := M
  exact pe_meth (pl := pl) he c M F hr B .nil hx ha hst hpl ht
theorem pe_mX0 {E : XK} {pl : Sem Bool} (M : MOk X.prog X.w X.K X.mg X.base (L2.CX X.prog X.w) k C m ps sp) (hr : Room k X.A) (hx : Passes (L2.CX X.prog X.w) X E) (he : PE X o ta)
    (ht : eval (.Call (.Attribute o m apos) [] [] pos) X.env = (do
      let ov ← eval o X.env; standAt apos.atName
      let (f, first) ← holding [ov] (getMethod ov m pl)
      callWith pos f first (backTo pos (starEach [] X.env)) (backToKw pos (keywordEach [] X.env))) := by rfl) :
    PE X (.Call (.Attribute o m apos) [] [] pos) (tMeth C m sp [] E ta tNil) := by
  obtain ⟨c, f, fd, F, M, B⟩ := M
  exact pe_meth0 (pl := pl) he c M F hr B .nil hx ht
/-- o.f as a target -/
def gFld (K : PySem.W.Frag) (to : TE) (f : Str) : TG := fun v σ H Q => to σ H fun x H1 => ∃ a C dx fs, x = .ref a ∧ H1 a = some (.ins C dx fs) ∧ Cls K C ∧ NoAttr K C f ∧ fs.length < 1000 ∧ Q σ (upd H1 a (.ins C dx (putF f v fs)))
open PySem.Spec PyProof.Rows in
theorem pg_fld {o : Expr} {to : TE} {f : Str} {pos : Pos} (ho : PE X o to)
    (ha : ∀ v, assign (.Attribute o f pos) X.env v = (do
      let ov ← holding [v] (eval o X.env); standAt pos.atName
      holding [v, ov] (setAttr ov f v); release [v, ov] []) := by intro _; rfl) : PG X (.Attribute o f pos) (gFld X.K to f) := by
  refine ⟨fun pins s σ H v u Q I r h => ?_⟩
  rw [ha]
  refine wpAny_bind (wpAny_holding (thn (ho.run pins s σ H _ I h) fun ov sA hA => ?_))
  obtain ⟨x, HA, IA, rA, a, C, dx, fs, rfl, ea, c, n, l, q⟩ := hA
  cases rA
  refine wpAny_bind (wpAny_standAt (wpAny_bind (wpAny_holding (setattr_ok IA ea c n l r fun sB IB => ?_))))
  exact wpAny_release ⟨σ, _, IB, q⟩
end
/-- an own class over ValueError -/
structure XC (K : PySem.W.Frag) (mg : Str → Option Value) (C : Addr) (n : Str) : Prop where
  g : mg n = some (.ref C)
  x : PySem.W.excIn K C [.type "ValueError", .type "Exception", .type "BaseException", .type "object"] "ValueError.__new__" = true
  k : PySem.W.keepIn K (.ref C) = true
  b : PySem.W.subIn K (.ref C) (.type "BaseException") = some true
  t : PySem.W.typeIn K (.ref C) = some (.type "type")
/-- where the classes and the tuples of the top stand -/
structure Ad where
  c_Meter : Addr
  c_FractionChain : Addr
  c_RootChain : Addr
  c_RuledChain : Addr
  c_Leaf : Addr
  c_FractionBox : Addr
  c_FourBox : Addr
  c_EightBox : Addr
  c_Reading : Addr
  k_END : Addr
  k_WAITS : Addr
  k_TIMES : Addr
  k_LENGTHS : Addr
  k_CHECKS : Addr
  c_BadTree : Addr
  c_NoValue : Addr
structure CT (K : PySem.W.Frag) (mg : Str → Option Value) (A : Ad) : Prop extends BT mg where
  cl_Meter : Cls K A.c_Meter
  n_Meter_left : NoAttr K A.c_Meter "left"
  n_Meter_spent : NoAttr K A.c_Meter "spent"
  g_Meter : mg "Meter" = some (.ref A.c_Meter)
  cl_FractionChain : Cls K A.c_FractionChain
  n_FractionChain_top : NoAttr K A.c_FractionChain "top"
  n_FractionChain_below : NoAttr K A.c_FractionChain "below"
  g_FractionChain : mg "FractionChain" = some (.ref A.c_FractionChain)
  cl_RootChain : Cls K A.c_RootChain
  n_RootChain_top : NoAttr K A.c_RootChain "top"
  n_RootChain_square : NoAttr K A.c_RootChain "square"
  n_RootChain_below : NoAttr K A.c_RootChain "below"
  n_RootChain_root : NoAttr K A.c_RootChain "root"
  g_RootChain : mg "RootChain" = some (.ref A.c_RootChain)
  cl_RuledChain : Cls K A.c_RuledChain
  n_RuledChain_parts : NoAttr K A.c_RuledChain "parts"
  n_RuledChain_ring : NoAttr K A.c_RuledChain "ring"
  n_RuledChain_steps : NoAttr K A.c_RuledChain "steps"
  n_RuledChain_at : NoAttr K A.c_RuledChain "at"
  g_RuledChain : mg "RuledChain" = some (.ref A.c_RuledChain)
  cl_Leaf : Cls K A.c_Leaf
  n_Leaf_chain : NoAttr K A.c_Leaf "chain"
  g_Leaf : mg "Leaf" = some (.ref A.c_Leaf)
  cl_FractionBox : Cls K A.c_FractionBox
  n_FractionBox_top : NoAttr K A.c_FractionBox "top"
  n_FractionBox_below : NoAttr K A.c_FractionBox "below"
  n_FractionBox_told : NoAttr K A.c_FractionBox "told"
  g_FractionBox : mg "FractionBox" = some (.ref A.c_FractionBox)
  cl_FourBox : Cls K A.c_FourBox
  n_FourBox_numbers : NoAttr K A.c_FourBox "numbers"
  n_FourBox_tree : NoAttr K A.c_FourBox "tree"
  n_FourBox_started : NoAttr K A.c_FourBox "started"
  n_FourBox_told : NoAttr K A.c_FourBox "told"
  n_FourBox_rest : NoAttr K A.c_FourBox "rest"
  g_FourBox : mg "FourBox" = some (.ref A.c_FourBox)
  cl_EightBox : Cls K A.c_EightBox
  n_EightBox_numbers : NoAttr K A.c_EightBox "numbers"
  n_EightBox_trees : NoAttr K A.c_EightBox "trees"
  n_EightBox_taken : NoAttr K A.c_EightBox "taken"
  n_EightBox_told : NoAttr K A.c_EightBox "told"
  n_EightBox_rest : NoAttr K A.c_EightBox "rest"
  g_EightBox : mg "EightBox" = some (.ref A.c_EightBox)
  cl_Reading : Cls K A.c_Reading
  n_Reading_box : NoAttr K A.c_Reading "box"
  n_Reading_meter : NoAttr K A.c_Reading "meter"
  g_Reading : mg "Reading" = some (.ref A.c_Reading)
  g_END : mg "END" = some (.ref A.k_END)
  t_END : ∀ H, SqT K H A.k_END [.str "end"]
  g_WAITS : mg "WAITS" = some (.ref A.k_WAITS)
  t_WAITS : ∀ H, SqT K H A.k_WAITS [.str "waits"]
  g_TIMES : mg "TIMES" = some (.ref A.k_TIMES)
  t_TIMES : ∀ H, SqT K H A.k_TIMES [.int 1, .int 0, .int 0, .int 0, .int 0, .int 0, .int 0, .int 1]
  i_MOST_NUMBER : ∃ t, mg "MOST_NUMBER" = some (.int 1000000000000 t)
  i_MOST_DEPTH : ∃ t, mg "MOST_DEPTH" = some (.int 5 t)
  i_MOST_PARTS : ∃ t, mg "MOST_PARTS" = some (.int 12 t)
  i_MOST_POWER : ∃ t, mg "MOST_POWER" = some (.int 4 t)
  g_LENGTHS : mg "LENGTHS" = some (.ref A.k_LENGTHS)
  g_CHECKS : mg "CHECKS" = some (.ref A.k_CHECKS)
  x_BadTree : XC K mg A.c_BadTree "BadTree"
  x_NoValue : XC K mg A.c_NoValue "NoValue"
structure DT (K : PySem.W.Frag) (mg : Str → Option Value) (A : Ad) : Prop where
  wall : ∃ f fd, DefAt K mg "_wall" s_wall ["k"] f fd
  root_below : ∃ f fd, DefAt K mg "root_below" s_root_below ["number"] f fd
  Meter_init : ∃ f fd, Fun K "__init__" "Meter.__init__" s_Meter_init f fd ∧ Mk K A.c_Meter f ∧ Binds K fd ["self"] []
  Meter_allow : ∃ f fd, Fun K "allow" "Meter.allow" s_Meter_allow f fd ∧ Meth K A.c_Meter "allow" f ∧ Binds K fd ["self", "most"] []
  Meter_pay : ∃ f fd, Fun K "pay" "Meter.pay" s_Meter_pay f fd ∧ Meth K A.c_Meter "pay" f ∧ Binds K fd ["self"] []
  FractionChain_init : ∃ f fd, Fun K "__init__" "FractionChain.__init__" s_FractionChain_init f fd ∧ Mk K A.c_FractionChain f ∧ Binds K fd ["self", "top", "below"] []
  FractionChain_has_ended : ∃ f fd, Fun K "has_ended" "FractionChain.has_ended" s_FractionChain_has_ended f fd ∧ Meth K A.c_FractionChain "has_ended" f ∧ Binds K fd ["self"] []
  FractionChain_next_part : ∃ f fd, Fun K "next_part" "FractionChain.next_part" s_FractionChain_next_part f fd ∧ Meth K A.c_FractionChain "next_part" f ∧ Binds K fd ["self"] []
  RootChain_init : ∃ f fd, Fun K "__init__" "RootChain.__init__" s_RootChain_init f fd ∧ Mk K A.c_RootChain f ∧ Binds K fd ["self", "top", "square", "below"] []
  RootChain_has_ended : ∃ f fd, Fun K "has_ended" "RootChain.has_ended" s_RootChain_has_ended f fd ∧ Meth K A.c_RootChain "has_ended" f ∧ Binds K fd ["self"] []
  RootChain_next_part : ∃ f fd, Fun K "next_part" "RootChain.next_part" s_RootChain_next_part f fd ∧ Meth K A.c_RootChain "next_part" f ∧ Binds K fd ["self"] []
  RootChain_what_is_left : ∃ f fd, Fun K "what_is_left" "RootChain.what_is_left" s_RootChain_what_is_left f fd ∧ Meth K A.c_RootChain "what_is_left" f ∧ Binds K fd ["self"] []
  RuledChain_init : ∃ f fd, Fun K "__init__" "RuledChain.__init__" s_RuledChain_init f fd ∧ Mk K A.c_RuledChain f ∧ Binds K fd ["self", "parts", "ring", "steps"] []
  RuledChain_has_ended : ∃ f fd, Fun K "has_ended" "RuledChain.has_ended" s_RuledChain_has_ended f fd ∧ Meth K A.c_RuledChain "has_ended" f ∧ Binds K fd ["self"] []
  RuledChain_next_part : ∃ f fd, Fun K "next_part" "RuledChain.next_part" s_RuledChain_next_part f fd ∧ Meth K A.c_RuledChain "next_part" f ∧ Binds K fd ["self"] []
  Leaf_init : ∃ f fd, Fun K "__init__" "Leaf.__init__" s_Leaf_init f fd ∧ Mk K A.c_Leaf f ∧ Binds K fd ["self", "chain"] []
  Leaf_ask : ∃ f fd, Fun K "ask" "Leaf.ask" s_Leaf_ask f fd ∧ Meth K A.c_Leaf "ask" f ∧ Binds K fd ["self", "meter"] []
  leaf_of : ∃ f fd, DefAt K mg "leaf_of" s_leaf_of ["tree"] f fd
  root_chain : ∃ f fd, DefAt K mg "root_chain" s_root_chain ["top", "square", "below"] f fd
  FractionBox_init : ∃ f fd, Fun K "__init__" "FractionBox.__init__" s_FractionBox_init f fd ∧ Mk K A.c_FractionBox f ∧ Binds K fd ["self", "top", "below", "told"] []
  FractionBox_ask : ∃ f fd, Fun K "ask" "FractionBox.ask" s_FractionBox_ask f fd ∧ Meth K A.c_FractionBox "ask" f ∧ Binds K fd ["self", "meter"] []
  FractionBox_nothing_left : ∃ f fd, Fun K "nothing_left" "FractionBox.nothing_left" s_FractionBox_nothing_left f fd ∧ Meth K A.c_FractionBox "nothing_left" f ∧ Binds K fd ["self"] []
  FourBox_init : ∃ f fd, Fun K "__init__" "FourBox.__init__" s_FourBox_init f fd ∧ Mk K A.c_FourBox f ∧ Binds K fd ["self", "numbers", "tree", "started", "told"] []
  FourBox_ask : ∃ f fd, Fun K "ask" "FourBox.ask" s_FourBox_ask f fd ∧ Meth K A.c_FourBox "ask" f ∧ Binds K fd ["self", "meter"] []
  FourBox_tell : ∃ f fd, Fun K "tell" "FourBox.tell" s_FourBox_tell f fd ∧ Meth K A.c_FourBox "tell" f ∧ Binds K fd ["self", "part"] []
  FourBox_take : ∃ f fd, Fun K "take" "FourBox.take" s_FourBox_take f fd ∧ Meth K A.c_FourBox "take" f ∧ Binds K fd ["self", "answer"] []
  EightBox_init : ∃ f fd, Fun K "__init__" "EightBox.__init__" s_EightBox_init f fd ∧ Mk K A.c_EightBox f ∧ Binds K fd ["self", "numbers", "one", "other"] []
  EightBox_ask : ∃ f fd, Fun K "ask" "EightBox.ask" s_EightBox_ask f fd ∧ Meth K A.c_EightBox "ask" f ∧ Binds K fd ["self", "meter"] []
  EightBox_tell : ∃ f fd, Fun K "tell" "EightBox.tell" s_EightBox_tell f fd ∧ Meth K A.c_EightBox "tell" f ∧ Binds K fd ["self", "part"] []
  EightBox_take : ∃ f fd, Fun K "take" "EightBox.take" s_EightBox_take f fd ∧ Meth K A.c_EightBox "take" f ∧ Binds K fd ["self", "which", "answer"] []
  EightBox_left_without : ∃ f fd, Fun K "left_without" "EightBox.left_without" s_EightBox_left_without f fd ∧ Meth K A.c_EightBox "left_without" f ∧ Binds K fd ["self", "which"] []
  box_of_one : ∃ f fd, DefAt K mg "box_of_one" s_box_of_one ["numbers", "tree", "told"] f fd
  with_first_part : ∃ f fd, DefAt K mg "with_first_part" s_with_first_part ["numbers", "part"] f fd
  with_second_part : ∃ f fd, DefAt K mg "with_second_part" s_with_second_part ["numbers", "part"] f fd
  turned_over : ∃ f fd, DefAt K mg "turned_over" s_turned_over ["numbers", "part"] f fd
  four_corners : ∃ f fd, DefAt K mg "four_corners" s_four_corners ["numbers"] f fd
  eight_corners : ∃ f fd, DefAt K mg "eight_corners" s_eight_corners ["numbers"] f fd
  sure_part : ∃ f fd, DefAt K mg "sure_part" s_sure_part ["corners"] f fd
  check_tree : ∃ f fd, DefAt K mg "check_tree" s_check_tree ["tree"] f fd
  check_at_depth : ∃ f fd, DefAt K mg "check_at_depth" s_check_at_depth ["tree", "depth"] f fd
  require : ∃ f fd, DefAt K mg "require" s_require ["holds", "why"] f fd
  check_row : ∃ f fd, DefAt K mg "check_row" s_check_row ["row", "fewest", "most"] f fd
  is_whole : ∃ f fd, DefAt K mg "is_whole" s_is_whole ["number"] f fd
  check_fraction : ∃ f fd, DefAt K mg "check_fraction" s_check_fraction ["tree", "depth"] f fd
  check_root : ∃ f fd, DefAt K mg "check_root" s_check_root ["tree", "depth"] f fd
  check_ruled : ∃ f fd, DefAt K mg "check_ruled" s_check_ruled ["tree", "depth"] f fd
  check_four : ∃ f fd, DefAt K mg "check_four" s_check_four ["tree", "depth"] f fd
  check_eight : ∃ f fd, DefAt K mg "check_eight" s_check_eight ["tree", "depth"] f fd
  check_line : ∃ f fd, DefAt K mg "check_line" s_check_line ["numbers"] f fd
  check_power : ∃ f fd, DefAt K mg "check_power" s_check_power ["tree", "depth"] f fd
  Reading_init : ∃ f fd, Fun K "__init__" "Reading.__init__" s_Reading_init f fd ∧ Mk K A.c_Reading f ∧ Binds K fd ["self", "box"] []
  Reading_part : ∃ f fd, Fun K "part" "Reading.part" s_Reading_part f fd ∧ Meth K A.c_Reading "part" f ∧ Binds K fd ["self", "most"] []
  Reading_took : ∃ f fd, Fun K "took" "Reading.took" s_Reading_took f fd ∧ Meth K A.c_Reading "took" f ∧ Binds K fd ["self"] []
  reader : ∃ f fd, DefAt K mg "reader" s_reader ["tree"] f fd
  box_of : ∃ f fd, DefAt K mg "box_of" s_box_of ["tree"] f fd
  power_box : ∃ f fd, DefAt K mg "power_box" s_power_box ["tree", "times"] f fd
  first_parts : ∃ f fd, DefAt K mg "first_parts" s_first_parts ["tree", "many", "most"] f fd
  compared : ∃ f fd, DefAt K mg "compared" s_compared ["one", "other", "most"] f fd
  order_of : ∃ f fd, DefAt K mg "order_of" s_order_of ["one", "other", "most"] f fd
  order_at : ∃ f fd, DefAt K mg "order_at" s_order_at ["at", "first", "second"] f fd
  is_greater : ∃ f fd, DefAt K mg "is_greater" s_is_greater ["first", "second"] f fd
  nearest : ∃ f fd, DefAt K mg "nearest" s_nearest ["tree", "size", "most"] f fd
  read_sides : ∃ f fd, DefAt K mg "read_sides" s_read_sides ["reading", "size", "most"] f fd
  stepped : ∃ f fd, DefAt K mg "stepped" s_stepped ["before", "last", "times"] f fd
  sides_within : ∃ f fd, DefAt K mg "sides_within" s_sides_within ["before", "last", "size"] f fd
  middle_reading : ∃ f fd, DefAt K mg "middle_reading" s_middle_reading ["low", "high"] f fd
  nearer_side : ∃ f fd, DefAt K mg "nearer_side" s_nearer_side ["order", "low", "high"] f fd
  law_row : ∃ f fd, DefAt K mg "_law_row" s_law_row ["_law_script"] f fd
  law_taken : ∃ f fd, DefAt K mg "_law_taken" s_law_taken ["_law_row_here", "_law_many"] f fd
  law_signed : ∃ f fd, DefAt K mg "_law_signed" s_law_signed ["_law_row_here", "_law_most"] f fd
  law_bad : ∃ f fd, DefAt K mg "_law_bad" s_law_bad ["_law_row_here"] f fd
  law_around : ∃ f fd, DefAt K mg "_law_around" s_law_around ["_law_row_here", "_law_tree", "_law_many"] f fd
  law_refused : ∃ f fd, DefAt K mg "_law_refused" s_law_refused ["_law_way", "_law_tree"] f fd
  law : ∃ f fd, DefAt K mg "law" s_law ["_law_script"] f fd

/-! ### the leaves: what they are, in plain Lean -/
inductive Chain where
  | frac (t b : Int)
  | root (t s b r : Int)
  | ruled (ps ring steps : List Int) (i : Nat)
def Chain.ended : Chain → Bool
  | .frac _ b => decide (b = 0)
  | .root _ _ _ _ => false
  | .ruled ps ring _ i => decide (ring = []) && decide (ps.length ≤ i)
def ruledAt (ps ring steps : List Int) (i : Nat) : Int :=
  if i < ps.length then ps.getD i 0 else ring.getD ((i - ps.length) % ring.length) 0 + (((i - ps.length) / ring.length : Nat) : Int) * steps.getD ((i - ps.length) % ring.length) 0
def rootPart (t b r : Int) : Int := (t + r + (if b < 0 then 1 else 0)).fdiv b
def Chain.part : Chain → Int
  | .frac t b => t.fdiv b
  | .root t _ b r => rootPart t b r
  | .ruled ps ring steps i => ruledAt ps ring steps i
def Chain.next : Chain → Chain
  | .frac t b => .frac b (t.fmod b)
  | .root t s b r => .root (rootPart t b r * b - t) s ((s - (rootPart t b r * b - t) * (rootPart t b r * b - t)).fdiv b) r
  | .ruled ps ring steps i => .ruled ps ring steps (i + 1)
/-- numbers of a root's chain, bounded for good -/
structure RootOk (t s b r : Int) : Prop where
  rt : IsRoot s r
  ns : r * r ≠ s
  nz : b ≠ 0
  dv : ∃ q, s - t * t = q * b
  sw : s < 2 ^ 400
  bn : b < 0 → -b ≤ 2 ^ 150
  bp : 0 < b → b ≤ 2 * r + 1 + 2 ^ 150
  tw : t.natAbs < 2 ^ 300
def tame (z : Int) : Prop := -1000000000000 ≤ z ∧ z ≤ 1000000000000
structure RuledOk (ps ring steps : List Int) : Prop where
  p1 : ps ≠ []
  p12 : ps.length ≤ 12
  r12 : ring.length ≤ 12
  same : steps.length = ring.length
  tp : ∀ z ∈ ps, tame z
  tr : ∀ z ∈ ring, tame z
  ts : ∀ z ∈ steps, tame z
def Chain.Ok : Chain → Prop
  | .frac t b => small t ∧ small b
  | .root t s b r => RootOk t s b r
  | .ruled ps ring steps _ => RuledOk ps ring steps
/-! ### what stands in the heap -/
abbrev Flds := List (Str × V)
def chF (t b : Int) : Flds := [("top", .int t), ("below", .int b)]
def rtF (t s b r : Int) : Flds := [("top", .int t), ("square", .int s), ("below", .int b), ("root", .int r)]
def ruF (p q u : Addr) (i : Nat) : Flds := [("parts", .ref p), ("ring", .ref q), ("steps", .ref u), ("at", .int i)]
def meF (l s : Int) : Flds := [("left", .int l), ("spent", .int s)]
def leF (c : Addr) : Flds := [("chain", .ref c)]
def reF (b m : Addr) : Flds := [("box", .ref b), ("meter", .ref m)]
def Chain.At (A : Ad) (K : PySem.W.Frag) (H : Hp) (a : Addr) : Chain → Prop
  | .frac t b => ∃ dx, H a = some (.ins A.c_FractionChain dx (chF t b))
  | .root t s b r => ∃ dx, H a = some (.ins A.c_RootChain dx (rtF t s b r))
  | .ruled ps ring steps i => ∃ dx p q u, H a = some (.ins A.c_RuledChain dx (ruF p q u i)) ∧ SqT K H p (ps.map V.int) ∧ SqT K H q (ring.map V.int) ∧ SqT K H u (steps.map V.int)
def MeterAt (A : Ad) (H : Hp) (m : Addr) (l s : Int) : Prop := ∃ dx, H m = some (.ins A.c_Meter dx (meF l s))
/-- a tuple stays one where all that was tracked but some instances and lists stays -/
theorem sqT_but {K : PySem.W.Frag} {H H' : Hp} {a : Addr} {xs : List V} {N : Addr → Prop} (h : SqT K H a xs) (k : ∀ b o, H b = some o → ¬ N b → H' b = some o) (hN : ∀ b o, N b → H b = some o → (∀ ys, o ≠ .tup ys) ∧ ∀ ob u, o ≠ .frz ob u) : SqT K H' a xs := by
  rcases h with (h | ⟨o, h⟩) | h
  · exact .inl (.inl (k _ _ h fun z => (hN _ _ z h).1 _ rfl))
  · exact .inl (.inr ⟨o, k _ _ h fun z => (hN _ _ z h).2 _ _ rfl⟩)
  · exact .inr h
theorem sqT_same {K : PySem.W.Frag} {H H' : Hp} {a : Addr} {xs : List V} (h : SqT K H a xs) (k : Same H H') : SqT K H' a xs := by
  rcases h with (h | ⟨o, h⟩) | h
  · exact .inl (.inl (k _ _ h))
  · exact .inl (.inr ⟨o, k _ _ h⟩)
  · exact .inr h
theorem sqT_ins {K : PySem.W.Frag} {H : Hp} {a b C dx : Addr} {xs : List V} {fs : Flds} {o : HO} (h : SqT K H a xs) (hb : H b = some (.ins C dx fs)) : SqT K (upd H b o) a xs :=
  sqT_but (N := fun c => c = b) h (fun c u e n => by rw [upd_ne n]; exact e) fun c u e z => by
    subst e
    rw [hb] at z
    cases z
    exact ⟨fun _ q => (by cases q), fun _ _ q => (by cases q)⟩
/-- a maker that lays its arguments down -/
def sp_ini (C : Addr) (n : Nat) (mk : List V → Flds) : Sp := fun vs H Q _ => ∃ (p dx : Addr) (us : List V), vs = .ref p :: us ∧ us.length = n ∧ H p = some (.ins C dx []) ∧ Q .non (upd H p (.ins C dx (mk us)))
section
variable {P : Program} {w : World} {K : PySem.W.Frag} {mg : Str → Option Value} {base : Heap} {A : Ad}
theorem ok_FractionChain_init (T : CT K mg A) (D : DT K mg A) : IOk P w K mg base 1 "FractionChain" A.c_FractionChain ["self", "top", "below"] (sp_ini A.c_FractionChain 2 fun us => [("top", us.getD 0 .non), ("below", us.getD 1 .non)]) := by
  refine IOk.of T.g_FractionChain D.FractionChain_init fun f fd F => ?_
  refine F.ok sc_FractionChain_init (fun vs H Q E h => ?_) (fun cdv Ar outer s H vs Q E hr h => ?_)
  · obtain ⟨p, dx, us, rfl, hl, _⟩ := h
    show us.length + 1 = 3
    omega
  · obtain ⟨p, dx, us, rfl, hl, hp, k⟩ := h
    match us, hl with
    | [u0, u1], _ =>
      refine ⟨_, (pss_cons (ps_fld (pv 0) (pv 1) rfl)
    (pss_one (ps_fld (pv 0) (pv 2) rfl))), ?_⟩
      refine ⟨_, rfl, _, rfl, p, _, dx, [], rfl, hp, T.cl_FractionChain, T.n_FractionChain_top, (by show 0 < 1000; decide), ?_⟩
      refine ⟨_, rfl, _, rfl, p, _, dx, _, rfl, upd_same, T.cl_FractionChain, T.n_FractionChain_below, (by show 1 < 1000; decide), ?_⟩
      refine cast (congrArg (Q V.non) ?_) k
      rw [upd_upd]
      rfl
theorem ok_FractionChain_has_ended (T : CT K mg A) (D : DT K mg A) : MOk P w K mg base CX0 1 A.c_FractionChain "has_ended" ["self"] (fun vs H Q _ => ∃ a t b, vs = [.ref a] ∧ Chain.At A K H a (.frac t b) ∧ Q (.bl (decide (b = 0))) H) := by
  refine MOk.of T.cl_FractionChain D.FractionChain_has_ended fun f fd F => ?_
  refine F.ok sc_FractionChain_has_ended (fun vs H Q E h => ?_) (fun cdv Ar outer s H vs Q E hr h => ?_)
  · obtain ⟨a, t, b, rfl, _⟩ := h
    rfl
  · obtain ⟨a, t, b, rfl, ⟨dx, ha⟩, k⟩ := h
    refine ⟨_, (pss_one (ps_ret (pe_cmpR op_eq (pe_fld (pv 0) rfl) pe_int (nomark _)))), ?_⟩
    refine ⟨_, rfl, a, _, dx, _, _, rfl, ha, T.cl_FractionChain, T.n_FractionChain_below, rfl, rfl, ?_⟩
    show Q (.bl (decide (V.int b = V.int 0))) H
    rw [dec_int]
    exact cast (congrArg (fun z => Q (V.bl z) H) (by rw [Bool.beq_eq_decide_eq])) k
theorem ok_FractionChain_next_part (T : CT K mg A) (D : DT K mg A) : MOk P w K mg base CX0 1 A.c_FractionChain "next_part" ["self"] (fun vs H Q _ => ∃ a t b, vs = [.ref a] ∧ Chain.At A K H a (.frac t b) ∧ b ≠ 0 ∧ small t ∧ small b ∧
    ∀ H', Chain.At A K H' a (.frac b (t.fmod b)) → (∀ c o, H c = some o → c ≠ a → H' c = some o) → Q (.int (t.fdiv b)) H') := by
  refine MOk.of T.cl_FractionChain D.FractionChain_next_part fun f fd F => ?_
  refine F.ok sc_FractionChain_next_part (fun vs H Q E h => ?_) (fun cdv Ar outer s H vs Q E hr h => ?_)
  · obtain ⟨a, t, b, rfl, _⟩ := h
    rfl
  · obtain ⟨a, t, b, rfl, ⟨dx, ha⟩, hb, st, sb, k⟩ := h
    refine ⟨_, (pss_cons (ps_set (i := 1) sc_FractionChain_next_part.nd rfl (Or.inl rfl) (pe_op op_fdivS (pe_fld (pv 0) rfl) (pe_fld (pv 0) rfl)))
    (pss_cons (ps_asg (pe_tup (pa_cons (pe_fld (pv 0) rfl) (pa_cons (pe_op op_sub (pe_fld (pv 0) rfl) (pe_op op_mulW (pv 1) (pe_fld (pv 0) rfl))) pa_nil))) (pg_tup rfl (pgs_cons (pg_fld (pv 0)) (pgs_cons (pg_fld (pv 0)) pgs_nil))))
    (pss_one (ps_ret (pv 1))))), ?_⟩
    have cl := T.cl_FractionChain
    refine ⟨_, rfl, a, _, dx, _, _, rfl, ha, cl, T.n_FractionChain_top, rfl, _, rfl, a, _, dx, _, _, rfl, ha, cl, T.n_FractionChain_below, rfl, _, _, rfl, rfl, small_fdiv sb hb _, ?_⟩
    refine ⟨_, rfl, a, _, dx, _, _, rfl, ha, cl, T.n_FractionChain_below, rfl, _, rfl, a, _, dx, _, _, rfl, ha, cl, T.n_FractionChain_top, rfl, _, rfl, _, rfl, a, _, dx, _, _, rfl, ha, cl, T.n_FractionChain_below, rfl, _, _, rfl, rfl, small_mul (small_fd st hb) sb, _, _, rfl, rfl, ?_⟩
    refine ⟨(by show 2 ≤ sizeLine; decide), fun q nq => ?_⟩
    have s1 := same_upd (o := .tup [V.int b, .int (t - t.fdiv b * b)]) nq
    refine ⟨q, _, rfl, SqT.of upd_same, rfl, _, _, rfl, _, rfl, a, _, dx, _, rfl, s1 _ _ ha, cl, T.n_FractionChain_top, (by show 2 < 1000; decide), ?_⟩
    refine ⟨_, _, rfl, _, rfl, a, _, dx, _, rfl, upd_same, cl, T.n_FractionChain_below, (by show 2 < 1000; decide), rfl, ?_⟩
    refine ⟨_, rfl, k _ ⟨dx, ?_⟩ fun c o e hc => ?_⟩
    · rw [upd_same, ← fmod_eq t b]
      rfl
    · rw [upd_ne hc, upd_ne hc]
      exact s1 _ _ e
end
/-! ### a root's chain stays within its bounds -/
theorem IsRoot.abs {s t : Int} (h : t * t = s) : IsRoot s t.natAbs := by
  have e : (t.natAbs : Int) * t.natAbs = s := by rw [← h]; exact Int.natAbs_mul_self
  refine ⟨by omega, by omega, ?_⟩
  have e2 : ((t.natAbs : Int) + 1) * ((t.natAbs : Int) + 1) = t.natAbs * t.natAbs + 2 * t.natAbs + 1 := by grind
  omega
theorem lt_of_sq {r n : Int} {k : Nat} (h0 : 0 ≤ r) (h : r * r ≤ n) (hn : n < 2 ^ (k + k)) : r < 2 ^ k := by
  rcases Int.lt_or_le r (2 ^ k) with z | z
  · exact z
  · exfalso
    have h1 := Int.mul_le_mul z z (Int.le_of_lt (Int.pow_pos (by decide))) h0
    rw [← Int.pow_add] at h1
    omega
/-- x b < y b, b above nought -/
theorem lt_of_mul {x y b : Int} (hb : 0 < b) (h : x * b < y * b) : x < y := by
  rcases Int.lt_or_le x y with z | z
  · exact z
  · have := Int.mul_le_mul_of_nonneg_right z (Int.le_of_lt hb)
    omega
theorem le_of_mul {x y b : Int} (hb : 0 < b) (h : x * b ≤ y * b) : x ≤ y := by
  rcases Int.lt_or_le y x with z | z
  · have := Int.mul_le_mul_of_nonneg_right (show y + 1 ≤ x from z) (Int.le_of_lt hb)
    have e : (y + 1) * b = y * b + b := by grind
    omega
  · exact z
theorem root_step {t s b r a : Int} (h : RootOk t s b r) (ha : a = rootPart t b r) :
    (0 < b → a * b - t ≤ r ∧ r + 1 ≤ a * b - t + b) ∧ (b < 0 → r + 1 ≤ a * b - t ∧ a * b - t ≤ r - b) := by
  subst ha
  refine ⟨fun hb => ?_, fun hb => ?_⟩
  · have e := fdm (t + r + 0) b
    have := fmod_pos (a := t + r + 0) hb
    unfold rootPart
    rw [if_neg (by omega), Int.mul_comm]
    omega
  · have e := fdm (t + r + 1) b
    have := fmod_neg (a := t + r + 1) hb
    unfold rootPart
    rw [if_pos hb, Int.mul_comm]
    omega
theorem root_next {t s b r : Int} (h : RootOk t s b r) : RootOk (rootPart t b r * b - t) s ((s - (rootPart t b r * b - t) * (rootPart t b r * b - t)).fdiv b) r := by
  obtain ⟨sp, sn⟩ := root_step h rfl
  obtain ⟨rt, ns, nz, ⟨q, hq⟩, sw, bn, bp, tw⟩ := h
  generalize rootPart t b r = a at *
  obtain ⟨r0, r1, r2⟩ := rt
  have hr : r < 2 ^ 200 := lt_of_sq r0 r1 sw
  have p150 : (2 : Int) ^ 150 = 1427247692705959881058285969449495136382746624 := by decide
  have p200 : (2 : Int) ^ 200 = 1606938044258990275541962092341162602522202993782792835301376 := by decide
  have p300 : (2 : Nat) ^ 300 = 2037035976334486086268445688409378161051468393665936250636140449354381299763336706183397376 := by decide
  have hd : s - (a * b - t) * (a * b - t) = (q - a * (a * b - 2 * t)) * b := by
    have e : s - (a * b - t) * (a * b - t) = (s - t * t) - (a * (a * b - 2 * t)) * b := by grind
    rw [e, hq]
    grind
  have e2 : (s - (a * b - t) * (a * b - t)).fdiv b = q - a * (a * b - 2 * t) := by
    rw [hd]
    exact Int.mul_fdiv_cancel _ nz
  rw [e2]
  generalize q - a * (a * b - 2 * t) = c at *
  generalize a * b - t = u at *
  have ex : (r + 1) * (r + 1) = r * r + 2 * r + 1 := by grind
  have c0 : c ≠ 0 := fun z => by
    rw [z, Int.zero_mul] at hd
    have e : u * u = s := by omega
    have hu := (IsRoot.abs e).unique ⟨r0, r1, r2⟩
    have : (u.natAbs : Int) * u.natAbs = u * u := Int.natAbs_mul_self
    rw [hu] at this
    omega
  refine ⟨⟨r0, r1, r2⟩, ns, c0, ⟨b, by rw [hd, Int.mul_comm]⟩, sw, ?_, ?_, ?_⟩
  · intro hc
    rcases Int.lt_or_gt_of_ne nz with hb | hb
    · exfalso
      obtain ⟨u1, u2⟩ := sn hb
      have k1 := Int.mul_nonneg_of_nonpos_of_nonpos (Int.le_of_lt hc) (Int.le_of_lt hb)
      have k2 := Int.mul_le_mul u1 u1 (by omega) (by omega)
      omega
    · obtain ⟨u1, u2⟩ := sp hb
      have hu : u ≤ -r - 1 := by
        rcases Int.lt_or_le u (-r) with z | z
        · omega
        · exfalso
          have k1 : u * u ≤ r * r := by
            have := Int.mul_nonneg (show 0 ≤ r - u by omega) (show 0 ≤ r + u by omega)
            have e : (r - u) * (r + u) = r * r - u * u := by grind
            omega
          have k2 := Int.mul_nonneg (show 0 ≤ -c - 1 by omega) (Int.le_of_lt hb)
          have e3 : (-c - 1) * b = -(c * b) - b := by grind
          omega
      have k3 : (-c) * b ≤ (-u - r) * b := by
        have k4 := Int.mul_le_mul_of_nonneg_left (show -u + r ≤ b by omega) (show 0 ≤ -u - r by omega)
        have e4 : (-u - r) * (-u + r) = u * u - r * r := by grind
        have e5 : -c * b = -(c * b) := by grind
        omega
      have k5 := le_of_mul hb k3
      have := bp hb
      omega
  · intro hc
    rcases Int.lt_or_gt_of_ne nz with hb | hb
    · obtain ⟨u1, u2⟩ := sn hb
      have k3 : c * (-b) ≤ (u + r) * (-b) := by
        have k4 := Int.mul_le_mul_of_nonneg_left (show u - r ≤ -b by omega) (show 0 ≤ u + r by omega)
        have e4 : (u + r) * (u - r) = u * u - r * r := by grind
        have e5 : c * -b = -(c * b) := by grind
        omega
      have k5 := le_of_mul (show 0 < -b by omega) k3
      have := bn hb
      omega
    · obtain ⟨u1, u2⟩ := sp hb
      have hu : -r ≤ u := by
        rcases Int.lt_or_le u (-r) with z | z
        · exfalso
          have k1 := Int.mul_le_mul (show r + 1 ≤ -u by omega) (show r + 1 ≤ -u by omega) (by omega) (by omega)
          have e : -u * -u = u * u := by grind
          have k2 := Int.mul_nonneg (Int.le_of_lt hc) (Int.le_of_lt hb)
          omega
        · exact z
      have k3 : c * b < (r + 1 + u) * b := by
        have k4 := Int.mul_le_mul_of_nonneg_left (show r + 1 - u ≤ b by omega) (show 0 ≤ r + 1 + u by omega)
        have e4 : (r + 1 + u) * (r + 1 - u) = (r + 1) * (r + 1) - u * u := by grind
        omega
      have k5 := lt_of_mul hb k3
      omega
  · rcases Int.lt_or_gt_of_ne nz with hb | hb
    · obtain ⟨u1, u2⟩ := sn hb
      have := bn hb
      omega
    · obtain ⟨u1, u2⟩ := sp hb
      have := bp hb
      omega
theorem dvd_of_sq {w r s : Int} (hw : w ≠ 0) (h : r * r = s * (w * w)) : ∃ k, r = k * w := by
  have h1 : w ^ 2 ∣ r ^ 2 := ⟨s, by
    have e1 : r ^ 2 = r * r := by grind
    have e2 : w ^ 2 = w * w := by grind
    rw [e1, e2, h, Int.mul_comm]⟩
  have h2 : w ∣ r := (Int.pow_dvd_pow_iff (by decide)).mp h1
  obtain ⟨k, hk⟩ := h2
  exact ⟨k, by rw [hk, Int.mul_comm]⟩
/-- a root's first numbers, widened -/
theorem root_first {t s b r q : Int} (ht : tame t) (hs0 : 0 ≤ s) (hs : s ≤ 1000000000000) (hb : tame b) (h0 : b ≠ 0) (hr : IsRoot s r) (hn : r * r ≠ s) (hq : IsRoot (s * (b.natAbs : Int) * (b.natAbs : Int)) q) :
    RootOk (t * (b.natAbs : Int)) (s * (b.natAbs : Int) * (b.natAbs : Int)) (b * (b.natAbs : Int)) q := by
  obtain ⟨t1, t2⟩ := ht
  obtain ⟨b1, b2⟩ := hb
  have w0 : (0 : Int) < b.natAbs := by omega
  have w1 : (b.natAbs : Int) ≤ 1000000000000 := by omega
  have hbw : b = b.natAbs ∨ b = -(b.natAbs : Int) := by omega
  generalize (b.natAbs : Int) = w at *
  have ww : w * w ≤ 1000000000000 * 1000000000000 := Int.mul_le_mul w1 w1 (by omega) (by decide)
  have ww0 : 0 < w * w := Int.mul_pos w0 w0
  have sww : s * w * w ≤ 1000000000000 * (1000000000000 * 1000000000000) := by
    rw [Int.mul_assoc]
    exact Int.mul_le_mul hs ww (by omega) (by decide)
  have p150 : (2 : Int) ^ 150 = 1427247692705959881058285969449495136382746624 := by decide
  refine ⟨hq, fun z => ?_, ?_, ?_, Int.lt_of_le_of_lt sww (by decide +kernel), ?_, ?_, ?_⟩
  · obtain ⟨k, hk⟩ := dvd_of_sq (w := w) (r := q) (s := s) (by omega) (by rw [z, Int.mul_assoc])
    have e : k * k = s := by
      have e1 : (k * k - s) * (w * w) = 0 := by
        have : q * q = s * w * w := z
        rw [hk] at this
        grind
      rcases Int.mul_eq_zero.mp e1 with y | y <;> omega
    have hk2 := (IsRoot.abs e).unique hr
    have : (k.natAbs : Int) * k.natAbs = k * k := Int.natAbs_mul_self
    rw [hk2] at this
    omega
  · rcases hbw with e | e <;> rw [e]
    · omega
    · intro z
      have : -w * w = -(w * w) := by grind
      omega
  · rcases hbw with e | e <;> rw [e]
    · exact ⟨s - t * t, by grind⟩
    · exact ⟨-(s - t * t), by grind⟩
  · intro z
    have : -(b * w) ≤ w * w := by
      rcases hbw with e | e <;> rw [e]
      · omega
      · have : -w * w = -(w * w) := by grind
        omega
    omega
  · intro z
    have : b * w ≤ w * w := by
      rcases hbw with e | e <;> rw [e]
      · exact Int.le_refl _
      · have : -w * w = -(w * w) := by grind
        omega
    have := hq.1
    omega
  · rw [Int.natAbs_mul]
    have : t.natAbs * w.natAbs ≤ 1000000000000 * 1000000000000 := Nat.mul_le_mul (by omega) (by omega)
    exact Nat.lt_of_le_of_lt this (by decide +kernel)
section
variable {P : Program} {w : World} {K : PySem.W.Frag} {mg : Str → Option Value} {base : Heap} {A : Ad}
theorem root_small {t s b r : Int} (h : RootOk t s b r) : small t ∧ small b ∧ small r ∧ small s ∧ small (t + r + (if b < 0 then 1 else 0)) ∧ small (rootPart t b r) ∧ small (rootPart t b r * b - t) := by
  have n := root_next h
  obtain ⟨⟨r0, r1, r2⟩, ns, nz, dv, sw, bn, bp, tw⟩ := h
  have hr : r < 2 ^ 200 := lt_of_sq r0 r1 sw
  have p150 : (2 : Int) ^ 150 = 1427247692705959881058285969449495136382746624 := by decide
  have p200 : (2 : Int) ^ 200 = 1606938044258990275541962092341162602522202993782792835301376 := by decide
  have p300 : (2 : Nat) ^ 300 = 2037035976334486086268445688409378161051468393665936250636140449354381299763336706183397376 := by decide
  have up : ∀ z : Int, z.natAbs < 2 ^ 302 → small z := fun z hz => Nat.lt_trans hz (Nat.pow_lt_pow_right (by decide) (by decide))
  have p302 : (2 : Nat) ^ 302 = 4 * 2 ^ 300 := by decide
  have st : (t + r + (if b < 0 then 1 else 0)).natAbs < 2 ^ 302 := by split <;> omega
  have hs0 : 0 ≤ s := Int.le_trans (sq_nonneg r) r1
  refine ⟨up _ (by omega), up _ ?_, up _ (by omega), ?_, up _ st, ?_, up _ (by have := n.tw; omega)⟩
  · rcases Int.lt_or_gt_of_ne nz with z | z
    · have := bn z; omega
    · have := bp z; omega
  · exact Nat.lt_trans (natAbs_lt_pow hs0 sw) (Nat.pow_lt_pow_right (by decide) (by decide))
  · exact Nat.lt_of_le_of_lt (fdiv_abs nz) (up _ st)
def sp_RootChain_init (A : Ad) : Sp := fun vs H Q _ => ∃ (p dx : Addr) (t s b : Int), vs = [.ref p, .int t, .int s, .int b] ∧ H p = some (.ins A.c_RootChain dx []) ∧ tame t ∧ 0 ≤ s ∧ s ≤ 1000000000000 ∧ tame b ∧ b ≠ 0 ∧ (∀ r, IsRoot s r → r * r ≠ s) ∧
  ∀ q, RootOk (t * (b.natAbs : Int)) (s * (b.natAbs : Int) * (b.natAbs : Int)) (b * (b.natAbs : Int)) q → Q .non (upd H p (.ins A.c_RootChain dx (rtF (t * (b.natAbs : Int)) (s * (b.natAbs : Int) * (b.natAbs : Int)) (b * (b.natAbs : Int)) q)))
theorem small_tame {z : Int} (h : tame z) : small z := by
  obtain ⟨h1, h2⟩ := h
  have p40 : (2 : Nat) ^ 40 = 1099511627776 := by decide
  exact Nat.lt_trans (show z.natAbs < 2 ^ 40 by omega) (Nat.pow_lt_pow_right (by decide) (by decide))
theorem ok_RootChain_init (T : CT K mg A) (D : DT K mg A) (G_root_below : COk P w K mg base CX0 1 "root_below" ["number"] sp_root_below) (hroot : ∀ s : Int, 0 ≤ s → ∃ r, IsRoot s r) : IOk P w K mg base 2 "RootChain" A.c_RootChain ["self", "top", "square", "below"] (sp_RootChain_init A) := by
  refine IOk.of T.g_RootChain D.RootChain_init fun f fd F => ?_
  refine F.ok sc_RootChain_init (fun vs H Q E h => ?_) (fun cdv Ar outer s H vs Q E hr h => ?_)
  · obtain ⟨p, dx, t, s, b, rfl, _⟩ := h
    rfl
  · obtain ⟨p, dx, t, sq, b, rfl, hp, ht, hs0, hs1, hb, hb0, hns, k⟩ := h
    refine ⟨_, (pss_cons (ps_set (i := 4) sc_RootChain_init.nd rfl (Or.inl rfl) (pe_callB call_abs (by rfl) T.b_abs (by decide +kernel) (pa_cons (pv 3) pa_nil)))
    (pss_cons (ps_fld (pv 0) (pe_op op_mul (pv 1) (pv 4)) rfl)
    (pss_cons (ps_fld (pv 0) (pe_op op_mul (pe_op op_mul (pv 2) (pv 4)) (pv 4)) rfl)
    (pss_cons (ps_fld (pv 0) (pe_op op_mul (pv 3) (pv 4)) rfl)
    (pss_one (ps_fld (pv 0) (pe_c G_root_below (hr.mono (by first | decide | omega)) (pa_cons (pe_fld (pv 0) rfl) pa_nil)) rfl)))))), ?_⟩
    have cl := T.cl_RootChain
    have ew : (if b < 0 then -b else b) = (b.natAbs : Int) := by split <;> omega
    obtain ⟨b1, b2⟩ := id hb
    obtain ⟨t1, t2⟩ := id ht
    have w64 : -(2 ^ 64) < ((b.natAbs : Int)) ∧ ((b.natAbs : Int)) < 2 ^ 64 := by
      have : (2 : Int) ^ 64 = 18446744073709551616 := by decide
      omega
    refine ⟨_, rfl, b, rfl, ?_⟩
    show tSeq _ _ _ [some (V.ref p), some (V.int t), some (V.int sq), some (V.int b), some (V.int (if b < 0 then -b else b))] H
    rw [ew]
    refine ⟨_, rfl, _, rfl, _, _, rfl, rfl, .inr w64, _, rfl, p, _, dx, [], rfl, hp, cl, T.n_RootChain_top, (by show 0 < 1000; decide), ?_⟩
    refine ⟨_, rfl, _, rfl, _, _, rfl, rfl, .inr w64, _, rfl, _, _, rfl, rfl, .inr w64, _, rfl, p, _, dx, _, rfl, upd_same, cl, T.n_RootChain_square, (by show 1 < 1000; decide), ?_⟩
    refine ⟨_, rfl, _, rfl, _, _, rfl, rfl, .inr w64, _, rfl, p, _, dx, _, rfl, upd_same, cl, T.n_RootChain_below, (by show 2 < 1000; decide), ?_⟩
    have w1 : (b.natAbs : Int) ≤ 1000000000000 := by omega
    have ww : (b.natAbs : Int) * b.natAbs ≤ 1000000000000 * 1000000000000 := Int.mul_le_mul w1 w1 (by omega) (by decide)
    have ww0 : 0 ≤ (b.natAbs : Int) * b.natAbs := Int.mul_nonneg (by omega) (by omega)
    have sww : sq * (b.natAbs : Int) * b.natAbs ≤ 1000000000000 * (1000000000000 * 1000000000000) := by
      rw [Int.mul_assoc]
      exact Int.mul_le_mul hs1 ww ww0 (by decide)
    have sw0 : 0 ≤ sq * (b.natAbs : Int) * b.natAbs := by rw [Int.mul_assoc]; exact Int.mul_nonneg hs0 ww0
    refine ⟨_, rfl, p, _, dx, _, _, rfl, upd_same, cl, T.n_RootChain_square, rfl, _, rfl, sw0, Int.lt_of_le_of_lt sww (by decide +kernel), fun q hq => ?_⟩
    refine ⟨_, rfl, p, _, dx, _, rfl, upd_same, cl, T.n_RootChain_root, (by show 3 < 1000; decide), ?_⟩
    obtain ⟨r, hr0⟩ := hroot sq hs0
    refine cast (congrArg (Q V.non) ?_) (k q (root_first ht hs0 hs1 hb hb0 hr0 (hns r hr0) hq))
    rw [upd_upd, upd_upd, upd_upd]
    rfl
theorem ok_RootChain_has_ended (T : CT K mg A) (D : DT K mg A) : MOk P w K mg base CX0 1 A.c_RootChain "has_ended" ["self"] (fun vs H Q _ => ∃ a, vs = [.ref a] ∧ Q (.bl false) H) := by
  refine MOk.of T.cl_RootChain D.RootChain_has_ended fun f fd F => ?_
  refine F.ok sc_RootChain_has_ended (fun vs H Q E h => ?_) (fun cdv Ar outer s H vs Q E hr h => ?_)
  · obtain ⟨a, rfl, _⟩ := h
    rfl
  · obtain ⟨a, rfl, k⟩ := h
    exact ⟨_, (pss_one (ps_ret pe_bl)), k⟩
theorem ok_RootChain_next_part (T : CT K mg A) (D : DT K mg A) : MOk P w K mg base CX0 1 A.c_RootChain "next_part" ["self"] (fun vs H Q _ => ∃ a t s b r, vs = [.ref a] ∧ Chain.At A K H a (.root t s b r) ∧ RootOk t s b r ∧
    ∀ H', Chain.At A K H' a (Chain.next (.root t s b r)) → (∀ c o, H c = some o → c ≠ a → H' c = some o) → Q (.int (rootPart t b r)) H') := by
  refine MOk.of T.cl_RootChain D.RootChain_next_part fun f fd F => ?_
  refine F.ok sc_RootChain_next_part (fun vs H Q E h => ?_) (fun cdv Ar outer s H vs Q E hr h => ?_)
  · obtain ⟨a, t, s, b, r, rfl, _⟩ := h
    rfl
  · obtain ⟨a, t, sq, b, r, rfl, ⟨dx, ha⟩, ok, k⟩ := h
    refine ⟨_, (pss_cons (ps_set (i := 1) sc_RootChain_next_part.nd rfl (Or.inl rfl) (pe_ifExp (pt_cmpR op_lt (pe_fld (pv 0) rfl) pe_int (nomark _)) pe_int pe_int))
    (pss_cons (ps_set (i := 2) sc_RootChain_next_part.nd rfl (Or.inl rfl) (pe_op op_fdivS (pe_op op_add (pe_op op_add (pe_fld (pv 0) rfl) (pe_fld (pv 0) rfl)) (pv 1)) (pe_fld (pv 0) rfl)))
    (pss_cons (ps_fld (pv 0) (pe_op op_sub (pe_op op_mulW (pv 2) (pe_fld (pv 0) rfl)) (pe_fld (pv 0) rfl)) rfl)
    (pss_cons (ps_fld (pv 0) (pe_op op_fdivS (pe_op op_sub (pe_fld (pv 0) rfl) (pe_op op_mulW (pe_fld (pv 0) rfl) (pe_fld (pv 0) rfl))) (pe_fld (pv 0) rfl)) rfl)
    (pss_one (ps_ret (pv 2))))))), ?_⟩
    have cl := T.cl_RootChain
    obtain ⟨st, sb, sr, ss, sx, sp, su⟩ := root_small ok
    have nz := ok.nz
    refine ⟨_, rfl, a, _, dx, _, _, rfl, ha, cl, T.n_RootChain_below, rfl, _, _, rfl, rfl, _, rfl, ?_⟩
    have up : ∀ {Z : Int → Prop}, Z (if b < 0 then 1 else 0) → (if decide (b < 0) = true then Z 1 else Z 0) := fun {Z} hz => by
      by_cases c : b < 0
      · rw [decide_eq_true c, if_pos rfl]; rw [if_pos c] at hz; exact hz
      · rw [decide_eq_false c, if_neg (by decide)]; rw [if_neg c] at hz; exact hz
    refine up (Z := fun e => tSeq _ _ _ [some (V.ref a), some (V.int e), none] H) ?_
    refine ⟨_, rfl, a, _, dx, _, _, rfl, ha, cl, T.n_RootChain_top, rfl, _, rfl, a, _, dx, _, _, rfl, ha, cl, T.n_RootChain_root, rfl, _, _, rfl, rfl, _, rfl, _, _, rfl, rfl, _, rfl, a, _, dx, _, _, rfl, ha, cl, T.n_RootChain_below, rfl, _, _, rfl, rfl, small_fdiv sb nz _, ?_⟩
    refine ⟨_, rfl, _, rfl, a, _, dx, _, _, rfl, ha, cl, T.n_RootChain_below, rfl, _, _, rfl, rfl, small_mul sp sb, _, rfl, a, _, dx, _, _, rfl, ha, cl, T.n_RootChain_top, rfl, _, _, rfl, rfl, _, rfl, a, _, dx, _, rfl, ha, cl, T.n_RootChain_top, (by show 4 < 1000; decide), ?_⟩
    refine ⟨_, rfl, a, _, dx, _, _, rfl, upd_same, cl, T.n_RootChain_square, rfl, _, rfl, a, _, dx, _, _, rfl, upd_same, cl, T.n_RootChain_top, rfl, _, rfl, a, _, dx, _, _, rfl, upd_same, cl, T.n_RootChain_top, rfl, _, _, rfl, rfl, small_mul su su, _, _, rfl, rfl, _, rfl, a, _, dx, _, _, rfl, upd_same, cl, T.n_RootChain_below, rfl, _, _, rfl, rfl, small_fdiv sb nz _, _, rfl, a, _, dx, _, rfl, upd_same, cl, T.n_RootChain_below, (by show 4 < 1000; decide), ?_⟩
    refine ⟨_, rfl, k _ ⟨dx, ?_⟩ fun c o e hc => ?_⟩
    · rw [upd_same]
      rfl
    · rw [upd_ne hc, upd_ne hc]
      exact e
/-! ruled chains -/
theorem ok_RuledChain_init (T : CT K mg A) (D : DT K mg A) : IOk P w K mg base 1 "RuledChain" A.c_RuledChain ["self", "parts", "ring", "steps"] (sp_ini A.c_RuledChain 3 fun us => [("parts", us.getD 0 .non), ("ring", us.getD 1 .non), ("steps", us.getD 2 .non), ("at", .int 0)]) := by
  refine IOk.of T.g_RuledChain D.RuledChain_init fun f fd F => ?_
  refine F.ok sc_RuledChain_init (fun vs H Q E h => ?_) (fun cdv Ar outer s H vs Q E hr h => ?_)
  · obtain ⟨p, dx, us, rfl, hl, _⟩ := h
    show us.length + 1 = 4
    omega
  · obtain ⟨p, dx, us, rfl, hl, hp, k⟩ := h
    match us, hl with
    | [u0, u1, u2], _ =>
      refine ⟨_, (pss_cons (ps_fld (pv 0) (pv 1) rfl)
    (pss_cons (ps_fld (pv 0) (pv 2) rfl)
    (pss_cons (ps_fld (pv 0) (pv 3) rfl)
    (pss_one (ps_fld (pv 0) pe_int rfl))))), ?_⟩
      have cl := T.cl_RuledChain
      refine ⟨_, rfl, _, rfl, p, _, dx, [], rfl, hp, cl, T.n_RuledChain_parts, (by show 0 < 1000; decide), ?_⟩
      refine ⟨_, rfl, _, rfl, p, _, dx, _, rfl, upd_same, cl, T.n_RuledChain_ring, (by show 1 < 1000; decide), ?_⟩
      refine ⟨_, rfl, _, rfl, p, _, dx, _, rfl, upd_same, cl, T.n_RuledChain_steps, (by show 2 < 1000; decide), ?_⟩
      refine ⟨_, rfl, p, _, dx, _, rfl, upd_same, cl, T.n_RuledChain_at, (by show 3 < 1000; decide), ?_⟩
      refine cast (congrArg (Q V.non) ?_) k
      rw [upd_upd, upd_upd, upd_upd]
      rfl
theorem len_eq_nil {l : List Int} : decide (V.int (((l.map V.int).length : Nat) : Int) = V.int 0) = decide (l = []) := by
  cases l with
  | nil => rfl
  | cons x r =>
    rw [decide_eq_false (show ¬ (x :: r) = [] from List.cons_ne_nil _ _)]
    refine decide_eq_false fun z => ?_
    have := V.int.inj z
    rw [List.length_map, List.length_cons] at this
    omega
theorem ok_RuledChain_has_ended (T : CT K mg A) (D : DT K mg A) : MOk P w K mg base CX0 1 A.c_RuledChain "has_ended" ["self"] (fun vs H Q _ => ∃ a ps ring steps i, vs = [.ref a] ∧ Chain.At A K H a (.ruled ps ring steps i) ∧ Q (.bl (decide (ring = []) && decide (ps.length ≤ i))) H) := by
  refine MOk.of T.cl_RuledChain D.RuledChain_has_ended fun f fd F => ?_
  refine F.ok sc_RuledChain_has_ended (fun vs H Q E h => ?_) (fun cdv Ar outer s H vs Q E hr h => ?_)
  · obtain ⟨a, ps, ring, steps, i, rfl, _⟩ := h
    rfl
  · obtain ⟨a, ps, ring, steps, i, rfl, ⟨dx, p, q, u, ha, hp, hq, hu⟩, k⟩ := h
    refine ⟨_, (pss_one (ps_ret (pe_and (pe_cmpR op_eq (pe_callB call_len_seq (by rfl) T.b_len (by decide +kernel) (pa_cons (pe_fld (pv 0) rfl) pa_nil)) pe_int (nomark _)) (pe_one (pe_cmpR op_ge (pe_fld (pv 0) rfl) (pe_callB call_len_seq (by rfl) T.b_len (by decide +kernel) (pa_cons (pe_fld (pv 0) rfl) pa_nil)) (nomark _)))))), ?_⟩
    have cl := T.cl_RuledChain
    refine ⟨_, rfl, a, _, dx, _, _, rfl, ha, cl, T.n_RuledChain_ring, rfl, q, _, rfl, .inr hq, rfl, _, rfl, ?_⟩
    rw [len_eq_nil]
    by_cases c : ring = []
    · rw [decide_eq_true c] at k ⊢
      refine iteT ⟨_, rfl, a, _, dx, _, _, rfl, ha, cl, T.n_RuledChain_at, rfl, _, rfl, a, _, dx, _, _, rfl, ha, cl, T.n_RuledChain_parts, rfl, p, _, rfl, .inr hp, _, _, rfl, rfl, ?_⟩
      have e : decide ((((ps.map V.int).length : Nat) : Int) ≤ (i : Int)) = decide (ps.length ≤ i) := by
        rw [List.length_map]
        exact decide_eq_decide.mpr (by omega)
      show Q (.bl (decide ((((ps.map V.int).length : Nat) : Int) ≤ (i : Int)))) H
      rw [e]
      exact k
    · rw [decide_eq_false c] at k ⊢
      exact iteF k
theorem map_at {l : List Int} {i : Nat} (h : i < l.length) : (l.map V.int)[i]? = some (.int (l.getD i 0)) := by
  rw [List.getElem?_map, List.getElem?_eq_getElem h, List.getD_eq_getElem?_getD, List.getElem?_eq_getElem h]
  rfl
theorem mem_getD {l : List Int} {i : Nat} (h : i < l.length) : l.getD i 0 ∈ l := by
  rw [List.getD_eq_getElem?_getD, List.getElem?_eq_getElem h]
  exact List.getElem_mem h
theorem ok_RuledChain_next_part (T : CT K mg A) (D : DT K mg A) : MOk P w K mg base CX0 1 A.c_RuledChain "next_part" ["self"] (fun vs H Q _ => ∃ a ps ring steps i, vs = [.ref a] ∧ Chain.At A K H a (.ruled ps ring steps i) ∧ RuledOk ps ring steps ∧ (ring = [] → i < ps.length) ∧
    ∀ H', Chain.At A K H' a (.ruled ps ring steps (i + 1)) → (∀ c o, H c = some o → c ≠ a → H' c = some o) → Q (.int (ruledAt ps ring steps i)) H') := by
  refine MOk.of T.cl_RuledChain D.RuledChain_next_part fun f fd F => ?_
  refine F.ok sc_RuledChain_next_part (fun vs H Q E h => ?_) (fun cdv Ar outer s H vs Q E hr h => ?_)
  · obtain ⟨a, ps, ring, steps, i, rfl, _⟩ := h
    rfl
  · obtain ⟨a, ps, ring, steps, i, rfl, ⟨dx, p, q, u, ha, hp, hq, hu⟩, ok, hne, k⟩ := h
    refine ⟨_, (pss_cons (ps_set (i := 1) sc_RuledChain_next_part.nd rfl (Or.inl rfl) (pe_fld (pv 0) rfl))
    (pss_cons (ps_fldaug (pv 0) pe_int in_add)
    (pss_cons (ps_if (pt_cmpR op_lt (pv 1) (pe_callB call_len_seq (by rfl) T.b_len (by decide +kernel) (pa_cons (pe_fld (pv 0) rfl) pa_nil)) (nomark _))
      (pss_one (ps_ret (pe_ix ix_tup (pe_fld (pv 0) rfl) (pv 1) (fun _ _ => rfl)))) pss_nil)
    (pss_cons (ps_asg (pe_callB call_divmod (by rfl) T.b_divmod (by decide +kernel) (pa_cons (pe_op op_sub (pv 1) (pe_callB call_len_seq (by rfl) T.b_len (by decide +kernel) (pa_cons (pe_fld (pv 0) rfl) pa_nil))) (pa_cons (pe_callB call_len_seq (by rfl) T.b_len (by decide +kernel) (pa_cons (pe_fld (pv 0) rfl) pa_nil)) pa_nil))) (pg_tup rfl (pgs_cons (pg_name (i := 2) sc_RuledChain_next_part.nd rfl (Or.inl rfl)) (pgs_cons (pg_name (i := 3) sc_RuledChain_next_part.nd rfl (Or.inl rfl)) pgs_nil))))
    (pss_one (ps_ret (pe_op op_add (pe_ix ix_tup (pe_fld (pv 0) rfl) (pv 3) (fun _ _ => rfl)) (pe_op op_mul (pv 2) (pe_ix ix_tup (pe_fld (pv 0) rfl) (pv 3) (fun _ _ => rfl)))))))))), ?_⟩
    have cl := T.cl_RuledChain
    refine ⟨_, rfl, a, _, dx, _, _, rfl, ha, cl, T.n_RuledChain_at, rfl, ?_⟩
    refine ⟨_, rfl, a, _, dx, _, _, rfl, ha, cl, T.n_RuledChain_at, rfl, _, _, rfl, rfl, dx, _, ha, (by show 4 < 1000; decide), ?_⟩
    have h1 : ∀ o, (upd H a o) a = some o := fun o => upd_same
    have hp1 := sqT_ins (o := .ins A.c_RuledChain dx (putF "at" (.int ((i : Int) + 1)) (ruF p q u i))) hp ha
    have hq1 := sqT_ins (o := .ins A.c_RuledChain dx (putF "at" (.int ((i : Int) + 1)) (ruF p q u i))) hq ha
    have hu1 := sqT_ins (o := .ins A.c_RuledChain dx (putF "at" (.int ((i : Int) + 1)) (ruF p q u i))) hu ha
    have kp : ∀ c o, H c = some o → c ≠ a → (upd H a (.ins A.c_RuledChain dx (putF "at" (.int ((i : Int) + 1)) (ruF p q u i)))) c = some o := fun c o e hc => by rw [upd_ne hc]; exact e
    have ha1 : (upd H a (.ins A.c_RuledChain dx (putF "at" (.int ((i : Int) + 1)) (ruF p q u i)))) a = some (.ins A.c_RuledChain dx (ruF p q u (i + 1))) := upd_same
    generalize upd H a (.ins A.c_RuledChain dx (putF "at" (.int ((i : Int) + 1)) (ruF p q u i))) = H1 at *
    have hlp : (ps.map V.int).length = ps.length := List.length_map _
    have hlr : (ring.map V.int).length = ring.length := List.length_map _
    refine ⟨_, rfl, _, rfl, a, _, dx, _, _, rfl, ha1, cl, T.n_RuledChain_parts, rfl, p, _, rfl, .inr hp1, _, _, rfl, rfl, _, rfl, ite2 (fun c => ?_) (fun c => ?_)⟩
    · have hi : i < ps.length := by
        have := of_decide_eq_true c
        rw [hlp] at this
        omega
      refine ⟨_, rfl, a, _, dx, _, _, rfl, ha1, cl, T.n_RuledChain_parts, rfl, _, rfl, p, _, _, _, rfl, rfl, hp1, atI_nat (map_at hi), ?_⟩
      have e : ruledAt ps ring steps i = ps.getD i 0 := by unfold ruledAt; rw [if_pos hi]
      rw [← e]
      exact k _ ⟨dx, p, q, u, ha1, hp1, hq1, hu1⟩ kp
    · have hi : ps.length ≤ i := by
        rcases Nat.lt_or_ge i ps.length with z | z
        · exact absurd (decide_eq_true (by rw [hlp]; omega)) c
        · exact z
      have hr0 : 0 < ring.length := by
        cases ring with
        | nil => have := hne rfl; omega
        | cons x r => rw [List.length_cons]; omega
      have hr12 := ok.r12
      have hs := ok.same
      refine ⟨_, rfl, _, rfl, a, _, dx, _, _, rfl, ha1, cl, T.n_RuledChain_parts, rfl, p, _, rfl, .inr hp1, _, _, rfl, rfl, _, rfl, a, _, dx, _, _, rfl, ha1, cl, T.n_RuledChain_ring, rfl, q, _, rfl, .inr hq1, _, _, rfl, ⟨by rw [hlr]; omega, by rw [hlr]; omega⟩, fun z nz => ?_⟩
      have e1 : ((i : Int) - (((ps.map V.int).length : Nat) : Int)) / (((ring.map V.int).length : Nat) : Int) = (((i - ps.length) / ring.length : Nat) : Int) := by
        rw [hlp, hlr, Int.natCast_ediv]
        congr 1
        omega
      have e2 : ((i : Int) - (((ps.map V.int).length : Nat) : Int)) % (((ring.map V.int).length : Nat) : Int) = (((i - ps.length) % ring.length : Nat) : Int) := by
        rw [hlp, hlr, Int.natCast_emod]
        congr 1
        omega
      rw [e1, e2]
      have sm := same_upd (o := .tup [V.int (((i - ps.length) / ring.length : Nat) : Int), .int (((i - ps.length) % ring.length : Nat) : Int)]) nz
      refine ⟨z, _, rfl, SqT.of upd_same, rfl, _, _, rfl, _, _, rfl, rfl, ?_⟩
      have hm : (i - ps.length) % ring.length < ring.length := Nat.mod_lt _ hr0
      have ts := ok.ts _ (mem_getD (show (i - ps.length) % ring.length < steps.length by omega))
      have w64 : -(2 ^ 64) < steps.getD ((i - ps.length) % ring.length) 0 ∧ steps.getD ((i - ps.length) % ring.length) 0 < 2 ^ 64 := by
        obtain ⟨t1, t2⟩ := ts
        have : (2 : Int) ^ 64 = 18446744073709551616 := by decide
        omega
      refine ⟨_, rfl, a, _, dx, _, _, rfl, sm _ _ ha1, cl, T.n_RuledChain_ring, rfl, _, rfl, q, _, _, _, rfl, rfl, (sqT_same hq1 sm), atI_nat (map_at hm), ?_⟩
      refine ⟨_, rfl, _, rfl, a, _, dx, _, _, rfl, sm _ _ ha1, cl, T.n_RuledChain_steps, rfl, _, rfl, u, _, _, _, rfl, rfl, (sqT_same hu1 sm), atI_nat (map_at (show (i - ps.length) % ring.length < steps.length by omega)), _, _, rfl, rfl, .inr w64, _, _, rfl, rfl, ?_⟩
      have e : ruledAt ps ring steps i = ring.getD ((i - ps.length) % ring.length) 0 + (((i - ps.length) / ring.length : Nat) : Int) * steps.getD ((i - ps.length) % ring.length) 0 := by unfold ruledAt; rw [if_neg (by omega)]
      show Q (.int (ring.getD ((i - ps.length) % ring.length) 0 + (((i - ps.length) / ring.length : Nat) : Int) * steps.getD ((i - ps.length) % ring.length) 0)) _
      rw [← e]
      exact k _ ⟨dx, p, q, u, sm _ _ ha1, (sqT_same hp1 sm), sqT_same hq1 sm, (sqT_same hu1 sm)⟩ fun c o z hc => sm _ _ (kp c o z hc)
end
/-! ### which tuples are trees: the checks let them by -/
/-- the tables of the top -/
structure TB (K : PySem.W.Frag) (w : World) (mg : Str → Option Value) (A : Ad) : Prop where
  dL : ∃ es n, KDict K w A.k_LENGTHS es n
  dC : ∃ es n, KDict K w A.k_CHECKS es n
  lens : ∀ x n, (x, n) ∈ ([("fraction", 3), ("root", 4), ("ruled", 4), ("four", 3), ("eight", 4), ("power", 3)] : List (Str × Int)) → ∃ t, PySem.W.nsIn K A.k_LENGTHS x = some (some (.int n t))
  chks : ∀ x y f, (x, y) ∈ ([("fraction", "check_fraction"), ("root", "check_root"), ("ruled", "check_ruled"), ("four", "check_four"), ("eight", "check_eight"), ("power", "check_power")] : List (Str × Str)) → mg y = some (.ref f) → PySem.W.nsIn K A.k_CHECKS x = some (some (.ref f))
section
variable {X : Cx} {k i : Nat} {x x' : Str} {ps : List Str} {sp : Sp} {e : Expr} {es : List Expr} {t : TA} {p pos : Pos}
theorem pe_cL (C : COk X.prog X.w X.K X.mg X.base CX0 k x' ps sp) (hr : Room k X.A) (hN : X.N[i]? = some x) (hv : Vis X.env.scope x) (ha : PA X (e :: es) t)
    (hdb : (x == ("__debug__" : Str)) = false := by decide) (hcd : (x == ("__classdict__" : Str)) = false := by decide)
    (he : starEach (e :: es) X.env = (false, eval e X.env) :: starEach es X.env := by rfl) (hpl : (backTo pos (starEach es X.env)).any (·.1) = false := by rfl) :
    PE X (.Call (.Name x p) (e :: es) [] pos) (fun σ H Q => (∀ f, X.mg x' = some (.ref f) → σ[i]? = some (some (.ref f))) ∧ t σ H fun vs H1 => sp (vs ++ []) H1 Q E0) := by
  obtain ⟨f, fd, F, a, b, c⟩ := C
  exact ⟨fun pins s σ H Q I h => (pe_callL (i := i) F hr hN hv b c .nil pass0 ha hdb hcd he hpl).run pins s σ H Q I ⟨h.1 f a, h.2⟩⟩
open PySem.Spec PyProof.Rows in
theorem ix_kd {d : Addr} (D : ∃ es n, KDict X.K X.w d es n) : IxR X (fun x y H Q => ∃ (z : Str) (u0 : Value) (v0 : V), x = .ref d ∧ y = .str z ∧ PySem.W.nsIn X.K d z = some (some u0) ∧ RelV v0 u0 ∧ Q v0 H) := by
  obtain ⟨es, n, D⟩ := D
  intro value slice pins s σ H x y v u Q I rx ry h hs
  have ht : s.TypeIs v "dict" := by
    obtain ⟨z, u0, v0, rfl, _⟩ := h
    cases rx
    exact kd_type D I
  exact tail_any ht PySem.F.slot_dict_getitem.lookup (op_item_kd D pins s σ H x y v u Q I rx ry h) hs
theorem op_in_kd' {d : Addr} (D : ∃ es n, KDict X.K X.w d es n) : OpR X (compareOp .In) (fun x y H Q => ∃ (z : Str) (r : Option Value), x = .str z ∧ y = .ref d ∧ PySem.W.nsIn X.K d z = some r ∧ Q (.bl r.isSome) H) := by
  obtain ⟨es, n, D⟩ := D
  exact op_in_kd D
end
theorem tyT {K : PySem.W.Frag} {H : Hp} {a : Addr} {xs : List V} (h : SqT K H a xs) : TyX K H (.ref a) (.type "tuple") := by
  rcases h with (h | ⟨o, h⟩) | ⟨o, its, n, h, c, _⟩
  · exact .base (.tup h)
  · exact .fTuple h
  · exact .kTuple h c
theorem cutV1 (x : V) (xs : List V) : cutV (x :: xs) (some 1) none = xs := by
  unfold cutV
  rw [show HT.sIx (x :: xs).length 0 (some 1) = min 1 (x :: xs).length from HT.sIx_nat _ 0 1, HT.sIx_none]
  rw [show min 1 (x :: xs).length = 1 by rw [List.length_cons]; omega]
  show List.take ((x :: xs).length - 1) xs = xs
  rw [List.length_cons, Nat.add_sub_cancel, List.take_length]
theorem cutV2 (x y : V) (xs : List V) : cutV (x :: y :: xs) (some 2) none = xs := by
  unfold cutV
  rw [show HT.sIx (x :: y :: xs).length 0 (some 2) = min 2 (x :: y :: xs).length from HT.sIx_nat _ 0 2, HT.sIx_none]
  rw [show min 2 (x :: y :: xs).length = 2 by rw [List.length_cons, List.length_cons]; omega]
  show List.take ((x :: y :: xs).length - 2) xs = xs
  rw [List.length_cons, List.length_cons, show xs.length + 1 + 1 - 2 = xs.length by omega, List.take_length]
theorem not_whole {xs : List V} {k : Nat} (hk : 0 < k) (h : k ≤ xs.length) : ¬ (HT.sIx xs.length 0 (some (k : Int)) = 0 ∧ HT.sIx xs.length xs.length none = xs.length) := fun z => by
  have := z.1
  rw [HT.sIx_nat] at this
  omega
section
variable {P : Program} {w : World} {K : PySem.W.Frag} {mg : Str → Option Value} {base : Heap} {A : Ad}
/-- require lets by what holds -/
def sp_require : Sp := fun vs H Q _ => ∃ b y, vs = [.bl b, y] ∧ b = true ∧ Q .non H
theorem ok_require (D : DT K mg A) : COk P w K mg base CX0 1 "require" ["holds", "why"] sp_require := by
  refine COk.by D.require fun f fd F => ?_
  refine F.ok sc_require (fun vs H Q E h => ?_) (fun cdv Ar outer s H vs Q E hr h => ?_)
  · obtain ⟨b, y, rfl, _⟩ := h
    rfl
  · obtain ⟨b, y, rfl, rfl, k⟩ := h
    refine ⟨_, (pss_one (ps_if (pt_not (pt_val (pv 0)))
      (pss_one ps_never) pss_nil)), ?_⟩
    exact ⟨_, rfl, true, rfl, iteF k⟩
def sp_is_whole : Sp := fun vs H Q _ => ∃ i : Int, vs = [.int i] ∧ Q (.bl true) H
theorem ok_is_whole (T : CT K mg A) (D : DT K mg A) : COk P w K mg base CX0 1 "is_whole" ["number"] sp_is_whole := by
  refine COk.by D.is_whole fun f fd F => ?_
  refine F.ok sc_is_whole (fun vs H Q E h => ?_) (fun cdv Ar outer s H vs Q E hr h => ?_)
  · obtain ⟨i, rfl, _⟩ := h
    rfl
  · obtain ⟨i, rfl, k⟩ := h
    refine ⟨_, (pss_one (ps_ret (pe_and (pe_callB call_isi (by rfl) T.b_isinstance (by decide +kernel) (pa_cons (pv 0) (pa_cons (pe_bltn (v := .ty "int") (by rfl) T.b_int (by decide +kernel) rfl) pa_nil))) (pe_one (pe_not (pe_callB call_isi (by rfl) T.b_isinstance (by decide +kernel) (pa_cons (pv 0) (pa_cons (pe_bltn (v := .ty "bool") (by rfl) T.b_bool (by decide +kernel) rfl) pa_nil)))))))), ?_⟩
    refine ⟨_, rfl, _, _, _, _, true, rfl, .ty "int", .base (.int i), kit_ty (by decide +kernel), _, rfl, iteT ?_⟩
    exact ⟨_, rfl, _, _, _, _, false, rfl, .ty "bool", .base (.int i), kit_ty (by decide +kernel), _, rfl, k⟩
/-- a row of whole numbers, so many, none beyond 10 ** 12 -/
def sp_check_row (K : PySem.W.Frag) : Sp := fun vs H Q _ => ∃ (a : Addr) (ns : List Int) (lo hi : Int), vs = [.ref a, .int lo, .int hi] ∧ SqT K H a (ns.map V.int) ∧ lo ≤ ns.length ∧ (ns.length : Int) ≤ hi ∧ (∀ z ∈ ns, tame z) ∧ Q .non H
theorem ok_check_row (T : CT K mg A) (D : DT K mg A) : COk P w K mg base CX0 2 "check_row" ["row", "fewest", "most"] (sp_check_row K) := by
  have G_require : COk P w K mg base CX0 1 "require" ["holds", "why"] sp_require := ok_require D
  have G_is_whole : COk P w K mg base CX0 1 "is_whole" ["number"] sp_is_whole := ok_is_whole T D
  refine COk.by D.check_row fun f fd F => ?_
  refine F.ok sc_check_row (fun vs H Q E h => ?_) (fun cdv Ar outer s H vs Q E hr h => ?_)
  · obtain ⟨a, ns, lo, hi, rfl, _⟩ := h
    rfl
  · obtain ⟨a, ns, lo, hi, rfl, ha, h1, h2, ht, k⟩ := h
    obtain ⟨tN, gi_MOST_NUMBER⟩ := T.i_MOST_NUMBER
    refine ⟨_, (pss_cons (ps_expr (pe_c G_require (hr.mono (by first | decide | omega)) (pa_cons (pe_callB call_isi (by rfl) T.b_isinstance (by decide +kernel) (pa_cons (pv 0) (pa_cons (pe_bltn (v := .ty "tuple") (by rfl) T.b_tuple (by decide +kernel) rfl) pa_nil))) (pa_cons pe_str pa_nil))))
    (pss_cons (ps_expr (pe_c G_require (hr.mono (by first | decide | omega)) (pa_cons (pe_chain op_le op_le (pv 1) (pe_callB call_len_seq (by rfl) T.b_len (by decide +kernel) (pa_cons (pv 0) pa_nil)) (pv 2)) (pa_cons pe_str pa_nil))))
    (pss_one (ps_for PassesOwn.never rfl (pi_tup (pv 0)) (pg_name (i := 3) sc_check_row.nd rfl (Or.inl rfl))
      (pss_cons (ps_expr (pe_c G_require (hr.mono (by first | decide | omega)) (pa_cons (pe_c G_is_whole (hr.mono (by first | decide | omega)) (pa_cons (pv 3) pa_nil)) (pa_cons pe_str pa_nil))))
    (pss_one (ps_expr (pe_c G_require (hr.mono (by first | decide | omega)) (pa_cons (pe_chain op_le op_le (pe_un un_neg (pe_glob (v := .int 1000000000000) (by rfl) gi_MOST_NUMBER ⟨_, rfl⟩)) (pv 3) (pe_glob (v := .int 1000000000000) (by rfl) gi_MOST_NUMBER ⟨_, rfl⟩)) (pa_cons pe_str pa_nil)))))))))), ?_⟩
    have hl : (ns.map V.int).length = ns.length := List.length_map _
    refine ⟨_, rfl, _, _, _, _, true, rfl, .ty "tuple", tyT ha, kit_ty (by decide +kernel), _, _, rfl, rfl, ?_⟩
    refine ⟨_, rfl, _, rfl, a, _, rfl, .inr ha, _, _, rfl, rfl, _, rfl, ?_⟩
    rw [decide_eq_true (by rw [hl]; exact h1)]
    refine iteT ⟨_, rfl, _, _, rfl, rfl, _, _, rfl, decide_eq_true (by rw [hl]; exact h2), ?_⟩
    refine ⟨_, rfl, a, rfl, ⟨_, ha⟩, for_tup (K := K) (a := a) (xs := ns.map V.int) (fun i σ H2 => ∃ v : Option V, σ = [some (.ref a), some (.int lo), some (.int hi), v] ∧ H2 = H)
      ⟨none, rfl, rfl⟩ (fun i σ H2 _ ⟨_, _, e⟩ => by rw [e]; exact ha) ?_ ?_⟩
    · rintro i y σ H2 hi ⟨v, rfl, rfl⟩
      obtain ⟨z, hz, rfl⟩ : ∃ z, z ∈ ns ∧ y = V.int z := by
        rw [List.getElem?_map] at hi
        cases e : ns[i]? with
        | none => rw [e] at hi; cases hi
        | some z => rw [e] at hi; exact ⟨z, List.mem_of_getElem? e, (Option.some.inj hi).symm⟩
      obtain ⟨z1, z2⟩ := ht z hz
      refine ⟨_, rfl, z, rfl, _, _, rfl, rfl, ?_⟩
      refine ⟨_, rfl, _, rfl, _, _, rfl, rfl, _, rfl, ?_⟩
      rw [decide_eq_true (show (-1000000000000 : Int) ≤ z from z1)]
      exact iteT ⟨_, _, rfl, rfl, _, _, rfl, decide_eq_true (show z ≤ (1000000000000 : Int) from z2), ⟨_, rfl, rfl⟩⟩
    · rintro σ H2 ⟨v, rfl, rfl⟩
      exact k
/-! the leaves -/
def sp_check_fraction (K : PySem.W.Frag) : Sp := fun vs H Q _ => ∃ (a : Addr) (t b d : Int), vs = [.ref a, .int d] ∧ SqT K H a [.str "fraction", .int t, .int b] ∧ tame t ∧ tame b ∧ b ≠ 0 ∧ ∀ H', Same H H' → Q .non H'
theorem ok_check_fraction (T : CT K mg A) (D : DT K mg A) : COk P w K mg base CX0 3 "check_fraction" ["tree", "depth"] (sp_check_fraction K) := by
  have G_require : COk P w K mg base CX0 1 "require" ["holds", "why"] sp_require := ok_require D
  have G_check_row : COk P w K mg base CX0 2 "check_row" ["row", "fewest", "most"] (sp_check_row K) := ok_check_row T D
  refine COk.by D.check_fraction fun f fd F => ?_
  refine F.ok sc_check_fraction (fun vs H Q E h => ?_) (fun cdv Ar outer s H vs Q E hr h => ?_)
  · obtain ⟨a, t, b, d, rfl, _⟩ := h
    rfl
  · obtain ⟨a, t, b, d, rfl, ha, ht, hb, h0, k⟩ := h
    refine ⟨_, (pss_cons (ps_expr (pe_c G_check_row (hr.mono (by first | decide | omega)) (pa_cons (pe_slice sl_tup (pv 0) (po_some pe_int) po_none) (pa_cons pe_int (pa_cons pe_int pa_nil)))))
    (pss_one (ps_expr (pe_c G_require (hr.mono (by first | decide | omega)) (pa_cons (pe_cmpR op_ne (pe_ix ix_tup (pv 0) pe_int (fun _ _ => rfl)) pe_int (nomark _)) (pa_cons pe_str pa_nil)))))), ?_⟩
    refine ⟨_, rfl, 1, rfl, a, _, rfl, ha, not_whole (k := 1) (by decide) (by show 1 ≤ 3; decide), fun p np => ?_⟩
    rw [cutV1]
    have sm := same_upd (o := .tup [V.int t, .int b]) np
    refine ⟨p, [t, b], 2, 2, rfl, SqT.of upd_same, (by show (2 : Int) ≤ 2; decide), (by show (2 : Int) ≤ 2; decide), ?_, ?_⟩
    · intro z hz
      simp only [List.mem_cons, List.not_mem_nil, or_false] at hz
      rcases hz with rfl | rfl
      · exact ht
      · exact hb
    refine ⟨_, rfl, a, _, 2, _, rfl, rfl, sqT_same ha sm, atI_nat (j := 2) rfl, rfl, _, _, rfl, ?_, k _ sm⟩
    rw [decide_eq_false (fun z => h0 (V.int.inj z))]
    rfl
def sp_check_root (K : PySem.W.Frag) : Sp := fun vs H Q _ => ∃ (a : Addr) (t s b d : Int), vs = [.ref a, .int d] ∧ SqT K H a [.str "root", .int t, .int s, .int b] ∧ tame t ∧ tame s ∧ 0 ≤ s ∧ tame b ∧ b ≠ 0 ∧ ∀ H', Same H H' → Q .non H'
theorem ok_check_root (T : CT K mg A) (D : DT K mg A) : COk P w K mg base CX0 3 "check_root" ["tree", "depth"] (sp_check_root K) := by
  have G_require : COk P w K mg base CX0 1 "require" ["holds", "why"] sp_require := ok_require D
  have G_check_row : COk P w K mg base CX0 2 "check_row" ["row", "fewest", "most"] (sp_check_row K) := ok_check_row T D
  refine COk.by D.check_root fun f fd F => ?_
  refine F.ok sc_check_root (fun vs H Q E h => ?_) (fun cdv Ar outer s H vs Q E hr h => ?_)
  · obtain ⟨a, t, s, b, d, rfl, _⟩ := h
    rfl
  · obtain ⟨a, t, sq, b, d, rfl, ha, ht, hs, hs0, hb, h0, k⟩ := h
    refine ⟨_, (pss_cons (ps_expr (pe_c G_check_row (hr.mono (by first | decide | omega)) (pa_cons (pe_slice sl_tup (pv 0) (po_some pe_int) po_none) (pa_cons pe_int (pa_cons pe_int pa_nil)))))
    (pss_cons (ps_expr (pe_c G_require (hr.mono (by first | decide | omega)) (pa_cons (pe_cmpR op_ge (pe_ix ix_tup (pv 0) pe_int (fun _ _ => rfl)) pe_int (nomark _)) (pa_cons pe_str pa_nil))))
    (pss_one (ps_expr (pe_c G_require (hr.mono (by first | decide | omega)) (pa_cons (pe_cmpR op_ne (pe_ix ix_tup (pv 0) pe_int (fun _ _ => rfl)) pe_int (nomark _)) (pa_cons pe_str pa_nil))))))), ?_⟩
    refine ⟨_, rfl, 1, rfl, a, _, rfl, ha, not_whole (k := 1) (by decide) (by show 1 ≤ 4; decide), fun p np => ?_⟩
    rw [cutV1]
    have sm := same_upd (o := .tup [V.int t, .int sq, .int b]) np
    refine ⟨p, [t, sq, b], 3, 3, rfl, SqT.of upd_same, (by show (3 : Int) ≤ 3; decide), (by show (3 : Int) ≤ 3; decide), ?_, ?_⟩
    · intro z hz
      simp only [List.mem_cons, List.not_mem_nil, or_false] at hz
      rcases hz with rfl | rfl | rfl
      · exact ht
      · exact hs
      · exact hb
    refine ⟨_, rfl, a, _, 2, _, rfl, rfl, sqT_same ha sm, atI_nat (j := 2) rfl, _, _, rfl, rfl, _, _, rfl, decide_eq_true hs0, ?_⟩
    refine ⟨_, rfl, a, _, 3, _, rfl, rfl, sqT_same ha sm, atI_nat (j := 3) rfl, rfl, _, _, rfl, ?_, k _ sm⟩
    rw [decide_eq_false (fun z => h0 (V.int.inj z))]
    rfl
/-- the rules of a ruled chain -/
structure RuledGood (ps ring steps : List Int) : Prop extends RuledOk ps ring steps where
  one : ∀ z ∈ ps.tail ++ ring, 1 ≤ z
  nn : ∀ z ∈ steps, 0 ≤ z
  last : ring = [] → ps.length = 1 ∨ ∃ z, ps.getLast? = some z ∧ 2 ≤ z
def sp_check_ruled (K : PySem.W.Frag) : Sp := fun vs H Q _ => ∃ (a p q u : Addr) (ps ring steps : List Int) (d : Int), vs = [.ref a, .int d] ∧ SqT K H a [.str "ruled", .ref p, .ref q, .ref u] ∧ SqT K H p (ps.map V.int) ∧ SqT K H q (ring.map V.int) ∧ SqT K H u (steps.map V.int) ∧ RuledGood ps ring steps ∧ ∀ H', Same H H' → Q .non H'
theorem same_list {K : PySem.W.Frag} {H H' : Hp} {D a : Addr} {xs acc : List V} (k : ∀ b o, H b = some o → b ≠ D → H' b = some o) (hD : H D = some (.lst acc)) (h : SqT K H a xs) : SqT K H' a xs :=
  sqT_but (N := fun b => b = D) h k fun b o e z => by
    subst e
    rw [hD] at z
    cases z
    exact ⟨fun _ q => (by cases q), fun _ _ q => (by cases q)⟩
/-- t + u: some tuple of both -/
def rCatC (K : PySem.W.Frag) : R2 := fun x y H Q => ∃ a b xs ys, x = .ref a ∧ y = .ref b ∧ SqT K H a xs ∧ SqT K H b ys ∧ xs.length + ys.length ≤ sizeLine ∧ ∀ c H', Same H H' → SqT K H' c (xs ++ ys) → Q (.ref c) H'
theorem op_catC {X : Cx} : OpR X (binaryOp .Add) (rCatC X.K) := by
  intro pins s σ H x y v u Q I rx ry h
  obtain ⟨a, b, xs, ys, ex, ey, ha, hb, hz, q⟩ := h
  refine op_catA pins s σ H x y v u Q I rx ry ⟨a, b, xs, ys, ex, ey, ha, hb, hz, fun z => ?_, fun _ z => ?_, fun _ _ p hp => ?_⟩
  · subst z
    exact q b H (.refl H) hb
  · subst z
    exact q a H (.refl H) (by rw [List.append_nil]; exact ha)
  · exact q p _ (same_upd hp) (SqT.of upd_same)
theorem at_last {ns : List Int} {z : Int} (h : ns.getLast? = some z) : atI (ns.map V.int) (-1) = some (.int z) := by
  obtain ⟨i, rfl⟩ := List.getLast?_eq_some_iff.mp h
  rw [List.map_append]
  exact atI_last _ _
theorem all_true (n : Nat) : (List.replicate n true).all id = true := by
  induction n with
  | zero => rfl
  | succ n ih => rw [List.replicate_succ, List.all_cons, ih]; rfl
theorem rep_succ (i : Nat) : (List.replicate i true).map V.bl ++ [V.bl true] = (List.replicate (i + 1) true).map V.bl := by
  rw [List.replicate_succ', List.map_append]
  rfl
theorem ok_check_ruled (T : CT K mg A) (D : DT K mg A) : COk P w K mg base CX0 3 "check_ruled" ["tree", "depth"] (sp_check_ruled K) := by
  have G_require : COk P w K mg base CX0 1 "require" ["holds", "why"] sp_require := ok_require D
  have G_check_row : COk P w K mg base CX0 2 "check_row" ["row", "fewest", "most"] (sp_check_row K) := ok_check_row T D
  obtain ⟨tP, gi_MOST_PARTS⟩ := T.i_MOST_PARTS
  refine COk.by D.check_ruled fun f fd F => ?_
  refine F.ok sc_check_ruled (fun vs H Q E h => ?_) (fun cdv Ar outer s H vs Q E hr h => ?_)
  · obtain ⟨a, p, q, u, ps, ring, steps, d, rfl, _⟩ := h
    rfl
  · obtain ⟨a, p, q, u, ps, ring, steps, d, rfl, ha, hp, hq, hu, G, k⟩ := h
    obtain ⟨⟨p1, p12, r12, sl, tp, tr, ts⟩, one, nn, last⟩ := G
    refine ⟨_, (pss_cons (ps_asg (pe_slice sl_tup (pv 0) (po_some pe_int) po_none) (pg_tup rfl (pgs_cons (pg_name (i := 2) sc_check_ruled.nd rfl (Or.inl rfl)) (pgs_cons (pg_name (i := 3) sc_check_ruled.nd rfl (Or.inl rfl)) (pgs_cons (pg_name (i := 4) sc_check_ruled.nd rfl (Or.inl rfl)) pgs_nil)))))
    (pss_cons (ps_expr (pe_c G_check_row (hr.mono (by first | decide | omega)) (pa_cons (pv 2) (pa_cons pe_int (pa_cons (pe_glob (v := .int 12) (by rfl) gi_MOST_PARTS ⟨_, rfl⟩) pa_nil)))))
    (pss_cons (ps_expr (pe_c G_check_row (hr.mono (by first | decide | omega)) (pa_cons (pv 3) (pa_cons pe_int (pa_cons (pe_glob (v := .int 12) (by rfl) gi_MOST_PARTS ⟨_, rfl⟩) pa_nil)))))
    (pss_cons (ps_expr (pe_c G_check_row (hr.mono (by first | decide | omega)) (pa_cons (pv 4) (pa_cons (pe_callB call_len_seq (by rfl) T.b_len (by decide +kernel) (pa_cons (pv 3) pa_nil)) (pa_cons (pe_callB call_len_seq (by rfl) T.b_len (by decide +kernel) (pa_cons (pv 3) pa_nil)) pa_nil)))))
    (pss_cons (ps_expr (pe_c G_require (hr.mono (by first | decide | omega)) (pa_cons (pe_callB (cr_all rfl) (by rfl) T.b_all (by decide +kernel) (pa_cons (pe_lc (own := [("part", 5)]) (g := gName 5) (tt := tYes) rfl sc_check_ruled.nd (pi_tup (pe_op op_catC (pe_slice sl_tup (pv 2) (po_some pe_int) po_none) (pv 3))) (blkOk_by (own := [("part", 5)]) (N := ["tree", "depth", "parts", "ring", "steps", "part", "step", "ends"]) (sc := defScope s_check_ruled) (by decide +kernel)) (fun _ _ _ _ _ => (pg_name (i := 5) sc_check_ruled.nd rfl (Or.inl rfl))) (fun _ _ _ _ _ => pts_nil) (fun _ _ _ _ _ => (pe_cmpR op_ge (pv 5) pe_int (nomark _)))) pa_nil)) (pa_cons pe_str pa_nil))))
    (pss_cons (ps_expr (pe_c G_require (hr.mono (by first | decide | omega)) (pa_cons (pe_callB (cr_all rfl) (by rfl) T.b_all (by decide +kernel) (pa_cons (pe_lc (own := [("step", 6)]) (g := gName 6) (tt := tYes) rfl sc_check_ruled.nd (pi_tup (pv 4)) (blkOk_by (own := [("step", 6)]) (N := ["tree", "depth", "parts", "ring", "steps", "part", "step", "ends"]) (sc := defScope s_check_ruled) (by decide +kernel)) (fun _ _ _ _ _ => (pg_name (i := 6) sc_check_ruled.nd rfl (Or.inl rfl))) (fun _ _ _ _ _ => pts_nil) (fun _ _ _ _ _ => (pe_cmpR op_ge (pv 6) pe_int (nomark _)))) pa_nil)) (pa_cons pe_str pa_nil))))
    (pss_cons (ps_set (i := 7) sc_check_ruled.nd rfl (Or.inl rfl) (pe_cmpR op_eq (pe_callB call_len_seq (by rfl) T.b_len (by decide +kernel) (pa_cons (pv 3) pa_nil)) pe_int (nomark _)))
    (pss_one (ps_expr (pe_c G_require (hr.mono (by first | decide | omega)) (pa_cons (pe_or (pe_not (pv 7)) (pe_or (pe_cmpR op_eq (pe_callB call_len_seq (by rfl) T.b_len (by decide +kernel) (pa_cons (pv 2) pa_nil)) pe_int (nomark _)) (pe_one (pe_cmpR op_ge (pe_ix ix_tup (pv 2) (pe_un un_neg pe_int) (fun _ _ => rfl)) pe_int (nomark _))))) (pa_cons pe_str pa_nil)))))))))))), ?_⟩
    refine ⟨_, rfl, 1, rfl, a, _, rfl, ha, not_whole (k := 1) (by decide) (by show 1 ≤ 4; decide), fun z nz => ?_⟩
    rw [cutV1]
    have sm := same_upd (o := .tup [V.ref p, .ref q, .ref u]) nz
    refine ⟨z, _, rfl, SqT.of upd_same, rfl, _, _, rfl, _, _, rfl, _, _, rfl, rfl, ?_⟩
    have hp1 := sqT_same hp sm
    have hq1 := sqT_same hq sm
    have hu1 := sqT_same hu sm
    generalize upd H z (.tup [V.ref p, .ref q, .ref u]) = H1 at *
    have lr : (ring.map V.int).length = ring.length := List.length_map _
    have lp : (ps.map V.int).length = ps.length := List.length_map _
    have lp0 : 0 < ps.length := List.length_pos_iff.mpr p1
    refine ⟨_, rfl, p, ps, _, _, rfl, hp1, (by show (1 : Int) ≤ ps.length; omega), (by show (ps.length : Int) ≤ 12; omega), tp, ?_⟩
    refine ⟨_, rfl, q, ring, _, _, rfl, hq1, (by show (0 : Int) ≤ ring.length; omega), (by show (ring.length : Int) ≤ 12; omega), tr, ?_⟩
    refine ⟨_, rfl, _, rfl, q, _, rfl, .inr hq1, _, rfl, q, _, rfl, .inr hq1, u, steps, _, _, rfl, hu1, (by rw [lr]; omega), (by rw [lr]; omega), ts, ?_⟩
    -- all parts but the first, and the ring's, are 1 or more
    obtain ⟨p0, pt, rfl⟩ : ∃ p0 pt, ps = p0 :: pt := by
      cases ps with
      | nil => exact absurd rfl p1
      | cons x y => exact ⟨x, y, rfl⟩
    refine ⟨_, rfl, 1, rfl, p, _, rfl, hp1, not_whole (k := 1) (by decide) (by rw [lp]; exact lp0), fun y ny => ?_⟩
    have ec : cutV ((p0 :: pt).map V.int) (some 1) none = pt.map V.int := cutV1 _ _
    rw [ec]
    have sy := same_upd (o := .tup (pt.map V.int)) ny
    have hpt : SqT K (upd H1 y (.tup (pt.map V.int))) y (pt.map V.int) := SqT.of upd_same
    have hq2 := sqT_same hq1 sy
    refine ⟨_, rfl, y, q, _, _, rfl, rfl, hpt, hq2, ?_, fun c H2 s2 hc => ?_⟩
    · rw [List.length_map, lr]
      rw [List.length_cons] at p12
      exact Nat.le_trans (show pt.length + ring.length ≤ 24 by omega) (by decide)
    rw [← List.map_append] at hc
    have hall : ∀ x ∈ pt ++ ring, 1 ≤ x := one
    have hln : (pt ++ ring).length ≤ 30 := by
      rw [List.length_append]
      rw [List.length_cons] at p12
      omega
    generalize pt ++ ring = row at hc hall hln
    have lrow : (row.map V.int).length = row.length := List.length_map _
    refine ⟨c, rfl, ⟨_, hc⟩, fun D0 nD => lc_tup (K := K) (a := c) (xs := row.map V.int) (fun i H' => i ≤ row.length ∧ H' D0 = some (.lst ((List.replicate i true).map V.bl)) ∧ Same H2 H') ⟨Nat.zero_le _, upd_same, same_upd nD⟩ (fun i H' _ z => sqT_same hc z.2.2) ?_ ?_⟩
    · rintro i y H' hi ⟨hle, hD, sH⟩
      obtain ⟨x, hx, rfl⟩ : ∃ x, x ∈ row ∧ y = V.int x := by
        rw [List.getElem?_map] at hi
        cases e : row[i]? with
        | none => rw [e] at hi; cases hi
        | some z => rw [e] at hi; exact ⟨z, List.mem_of_getElem? e, (Option.some.inj hi).symm⟩
      have hil : i < row.length := by
        have := (List.getElem?_eq_some_iff.mp hi).1
        rw [lrow] at this
        exact this
      refine ⟨rfl, _, rfl, _, _, rfl, rfl, _, hD, ?_, hil, ?_, fun b o e => ?_⟩
      · rw [List.length_map, List.length_replicate]
        exact Nat.lt_of_lt_of_le (show i < 31 by omega) (by decide)
      · rw [upd_same, ← rep_succ]
        show some (HO.lst ((List.replicate i true).map V.bl ++ [V.bl (decide (1 ≤ x))])) = _
        rw [decide_eq_true (hall x hx)]
      · rw [upd_ne (ne_of_none e nD)]
        exact sH b o e
    · rintro H3 ⟨_, hD, s3⟩
      rw [lrow] at hD
      refine ⟨D0, _, rfl, SqL.of hD, _, _, rfl, all_true _, ?_⟩
      -- steps are 0 or more
      have hu3 := sqT_same (sqT_same (sqT_same hu1 sy) s2) s3
      have lst : (steps.map V.int).length = steps.length := List.length_map _
      refine ⟨_, rfl, u, rfl, ⟨_, hu3⟩, fun D1 nD1 => lc_tup (K := K) (a := u) (xs := steps.map V.int) (fun i H' => i ≤ steps.length ∧ H' D1 = some (.lst ((List.replicate i true).map V.bl)) ∧ Same H3 H') ⟨Nat.zero_le _, upd_same, same_upd nD1⟩ (fun i H' _ z => sqT_same hu3 z.2.2) ?_ ?_⟩
      · rintro i y H' hi ⟨hle, hD, sH⟩
        obtain ⟨x, hx, rfl⟩ : ∃ x, x ∈ steps ∧ y = V.int x := by
          rw [List.getElem?_map] at hi
          cases e : steps[i]? with
          | none => rw [e] at hi; cases hi
          | some z => rw [e] at hi; exact ⟨z, List.mem_of_getElem? e, (Option.some.inj hi).symm⟩
        have hil : i < steps.length := by
          have := (List.getElem?_eq_some_iff.mp hi).1
          rw [lst] at this
          exact this
        refine ⟨rfl, _, rfl, _, _, rfl, rfl, _, hD, ?_, hil, ?_, fun b o e => ?_⟩
        · rw [List.length_map, List.length_replicate]
          exact Nat.lt_of_lt_of_le (show i < 31 by omega) (by decide)
        · rw [upd_same, ← rep_succ]
          show some (HO.lst ((List.replicate i true).map V.bl ++ [V.bl (decide (0 ≤ x))])) = _
          rw [decide_eq_true (nn x hx)]
        · rw [upd_ne (ne_of_none e nD1)]
          exact sH b o e
      · rintro H4 ⟨_, hD1, s4⟩
        rw [lst] at hD1
        refine ⟨D1, _, rfl, SqL.of hD1, _, _, rfl, all_true _, ?_⟩
        have s14 : Same H1 H4 := ((sy.trans s2).trans s3).trans s4
        have hq4 := sqT_same hq1 s14
        have hp4 := sqT_same hp1 s14
        -- the last part of a chain that ends
        refine ⟨_, rfl, q, _, rfl, .inr hq4, rfl, ?_⟩
        refine ⟨_, rfl, _, rfl, _, rfl, ?_⟩
        by_cases cr : ring = []
        · have e1 : decide (V.int (((ring.map V.int).length : Nat) : Int) = V.int 0) = true := by rw [cr]; rfl
          rw [e1]
          refine iteF ⟨_, rfl, p, _, rfl, .inr hp4, rfl, _, rfl, ?_⟩
          rcases last cr with h1 | ⟨z, hz, z2⟩
          · have e2 : decide (V.int ((((p0 :: pt).map V.int).length : Nat) : Int) = V.int 1) = true := decide_eq_true (by rw [lp, h1]; rfl)
            rw [e2]
            exact iteT ⟨_, _, rfl, rfl, k _ (sm.trans s14)⟩
          · by_cases c2 : decide (V.int ((((p0 :: pt).map V.int).length : Nat) : Int) = V.int 1) = true
            · rw [c2]
              exact iteT ⟨_, _, rfl, rfl, k _ (sm.trans s14)⟩
            · rw [Bool.not_eq_true] at c2
              rw [c2]
              refine iteF ⟨_, rfl, 1, rfl, p, _, _, _, rfl, rfl, hp4, at_last hz, _, _, rfl, rfl, _, _, rfl, decide_eq_true z2, k _ (sm.trans s14)⟩
        · have e1 : decide (V.int (((ring.map V.int).length : Nat) : Int) = V.int 0) = false := by rw [len_eq_nil]; exact decide_eq_false cr
          rw [e1]
          exact iteT ⟨_, _, rfl, rfl, k _ (sm.trans s14)⟩
end
/-! ### check_at_depth: by the word's own check -/
def sp_check_at (K : PySem.W.Frag) (sF sR sU sO sE sP : Sp) : Sp := fun vs H Q _ => ∃ (a : Addr) (word : Str) (rest : List V) (d : Int), vs = [.ref a, .int d] ∧ d ≤ 5 ∧ SqT K H a (.str word :: rest) ∧
  ((word = "fraction" ∧ rest.length = 2 ∧ sF [.ref a, .int d] H (fun _ => Q .non) E0) ∨ (word = "root" ∧ rest.length = 3 ∧ sR [.ref a, .int d] H (fun _ => Q .non) E0) ∨ (word = "ruled" ∧ rest.length = 3 ∧ sU [.ref a, .int d] H (fun _ => Q .non) E0) ∨
   (word = "four" ∧ rest.length = 2 ∧ sO [.ref a, .int d] H (fun _ => Q .non) E0) ∨ (word = "eight" ∧ rest.length = 3 ∧ sE [.ref a, .int d] H (fun _ => Q .non) E0) ∨ (word = "power" ∧ rest.length = 2 ∧ sP [.ref a, .int d] H (fun _ => Q .non) E0))
section
variable {P : Program} {w : World} {K : PySem.W.Frag} {mg : Str → Option Value} {base : Heap} {A : Ad}
theorem ok_check_at_depth {k : Nat} {sF sR sU sO sE sP : Sp} (T : CT K mg A) (TT : TB K w mg A) (D : DT K mg A) (hk : 1 ≤ k)
    (G_check_fraction : COk P w K mg base CX0 k "check_fraction" ["tree", "depth"] sF) (G_check_root : COk P w K mg base CX0 k "check_root" ["tree", "depth"] sR) (G_check_ruled : COk P w K mg base CX0 k "check_ruled" ["tree", "depth"] sU)
    (G_check_four : COk P w K mg base CX0 k "check_four" ["tree", "depth"] sO) (G_check_eight : COk P w K mg base CX0 k "check_eight" ["tree", "depth"] sE) (G_check_power : COk P w K mg base CX0 k "check_power" ["tree", "depth"] sP) :
    COk P w K mg base CX0 (k + 1) "check_at_depth" ["tree", "depth"] (sp_check_at K sF sR sU sO sE sP) := by
  have G_require : COk P w K mg base CX0 k "require" ["holds", "why"] sp_require := (ok_require D).mono hk
  obtain ⟨tD, gi_MOST_DEPTH⟩ := T.i_MOST_DEPTH
  refine COk.by D.check_at_depth fun f fd F => ?_
  refine F.ok sc_check_at_depth (fun vs H Q E h => ?_) (fun cdv Ar outer s H vs Q E hr h => ?_)
  · obtain ⟨a, word, rest, d, rfl, _⟩ := h
    rfl
  · obtain ⟨a, word, rest, d, rfl, hd, ha, hw⟩ := h
    refine ⟨_, (pss_cons (ps_expr (pe_c G_require (hr.mono (by first | decide | omega)) (pa_cons (pe_cmpR op_le (pv 1) (pe_glob (v := .int 5) (by rfl) gi_MOST_DEPTH ⟨_, rfl⟩) (nomark _)) (pa_cons pe_str pa_nil))))
    (pss_cons (ps_expr (pe_c G_require (hr.mono (by first | decide | omega)) (pa_cons (pe_and (pe_callB call_isi (by rfl) T.b_isinstance (by decide +kernel) (pa_cons (pv 0) (pa_cons (pe_bltn (v := .ty "tuple") (by rfl) T.b_tuple (by decide +kernel) rfl) pa_nil))) (pe_one (pe_cmpR op_gt (pe_callB call_len_seq (by rfl) T.b_len (by decide +kernel) (pa_cons (pv 0) pa_nil)) pe_int (nomark _)))) (pa_cons pe_str pa_nil))))
    (pss_cons (ps_set (i := 2) sc_check_at_depth.nd rfl (Or.inl rfl) (pe_ix ix_tup (pv 0) pe_int (fun _ _ => rfl)))
    (pss_cons (ps_expr (pe_c G_require (hr.mono (by first | decide | omega)) (pa_cons (pe_and (pe_callB call_isi (by rfl) T.b_isinstance (by decide +kernel) (pa_cons (pv 2) (pa_cons (pe_bltn (v := .ty "str") (by rfl) T.b_str (by decide +kernel) rfl) pa_nil))) (pe_one (pe_cmpR (op_in_kd' TT.dL) (pv 2) (pe_glob (v := .ref A.k_LENGTHS) (by rfl) T.g_LENGTHS rfl) rfl))) (pa_cons pe_str pa_nil))))
    (pss_cons (ps_expr (pe_c G_require (hr.mono (by first | decide | omega)) (pa_cons (pe_cmpR op_eq (pe_callB call_len_seq (by rfl) T.b_len (by decide +kernel) (pa_cons (pv 0) pa_nil)) (pe_ix (ix_kd TT.dL) (pe_glob (v := .ref A.k_LENGTHS) (by rfl) T.g_LENGTHS rfl) (pv 2) (fun _ _ => rfl)) (nomark _)) (pa_cons pe_str pa_nil))))
    (pss_cons (ps_set (i := 3) sc_check_at_depth.nd rfl (Or.inl rfl) (pe_ix (ix_kd TT.dC) (pe_glob (v := .ref A.k_CHECKS) (by rfl) T.g_CHECKS rfl) (pv 2) (fun _ _ => rfl)))
    (pss_one (ps_expr ((pe_alt (pe_cL G_check_fraction hr (i := 3) rfl (Or.inl rfl) (pa_cons (pv 0) (pa_cons (pv 1) pa_nil))) (pe_alt (pe_cL G_check_root hr (i := 3) rfl (Or.inl rfl) (pa_cons (pv 0) (pa_cons (pv 1) pa_nil))) (pe_alt (pe_cL G_check_ruled hr (i := 3) rfl (Or.inl rfl) (pa_cons (pv 0) (pa_cons (pv 1) pa_nil))) (pe_alt (pe_cL G_check_four hr (i := 3) rfl (Or.inl rfl) (pa_cons (pv 0) (pa_cons (pv 1) pa_nil))) (pe_alt (pe_cL G_check_eight hr (i := 3) rfl (Or.inl rfl) (pa_cons (pv 0) (pa_cons (pv 1) pa_nil))) (pe_cL G_check_power hr (i := 3) rfl (Or.inl rfl) (pa_cons (pv 0) (pa_cons (pv 1) pa_nil))))))))))))))))), ?_⟩
    -- depth
    refine ⟨_, rfl, _, _, rfl, rfl, _, _, rfl, decide_eq_true hd, ?_⟩
    -- a tuple of something
    refine ⟨_, rfl, _, _, _, _, true, rfl, .ty "tuple", tyT ha, kit_ty (by decide +kernel), _, rfl, iteT ⟨_, rfl, a, _, rfl, .inr ha, _, _, rfl, rfl, _, _, rfl, decide_eq_true (by rw [List.length_cons]; omega), ?_⟩⟩
    refine ⟨_, rfl, a, _, 0, .str word, rfl, rfl, ha, atI_nat (j := 0) rfl, ?_⟩
    have key : ∀ {n : Int}, (word, n) ∈ ([("fraction", 3), ("root", 4), ("ruled", 4), ("four", 3), ("eight", 4), ("power", 3)] : List (Str × Int)) → n = (rest.length : Int) + 1 → ∃ t, PySem.W.nsIn K A.k_LENGTHS word = some (some (.int ((rest.length : Int) + 1) t)) := fun {n} hm e => by
      rw [← e]
      exact TT.lens word n hm
    have hlen : ∃ t, PySem.W.nsIn K A.k_LENGTHS word = some (some (.int ((rest.length : Int) + 1) t)) := by
      rcases hw with ⟨rfl, e, _⟩ | ⟨rfl, e, _⟩ | ⟨rfl, e, _⟩ | ⟨rfl, e, _⟩ | ⟨rfl, e, _⟩ | ⟨rfl, e, _⟩
      · exact key (n := 3) (by simp) (by omega)
      · exact key (n := 4) (by simp) (by omega)
      · exact key (n := 4) (by simp) (by omega)
      · exact key (n := 3) (by simp) (by omega)
      · exact key (n := 4) (by simp) (by omega)
      · exact key (n := 3) (by simp) (by omega)
    obtain ⟨tl, hl⟩ := hlen
    refine ⟨_, rfl, _, _, _, _, true, rfl, .ty "str", .base (.str word), kit_ty (by decide +kernel), _, rfl, iteT ⟨_, rfl, word, _, rfl, rfl, hl, _, _, rfl, rfl, ?_⟩⟩
    refine ⟨_, rfl, a, _, rfl, .inr ha, _, rfl, word, _, .int ((rest.length : Int) + 1), rfl, rfl, hl, ⟨_, rfl⟩, rfl, _, _, rfl, decide_eq_true (by rw [List.length_cons]; rfl), ?_⟩
    have chk : ∀ {y : Str} {sp : Sp}, (word, y) ∈ ([("fraction", "check_fraction"), ("root", "check_root"), ("ruled", "check_ruled"), ("four", "check_four"), ("eight", "check_eight"), ("power", "check_power")] : List (Str × Str)) → COk P w K mg base CX0 k y ["tree", "depth"] sp → ∃ f, mg y = some (.ref f) ∧ PySem.W.nsIn K A.k_CHECKS word = some (some (.ref f)) := fun {y sp} hm C => by
      obtain ⟨f, fd, _, e, _⟩ := C
      exact ⟨f, e, TT.chks word y f hm e⟩
    rcases hw with ⟨rfl, e, q⟩ | ⟨rfl, e, q⟩ | ⟨rfl, e, q⟩ | ⟨rfl, e, q⟩ | ⟨rfl, e, q⟩ | ⟨rfl, e, q⟩
    · obtain ⟨f1, e1, e2⟩ := chk (y := "check_fraction") (by simp) G_check_fraction
      exact ⟨_, rfl, _, _, .ref f1, rfl, rfl, e2, rfl, .inl ⟨fun g eg => by cases e1.symm.trans eg; rfl, _, rfl, _, rfl, q⟩⟩
    · obtain ⟨f1, e1, e2⟩ := chk (y := "check_root") (by simp) G_check_root
      exact ⟨_, rfl, _, _, .ref f1, rfl, rfl, e2, rfl, .inr (.inl ⟨fun g eg => by cases e1.symm.trans eg; rfl, _, rfl, _, rfl, q⟩)⟩
    · obtain ⟨f1, e1, e2⟩ := chk (y := "check_ruled") (by simp) G_check_ruled
      exact ⟨_, rfl, _, _, .ref f1, rfl, rfl, e2, rfl, .inr (.inr (.inl ⟨fun g eg => by cases e1.symm.trans eg; rfl, _, rfl, _, rfl, q⟩))⟩
    · obtain ⟨f1, e1, e2⟩ := chk (y := "check_four") (by simp) G_check_four
      exact ⟨_, rfl, _, _, .ref f1, rfl, rfl, e2, rfl, .inr (.inr (.inr (.inl ⟨fun g eg => by cases e1.symm.trans eg; rfl, _, rfl, _, rfl, q⟩)))⟩
    · obtain ⟨f1, e1, e2⟩ := chk (y := "check_eight") (by simp) G_check_eight
      exact ⟨_, rfl, _, _, .ref f1, rfl, rfl, e2, rfl, .inr (.inr (.inr (.inr (.inl ⟨fun g eg => by cases e1.symm.trans eg; rfl, _, rfl, _, rfl, q⟩))))⟩
    · obtain ⟨f1, e1, e2⟩ := chk (y := "check_power") (by simp) G_check_power
      exact ⟨_, rfl, _, _, .ref f1, rfl, rfl, e2, rfl, .inr (.inr (.inr (.inr (.inr ⟨fun g eg => by cases e1.symm.trans eg; rfl, _, rfl, _, rfl, q⟩))))⟩
/-- a promise that is never asked for -/
abbrev spNo : Sp := fun _ _ _ _ => False
theorem ok_no {k : Nat} {x : Str} {st : Stmt} {ps : List Str} (D : ∃ f fd, DefAt K mg x st ps f fd) : COk P w K mg base CX0 k x ps spNo := by
  obtain ⟨f, fd, F⟩ := D
  exact .of F ⟨(fun _ _ _ _ h => h.elim), (fun _ _ _ _ _ _ _ _ _ _ _ _ _ h => h.elim)⟩
/-- check_tree at level k + 1, over check_at_depth at level k -/
theorem ok_check_tree {k : Nat} {sp : Sp} (D : DT K mg A) (G_check_at_depth : COk P w K mg base CX0 k "check_at_depth" ["tree", "depth"] sp) :
    COk P w K mg base CX0 (k + 1) "check_tree" ["tree"] (fun vs H Q _ => ∃ v, vs = [v] ∧ sp [v, .int 1] H (fun _ => Q .non) E0) := by
  refine COk.by D.check_tree fun f fd F => ?_
  refine F.ok sc_check_tree (fun vs H Q E h => ?_) (fun cdv Ar outer s H vs Q E hr h => ?_)
  · obtain ⟨v, rfl, _⟩ := h
    rfl
  · obtain ⟨v, rfl, q⟩ := h
    refine ⟨_, (pss_one (ps_expr (pe_c G_check_at_depth (hr.mono (by first | decide | omega)) (pa_cons (pv 0) (pa_cons pe_int pa_nil))))), ?_⟩
    exact ⟨_, rfl, q⟩
end
/-! ### the meter, a leaf's asking, a reading of a leaf -/
section
variable {P : Program} {w : World} {K : PySem.W.Frag} {mg : Str → Option Value} {base : Heap} {A : Ad}
theorem root_there : ∀ s : Int, 0 ≤ s → ∃ r, IsRoot s r := by
  have key : ∀ n : Nat, ∃ r, IsRoot (n : Int) r := fun n => by
    induction n with
    | zero => exact ⟨0, by decide, by decide, by decide⟩
    | succ n ih =>
      obtain ⟨r, h0, h1, h2⟩ := ih
      have e1 : (r + 1 + 1) * (r + 1 + 1) = (r + 1) * (r + 1) + 2 * (r + 1) + 1 := by grind
      by_cases c : ((n + 1 : Nat) : Int) < (r + 1) * (r + 1)
      · exact ⟨r, h0, by omega, c⟩
      · exact ⟨r + 1, by omega, by omega, by omega⟩
  intro s hs
  obtain ⟨n, rfl⟩ := Int.eq_ofNat_of_zero_le hs
  exact key n
theorem ok_Meter_init (T : CT K mg A) (D : DT K mg A) : IOk P w K mg base 1 "Meter" A.c_Meter ["self"] (sp_ini A.c_Meter 0 fun _ => meF 0 0) := by
  refine IOk.of T.g_Meter D.Meter_init fun f fd F => ?_
  refine F.ok sc_Meter_init (fun vs H Q E h => ?_) (fun cdv Ar outer s H vs Q E hr h => ?_)
  · obtain ⟨p, dx, us, rfl, hl, _⟩ := h
    show us.length + 1 = 1
    omega
  · obtain ⟨p, dx, us, rfl, hl, hp, k⟩ := h
    match us, hl with
    | [], _ =>
      refine ⟨_, (pss_cons (ps_fld (pv 0) pe_int rfl)
    (pss_one (ps_fld (pv 0) pe_int rfl))), ?_⟩
      refine ⟨_, rfl, p, _, dx, [], rfl, hp, T.cl_Meter, T.n_Meter_left, (by show 0 < 1000; decide), ?_⟩
      refine ⟨_, rfl, p, _, dx, _, rfl, upd_same, T.cl_Meter, T.n_Meter_spent, (by show 1 < 1000; decide), ?_⟩
      refine cast (congrArg (Q V.non) ?_) k
      rw [upd_upd]
      rfl
theorem ok_Meter_allow (T : CT K mg A) (D : DT K mg A) : MOk P w K mg base CX0 1 A.c_Meter "allow" ["self", "most"] (fun vs H Q _ => ∃ m dx l s n, vs = [.ref m, .int n] ∧ H m = some (.ins A.c_Meter dx (meF l s)) ∧ Q .non (upd H m (.ins A.c_Meter dx (meF n s)))) := by
  refine MOk.of T.cl_Meter D.Meter_allow fun f fd F => ?_
  refine F.ok sc_Meter_allow (fun vs H Q E h => ?_) (fun cdv Ar outer s H vs Q E hr h => ?_)
  · obtain ⟨m, dx, l, sp, n, rfl, _⟩ := h
    rfl
  · obtain ⟨m, dx, l, sp, n, rfl, hm, k⟩ := h
    refine ⟨_, (pss_one (ps_fld (pv 0) (pv 1) rfl)), ?_⟩
    exact ⟨_, rfl, _, rfl, m, _, dx, _, rfl, hm, T.cl_Meter, T.n_Meter_left, (by show 2 < 1000; decide), k⟩
theorem ok_Meter_pay (T : CT K mg A) (D : DT K mg A) : MOk P w K mg base CX0 1 A.c_Meter "pay" ["self"] (fun vs H Q _ => ∃ m dx l s, vs = [.ref m] ∧ H m = some (.ins A.c_Meter dx (meF l s)) ∧ Q .non (upd H m (.ins A.c_Meter dx (meF (l - 1) (s + 1))))) := by
  refine MOk.of T.cl_Meter D.Meter_pay fun f fd F => ?_
  refine F.ok sc_Meter_pay (fun vs H Q E h => ?_) (fun cdv Ar outer s H vs Q E hr h => ?_)
  · obtain ⟨m, dx, l, sp, rfl, _⟩ := h
    rfl
  · obtain ⟨m, dx, l, sp, rfl, hm, k⟩ := h
    refine ⟨_, (pss_cons (ps_fldaug (pv 0) pe_int in_sub)
    (pss_one (ps_fldaug (pv 0) pe_int in_add))), ?_⟩
    refine ⟨_, rfl, m, _, dx, _, _, rfl, hm, T.cl_Meter, T.n_Meter_left, rfl, _, _, rfl, rfl, dx, _, hm, (by show 2 < 1000; decide), ?_⟩
    refine ⟨_, rfl, m, _, dx, _, _, rfl, upd_same, T.cl_Meter, T.n_Meter_spent, rfl, _, _, rfl, rfl, dx, _, upd_same, (by show 2 < 1000; decide), ?_⟩
    refine cast (congrArg (Q V.non) ?_) k
    rw [upd_upd]
    rfl
/-! what is told -/
inductive Ans where
  | part (n : Int) | fin | waits
def Ans.At (A : Ad) (H : Hp) (v : V) : Ans → Prop
  | .part n => ∃ p, v = .ref p ∧ H p = some (.tup [.str "part", .int n])
  | .fin => v = .ref A.k_END
  | .waits => v = .ref A.k_WAITS
/-- a leaf, asked with l parts to be taken -/
def Chain.ans (c : Chain) (l : Int) : Ans := if c.ended = true then .fin else if l < 1 then .waits else .part c.part
def Chain.then_ (c : Chain) (l : Int) : Chain := if c.ended = true then c else if l < 1 then c else c.next
def Chain.took (c : Chain) (l : Int) : Int := if c.ended = true then 0 else if l < 1 then 0 else 1
/-- a leaf at a, its chain at c -/
def LeafAt (A : Ad) (K : PySem.W.Frag) (H : Hp) (a c : Addr) (ch : Chain) : Prop := (∃ dx, H a = some (.ins A.c_Leaf dx (leF c))) ∧ Chain.At A K H c ch
/-- what holds of a chain, where the rest is kept -/
theorem Chain.At.kept {H H' : Hp} {a : Addr} {ch : Chain} {N : Addr → Prop} (h : Chain.At A K H a ch) (hn : ¬ N a) (k : ∀ b o, H b = some o → ¬ N b → H' b = some o) (hN : ∀ b o, N b → H b = some o → (∀ ys, o ≠ .tup ys) ∧ ∀ ob u, o ≠ .frz ob u) : Chain.At A K H' a ch := by
  cases ch with
  | frac t b => obtain ⟨dx, e⟩ := h; exact ⟨dx, k _ _ e hn⟩
  | root t s b r => obtain ⟨dx, e⟩ := h; exact ⟨dx, k _ _ e hn⟩
  | ruled ps ring steps i =>
    obtain ⟨dx, p, q, u, e, hp, hq, hu⟩ := h
    exact ⟨dx, p, q, u, k _ _ e hn, sqT_but hp k hN, sqT_but hq k hN, sqT_but hu k hN⟩
theorem Chain.At.same {H H' : Hp} {a : Addr} {ch : Chain} (h : Chain.At A K H a ch) (k : Same H H') : Chain.At A K H' a ch :=
  h.kept (N := fun _ => False) (fun z => z) (fun b o e _ => k b o e) fun _ _ z => z.elim
theorem Chain.At.there {H : Hp} {a : Addr} {ch : Chain} (h : Chain.At A K H a ch) : ∃ C dx fs, H a = some (.ins C dx fs) := by
  cases ch with
  | frac t b => obtain ⟨dx, e⟩ := h; exact ⟨_, _, _, e⟩
  | root t s b r => obtain ⟨dx, e⟩ := h; exact ⟨_, _, _, e⟩
  | ruled ps ring steps i => obtain ⟨dx, p, q, u, e, _⟩ := h; exact ⟨_, _, _, e⟩
theorem Chain.At.cls {H : Hp} {a C dx : Addr} {fs : Flds} {ch : Chain} (h : Chain.At A K H a ch) (e : H a = some (.ins C dx fs)) : fs.lookup ("has_ended" : Str) = none ∧ fs.lookup ("next_part" : Str) = none := by
  cases ch with
  | frac t b => obtain ⟨dx', e'⟩ := h; rw [e'] at e; cases e; exact ⟨rfl, rfl⟩
  | root t s b r => obtain ⟨dx', e'⟩ := h; rw [e'] at e; cases e; exact ⟨rfl, rfl⟩
  | ruled ps ring steps i => obtain ⟨dx', p, q, u, e', _⟩ := h; rw [e'] at e; cases e; exact ⟨rfl, rfl⟩
theorem ins_no {C dx : Addr} {fs : Flds} {o : HO} (e : o = .ins C dx fs) : (∀ ys, o ≠ .tup ys) ∧ ∀ ob u, o ≠ .frz ob u := by
  subst e
  exact ⟨fun _ q => (by cases q), fun _ _ q => (by cases q)⟩
theorem Chain.Ok.next {ch : Chain} (h : ch.Ok) (he : ch.ended = false) : ch.next.Ok := by
  cases ch with
  | frac t b =>
    have hb : b ≠ 0 := fun z => by subst z; cases he
    exact ⟨h.2, small_fm h.2 hb⟩
  | root t s b r => exact root_next h
  | ruled ps ring steps i => exact h
def sp_Leaf_ask (A : Ad) (K : PySem.W.Frag) : Sp := fun vs H Q _ => ∃ (a c m : Addr) (ch : Chain) (l s : Int), vs = [.ref a, .ref m] ∧ LeafAt A K H a c ch ∧ ch.Ok ∧ MeterAt A H m l s ∧ a ≠ c ∧ a ≠ m ∧ c ≠ m ∧
  ∀ v H', LeafAt A K H' a c (ch.then_ l) → MeterAt A H' m (l - ch.took l) (s + ch.took l) → (ch.ans l).At A H' v → (∀ b o, H b = some o → b ≠ c → b ≠ m → H' b = some o) → Q v H'
theorem ok_Leaf_ask (T : CT K mg A) (D : DT K mg A) : MOk P w K mg base CX0 2 A.c_Leaf "ask" ["self", "meter"] (sp_Leaf_ask A K) := by
  have M1 := ok_FractionChain_has_ended (P := P) (w := w) (base := base) T D
  have M2 := ok_RootChain_has_ended (P := P) (w := w) (base := base) T D
  have M3 := ok_RuledChain_has_ended (P := P) (w := w) (base := base) T D
  have N1 := ok_FractionChain_next_part (P := P) (w := w) (base := base) T D
  have N2 := ok_RootChain_next_part (P := P) (w := w) (base := base) T D
  have N3 := ok_RuledChain_next_part (P := P) (w := w) (base := base) T D
  have M_pay := ok_Meter_pay (P := P) (w := w) (base := base) T D
  refine MOk.of T.cl_Leaf D.Leaf_ask fun f fd F => ?_
  refine F.ok sc_Leaf_ask (fun vs H Q E h => ?_) (fun cdv Ar outer s H vs Q E hr h => ?_)
  · obtain ⟨a, c, m, ch, l, sp, rfl, _⟩ := h
    rfl
  · obtain ⟨a, c, m, ch, l, sp, rfl, ⟨⟨dx, ha⟩, hc⟩, ok, ⟨dm, hm⟩, nac, nam, ncm, k⟩ := h
    refine ⟨_, (C8.pss_cut (ps_if (pt_val ((pe_alt (pe_m0 M1 (hr.mono (by decide)) (pe_fld (pv 0) rfl)) (pe_alt (pe_m0 M2 (hr.mono (by decide)) (pe_fld (pv 0) rfl)) (pe_m0 M3 (hr.mono (by decide)) (pe_fld (pv 0) rfl))))))
      (pss_one (ps_ret (pe_glob (v := .ref A.k_END) (by rfl) T.g_END rfl))) pss_nil)
    (pss_cons (ps_if (pt_cmpR op_lt (pe_fld (pv 1) rfl) pe_int (nomark _))
      (pss_one (ps_ret (pe_glob (v := .ref A.k_WAITS) (by rfl) T.g_WAITS rfl))) pss_nil)
    (pss_cons (ps_expr (pe_m0 M_pay (hr.mono (by first | decide | omega)) (pv 1)))
    (pss_one (ps_ret (pe_tup (pa_cons pe_str (pa_cons ((pe_alt (pe_m0 N1 (hr.mono (by decide)) (pe_fld (pv 0) rfl)) (pe_alt (pe_m0 N2 (hr.mono (by decide)) (pe_fld (pv 0) rfl)) (pe_m0 N3 (hr.mono (by decide)) (pe_fld (pv 0) rfl))))) pa_nil)))))))), ?_⟩
    have cl := T.cl_Leaf
    obtain ⟨C, dc, fs, hcs⟩ := hc.there
    obtain ⟨lk1, lk2⟩ := hc.cls hcs
    refine ⟨fun σ H2 => σ = [some (.ref a), some (.ref m)] ∧ H2 = H ∧ ch.ended = false, ?_, ?_⟩
    · -- has it ended
      have two : ∀ {b : Bool}, b = ch.ended → (if b = true then tRet (tC (V.ref A.k_END)) { nx := fun σ H2 => σ = [some (.ref a), some (.ref m)] ∧ H2 = H ∧ ch.ended = false, rt := Q } [some (.ref a), some (.ref m)] H else tNext { nx := fun σ H2 => σ = [some (.ref a), some (.ref m)] ∧ H2 = H ∧ ch.ended = false, rt := Q } [some (.ref a), some (.ref m)] H) := fun {b} e => by
        subst e
        cases he : ch.ended with
        | true =>
          rw [if_pos rfl]
          have e1 : ch.ans l = .fin := by unfold Chain.ans; rw [if_pos he]
          have e2 : ch.then_ l = ch := by unfold Chain.then_; rw [if_pos he]
          have e3 : ch.took l = 0 := by unfold Chain.took; rw [if_pos he]
          refine k _ H ?_ ?_ ?_ (fun b o e _ _ => e)
          · rw [e2]; exact ⟨⟨dx, ha⟩, hc⟩
          · rw [e3, Int.sub_zero, Int.add_zero]; exact ⟨dm, hm⟩
          · rw [e1]; rfl
        | false =>
          rw [if_neg (by decide)]
          exact ⟨rfl, rfl, rfl⟩
      cases ch with
      | frac t b =>
        obtain ⟨dc', hc'⟩ := id hc
        exact .inl ⟨_, rfl, a, _, dx, _, _, rfl, ha, cl, T.n_Leaf_chain, rfl, c, dc', _, rfl, hc', rfl, c, t, b, rfl, hc, _, rfl, two rfl⟩
      | root t s b r =>
        obtain ⟨dc', hc'⟩ := id hc
        exact .inr (.inl ⟨_, rfl, a, _, dx, _, _, rfl, ha, cl, T.n_Leaf_chain, rfl, c, dc', _, rfl, hc', rfl, c, rfl, _, rfl, two rfl⟩)
      | ruled ps ring steps i =>
        obtain ⟨dc', p, q, u, hc', _⟩ := id hc
        exact .inr (.inr ⟨_, rfl, a, _, dx, _, _, rfl, ha, cl, T.n_Leaf_chain, rfl, c, dc', _, rfl, hc', rfl, c, ps, ring, steps, i, rfl, hc, _, rfl, two rfl⟩)
    · rintro σ H2 ⟨rfl, rfl, he⟩
      refine ⟨_, rfl, m, _, dm, _, _, rfl, hm, T.cl_Meter, T.n_Meter_left, rfl, _, _, rfl, rfl, _, rfl, ite2 (fun cl1 => ?_) (fun cl1 => ?_)⟩
      · have hl : l < 1 := of_decide_eq_true cl1
        have e1 : ch.ans l = .waits := by unfold Chain.ans; rw [he, if_neg (by decide), if_pos hl]
        have e2 : ch.then_ l = ch := by unfold Chain.then_; rw [he, if_neg (by decide), if_pos hl]
        have e3 : ch.took l = 0 := by unfold Chain.took; rw [he, if_neg (by decide), if_pos hl]
        refine k _ _ ?_ ?_ ?_ (fun b o e _ _ => e)
        · rw [e2]; exact ⟨⟨dx, ha⟩, hc⟩
        · rw [e3, Int.sub_zero, Int.add_zero]; exact ⟨dm, hm⟩
        · rw [e1]; rfl
      · have hl : ¬ l < 1 := fun z => cl1 (decide_eq_true z)
        have e1 : ch.ans l = .part ch.part := by unfold Chain.ans; rw [he, if_neg (by decide), if_neg hl]
        have e2 : ch.then_ l = ch.next := by unfold Chain.then_; rw [he, if_neg (by decide), if_neg hl]
        have e3 : ch.took l = 1 := by unfold Chain.took; rw [he, if_neg (by decide), if_neg hl]
        rw [e1, e2, e3] at k
        -- pay
        refine ⟨_, rfl, m, dm, _, rfl, hm, rfl, m, dm, l, sp, rfl, hm, ?_⟩
        have kp1 : ∀ b o, H2 b = some o → b ≠ m → (upd H2 m (.ins A.c_Meter dm (meF (l - 1) (sp + 1)))) b = some o := fun b o e hb => by rw [upd_ne hb]; exact e
        have hc1 : Chain.At A K (upd H2 m (.ins A.c_Meter dm (meF (l - 1) (sp + 1)))) c ch := hc.kept (N := fun b => b = m) ncm kp1 fun b o e z => by subst e; rw [hm] at z; exact ins_no (Option.some.inj z).symm
        have ha1 := kp1 a _ ha nam
        have hm1 : (upd H2 m (.ins A.c_Meter dm (meF (l - 1) (sp + 1)))) m = some (.ins A.c_Meter dm (meF (l - 1) (sp + 1))) := upd_same
        have hcs1 := kp1 c _ hcs ncm
        generalize upd H2 m (.ins A.c_Meter dm (meF (l - 1) (sp + 1))) = H3 at *
        have fin : ∀ H4, Chain.At A K H4 c ch.next → (∀ b o, H3 b = some o → b ≠ c → H4 b = some o) → ∀ p, H4 p = none → Q (.ref p) (upd H4 p (.tup [.str "part", .int ch.part])) := fun H4 hn kp4 p np => by
          have s5 := same_upd (o := .tup [V.str "part", .int ch.part]) np
          refine k _ _ ⟨⟨dx, s5 _ _ (kp4 a _ ha1 nac)⟩, hn.same s5⟩ ⟨dm, s5 _ _ (kp4 m _ hm1 (Ne.symm ncm))⟩ ⟨p, rfl, upd_same⟩ fun b o e hb hb2 => s5 _ _ (kp4 b o (kp1 b o e hb2) hb)
        have two : (2 : Nat) ≤ sizeLine := by decide
        cases ch with
        | frac t b =>
          obtain ⟨dc', hc'⟩ := id hc1
          have hb : b ≠ 0 := fun z => by subst z; cases he
          exact .inl ⟨_, rfl, a, _, dx, _, _, rfl, ha1, cl, T.n_Leaf_chain, rfl, c, dc', _, rfl, hc', rfl, c, t, b, rfl, hc1, hb, ok.1, ok.2, fun H4 hn kp4 => ⟨two, fun p np => fin H4 hn kp4 p np⟩⟩
        | root t s b r =>
          obtain ⟨dc', hc'⟩ := id hc1
          exact .inr (.inl ⟨_, rfl, a, _, dx, _, _, rfl, ha1, cl, T.n_Leaf_chain, rfl, c, dc', _, rfl, hc', rfl, c, t, s, b, r, rfl, hc1, ok, fun H4 hn kp4 => ⟨two, fun p np => fin H4 hn kp4 p np⟩⟩)
        | ruled ps ring steps i =>
          obtain ⟨dc', p, q, u, hc', _⟩ := id hc1
          have hne : ring = [] → i < ps.length := fun z => by
            subst z
            have he' : decide (ps.length ≤ i) = false := he
            have := of_decide_eq_false he'
            omega
          exact .inr (.inr ⟨_, rfl, a, _, dx, _, _, rfl, ha1, cl, T.n_Leaf_chain, rfl, c, dc', _, rfl, hc', rfl, c, ps, ring, steps, i, rfl, hc1, ok, hne, fun H4 hn kp4 => ⟨two, fun p np => fin H4 hn kp4 p np⟩⟩)
theorem ok_Leaf_init (T : CT K mg A) (D : DT K mg A) : IOk P w K mg base 1 "Leaf" A.c_Leaf ["self", "chain"] (sp_ini A.c_Leaf 1 fun us => [("chain", us.getD 0 .non)]) := by
  refine IOk.of T.g_Leaf D.Leaf_init fun f fd F => ?_
  refine F.ok sc_Leaf_init (fun vs H Q E h => ?_) (fun cdv Ar outer s H vs Q E hr h => ?_)
  · obtain ⟨p, dx, us, rfl, hl, _⟩ := h
    show us.length + 1 = 2
    omega
  · obtain ⟨p, dx, us, rfl, hl, hp, k⟩ := h
    match us, hl with
    | [u0], _ =>
      refine ⟨_, (pss_one (ps_fld (pv 0) (pv 1) rfl)), ?_⟩
      exact ⟨_, rfl, _, rfl, p, _, dx, [], rfl, hp, T.cl_Leaf, T.n_Leaf_chain, (by show 0 < 1000; decide), k⟩
/-! trees of one leaf -/
inductive Leaf where
  | frac (t b : Int) | root (t s b : Int) | ruled (ps ring steps : List Int)
def Leaf.At (K : PySem.W.Frag) (H : Hp) (a : Addr) : Leaf → Prop
  | .frac t b => SqT K H a [.str "fraction", .int t, .int b]
  | .root t s b => SqT K H a [.str "root", .int t, .int s, .int b]
  | .ruled ps ring steps => ∃ p q u, SqT K H a [.str "ruled", .ref p, .ref q, .ref u] ∧ SqT K H p (ps.map V.int) ∧ SqT K H q (ring.map V.int) ∧ SqT K H u (steps.map V.int)
def Leaf.Good : Leaf → Prop
  | .frac t b => tame t ∧ tame b ∧ b ≠ 0
  | .root t s b => tame t ∧ tame s ∧ 0 ≤ s ∧ tame b ∧ b ≠ 0
  | .ruled ps ring steps => RuledGood ps ring steps
/-- the chain that a leaf begins with -/
def Leaf.Starts : Leaf → Chain → Prop
  | .frac t b, ch => ch = .frac t b
  | .root t s b, ch => ∃ r, IsRoot s r ∧ ((r * r = s ∧ ch = .frac (t + r) b) ∨ (r * r ≠ s ∧ ∃ q, IsRoot (s * (b.natAbs : Int) * (b.natAbs : Int)) q ∧ ch = .root (t * (b.natAbs : Int)) (s * (b.natAbs : Int) * (b.natAbs : Int)) (b * (b.natAbs : Int)) q))
  | .ruled ps ring steps, ch => ch = .ruled ps ring steps 0
theorem Leaf.At.same {H H' : Hp} {a : Addr} {f : Leaf} (h : f.At K H a) (k : Same H H') : f.At K H' a := by
  cases f with
  | frac t b => exact sqT_same h k
  | root t s b => exact sqT_same h k
  | ruled ps ring steps =>
    obtain ⟨p, q, u, e, hp, hq, hu⟩ := h
    exact ⟨p, q, u, sqT_same e k, sqT_same hp k, sqT_same hq k, sqT_same hu k⟩
/-- two new objects: an instance and its own dict -/
theorem made_same {H : Hp} {x dx : Addr} {o o' : HO} (nx : H x = none) (nd : H dx = none) : Same H (upd (upd H dx o) x o') := fun b u e => by
  rw [upd_ne (ne_of_none e nx), upd_ne (ne_of_none e nd)]
  exact e
def sp_root_chain (A : Ad) (K : PySem.W.Frag) : Sp := fun vs H Q _ => ∃ (t s b : Int), vs = [.int t, .int s, .int b] ∧ Leaf.Good (.root t s b) ∧
  ∀ c ch H', Chain.At A K H' c ch → Leaf.Starts (.root t s b) ch → ch.Ok → Same H H' → H c = none → Q (.ref c) H'
theorem ok_root_chain (T : CT K mg A) (D : DT K mg A) : COk P w K mg base CX0 4 "root_chain" ["top", "square", "below"] (sp_root_chain A K) := by
  have G_root_below : COk P w K mg base CX0 1 "root_below" ["number"] sp_root_below := COk.by D.root_below fun f fd F => ok_root_below F
  have I_FractionChain := ok_FractionChain_init (P := P) (w := w) (base := base) T D
  have I_RootChain := ok_RootChain_init (P := P) (w := w) (base := base) T D G_root_below root_there
  refine COk.by D.root_chain fun f fd F => ?_
  refine F.ok sc_root_chain (fun vs H Q E h => ?_) (fun cdv Ar outer s H vs Q E hr h => ?_)
  · obtain ⟨t, s, b, rfl, _⟩ := h
    rfl
  · obtain ⟨t, sq, b, rfl, ⟨ht, hs, hs0, hb, hb0⟩, k⟩ := h
    refine ⟨_, (pss_cons (ps_set (i := 3) sc_root_chain.nd rfl (Or.inl rfl) (pe_c G_root_below (hr.mono (by first | decide | omega)) (pa_cons (pv 1) pa_nil)))
    (pss_cons (ps_if (pt_cmpR op_eq (pe_op op_mul (pv 3) (pv 3)) (pv 1) (nomark _))
      (pss_one (ps_ret (pe_mk I_FractionChain (hr.mono (by first | decide | omega)) (pa_cons (pe_op op_add (pv 0) (pv 3)) (pa_cons (pv 2) pa_nil))))) pss_nil)
    (pss_one (ps_ret (pe_mk I_RootChain (hr.mono (by first | decide | omega)) (pa_cons (pv 0) (pa_cons (pv 1) (pa_cons (pv 2) pa_nil)))))))), ?_⟩
    obtain ⟨s1, s2⟩ := id hs
    obtain ⟨t1, t2⟩ := id ht
    refine ⟨_, rfl, sq, rfl, hs0, Int.lt_of_le_of_lt s2 (by decide +kernel), fun r hr0 => ?_⟩
    have r1 : r < 2 ^ 20 := lt_of_sq (k := 20) hr0.1 hr0.2.1 (Int.lt_of_le_of_lt s2 (by decide))
    have p20 : (2 : Int) ^ 20 = 1048576 := by decide
    have r0 := hr0.1
    have p64 : (2 : Int) ^ 64 = 18446744073709551616 := by decide
    have w64 : -(2 ^ 64) < r ∧ r < 2 ^ 64 := ⟨by omega, by omega⟩
    refine ⟨_, rfl, _, rfl, _, _, rfl, rfl, .inl w64, _, rfl, rfl, _, rfl, ite2 (fun c => ?_) (fun c => ?_)⟩
    · have e : r * r = sq := V.int.inj (of_decide_eq_true c)
      refine ⟨_, rfl, _, rfl, _, _, rfl, rfl, _, rfl, fun x dx nx nd ne => ?_⟩
      refine ⟨x, dx, [.int (t + r), .int b], rfl, rfl, upd_same, rfl, ?_⟩
      rw [upd_upd]
      refine k x (.frac (t + r) b) _ ⟨dx, upd_same⟩ ⟨r, hr0, .inl ⟨e, rfl⟩⟩ ⟨?_, small_tame hb⟩ (made_same nx nd) nx
      have p40 : (2 : Nat) ^ 41 = 2199023255552 := by decide
      exact Nat.lt_trans (show (t + r).natAbs < 2 ^ 41 by omega) (Nat.pow_lt_pow_right (by decide) (by decide))
    · have e : r * r ≠ sq := fun z => c (decide_eq_true (congrArg V.int z))
      refine ⟨_, rfl, _, rfl, _, rfl, fun x dx nx nd ne => ?_⟩
      refine ⟨x, dx, t, sq, b, rfl, upd_same, ht, hs0, s2, hb, hb0, (fun r' hr' => by rw [hr'.unique hr0]; exact e), fun q hq => ⟨rfl, ?_⟩⟩
      rw [upd_upd]
      exact k x (.root _ _ _ q) _ ⟨dx, upd_same⟩ ⟨r, hr0, .inr ⟨e, q, hq.rt, rfl⟩⟩ hq (made_same nx nd) nx
/-- a new leaf -/
def sp_leaf_of (A : Ad) (K : PySem.W.Frag) : Sp := fun vs H Q _ => ∃ (v : Addr) (f : Leaf), vs = [.ref v] ∧ f.At K H v ∧ f.Good ∧
  ∀ a c ch H', LeafAt A K H' a c ch → f.Starts ch → ch.Ok → Same H H' → H a = none → H c = none → a ≠ c → Q (.ref a) H'
theorem ok_leaf_of (T : CT K mg A) (D : DT K mg A) : COk P w K mg base CX0 5 "leaf_of" ["tree"] (sp_leaf_of A K) := by
  have G_root_chain := ok_root_chain (P := P) (w := w) (base := base) T D
  have I_FractionChain := ok_FractionChain_init (P := P) (w := w) (base := base) T D
  have I_RuledChain := ok_RuledChain_init (P := P) (w := w) (base := base) T D
  have I_Leaf := ok_Leaf_init (P := P) (w := w) (base := base) T D
  refine COk.by D.leaf_of fun f fd F => ?_
  refine F.ok sc_leaf_of (fun vs H Q E h => ?_) (fun cdv Ar outer s H vs Q E hr h => ?_)
  · obtain ⟨v, f, rfl, _⟩ := h
    rfl
  · obtain ⟨v, f, rfl, hf, hg, k⟩ := h
    refine ⟨_, (pss_cons (ps_if (pt_cmpR op_eq (pe_ix ix_tup (pv 0) pe_int (fun _ _ => rfl)) pe_str (nomark _))
      (pss_one (ps_ret (pe_mk I_Leaf (hr.mono (by first | decide | omega)) (pa_cons (pe_mk I_FractionChain (hr.mono (by first | decide | omega)) (pa_cons (pe_ix ix_tup (pv 0) pe_int (fun _ _ => rfl)) (pa_cons (pe_ix ix_tup (pv 0) pe_int (fun _ _ => rfl)) pa_nil))) pa_nil)))) pss_nil)
    (pss_cons (ps_if (pt_cmpR op_eq (pe_ix ix_tup (pv 0) pe_int (fun _ _ => rfl)) pe_str (nomark _))
      (pss_one (ps_ret (pe_mk I_Leaf (hr.mono (by first | decide | omega)) (pa_cons (pe_c G_root_chain (hr.mono (by first | decide | omega)) (pa_cons (pe_ix ix_tup (pv 0) pe_int (fun _ _ => rfl)) (pa_cons (pe_ix ix_tup (pv 0) pe_int (fun _ _ => rfl)) (pa_cons (pe_ix ix_tup (pv 0) pe_int (fun _ _ => rfl)) pa_nil)))) pa_nil)))) pss_nil)
    (pss_one (ps_ret (pe_mk I_Leaf (hr.mono (by first | decide | omega)) (pa_cons (pe_mk I_RuledChain (hr.mono (by first | decide | omega)) (pa_cons (pe_ix ix_tup (pv 0) pe_int (fun _ _ => rfl)) (pa_cons (pe_ix ix_tup (pv 0) pe_int (fun _ _ => rfl)) (pa_cons (pe_ix ix_tup (pv 0) pe_int (fun _ _ => rfl)) pa_nil)))) pa_nil)))))), ?_⟩
    have fin : ∀ c ch H1, Chain.At A K H1 c ch → f.Starts ch → ch.Ok → Same H H1 → H c = none → ∀ x dx, H1 x = none → H1 dx = none → dx ≠ x → Q (.ref x) (upd (upd (upd H1 dx (.own x)) x (.ins A.c_Leaf dx [])) x (.ins A.c_Leaf dx (leF c))) := fun c ch H1 hc st ok sm nc x dx nx nd ne => by
      rw [upd_upd]
      have s2 := made_same (o := .own x) (o' := .ins A.c_Leaf dx (leF c)) nx nd
      obtain ⟨C, d, fs, e⟩ := hc.there
      exact k x c ch _ ⟨⟨dx, upd_same⟩, hc.same s2⟩ st ok (sm.trans s2) (sm.free nx) nc (ne_of_none e nx).symm
    cases f with
    | frac t b =>
      refine ⟨_, rfl, v, _, 0, _, rfl, rfl, hf, atI_nat (j := 0) rfl, rfl, _, rfl, ?_⟩
      refine iteT ⟨_, rfl, v, _, 1, _, rfl, rfl, hf, atI_nat (j := 1) rfl, _, rfl, v, _, 2, _, rfl, rfl, hf, atI_nat (j := 2) rfl, fun x dx nx nd ne => ?_⟩
      refine ⟨x, dx, [.int t, .int b], rfl, rfl, upd_same, rfl, ?_⟩
      rw [upd_upd]
      intro x2 dx2 nx2 nd2 ne2
      exact ⟨x2, dx2, [.ref x], rfl, rfl, upd_same, rfl, fin x (.frac t b) _ ⟨dx, upd_same⟩ rfl ⟨small_tame hg.1, small_tame hg.2.1⟩ (made_same nx nd) nx x2 dx2 nx2 nd2 ne2⟩
    | root t sq b =>
      refine ⟨_, rfl, v, _, 0, _, rfl, rfl, hf, atI_nat (j := 0) rfl, rfl, _, rfl, ?_⟩
      refine iteF ⟨_, rfl, v, _, 0, _, rfl, rfl, hf, atI_nat (j := 0) rfl, rfl, _, rfl, ?_⟩
      refine iteT ⟨_, rfl, v, _, 1, _, rfl, rfl, hf, atI_nat (j := 1) rfl, _, rfl, v, _, 2, _, rfl, rfl, hf, atI_nat (j := 2) rfl, _, rfl, v, _, 3, _, rfl, rfl, hf, atI_nat (j := 3) rfl, t, sq, b, rfl, hg, fun c ch H1 hc st ok sm nc => ?_⟩
      intro x2 dx2 nx2 nd2 ne2
      exact ⟨x2, dx2, [.ref c], rfl, rfl, upd_same, rfl, fin c ch H1 hc st ok sm nc x2 dx2 nx2 nd2 ne2⟩
    | ruled ps ring steps =>
      obtain ⟨p, q, u, hv, hp, hq, hu⟩ := hf
      refine ⟨_, rfl, v, _, 0, _, rfl, rfl, hv, atI_nat (j := 0) rfl, rfl, _, rfl, ?_⟩
      refine iteF ⟨_, rfl, v, _, 0, _, rfl, rfl, hv, atI_nat (j := 0) rfl, rfl, _, rfl, ?_⟩
      refine iteF ⟨_, rfl, v, _, 1, _, rfl, rfl, hv, atI_nat (j := 1) rfl, _, rfl, v, _, 2, _, rfl, rfl, hv, atI_nat (j := 2) rfl, _, rfl, v, _, 3, _, rfl, rfl, hv, atI_nat (j := 3) rfl, fun x dx nx nd ne => ?_⟩
      refine ⟨x, dx, [.ref p, .ref q, .ref u], rfl, rfl, upd_same, rfl, ?_⟩
      rw [upd_upd]
      intro x2 dx2 nx2 nd2 ne2
      have s1 := made_same (o := .own x) (o' := .ins A.c_RuledChain dx (ruF p q u 0)) nx nd
      exact ⟨x2, dx2, [.ref x], rfl, rfl, upd_same, rfl, fin x (.ruled ps ring steps 0) _ ⟨dx, p, q, u, upd_same, sqT_same hp s1, sqT_same hq s1, sqT_same hu s1⟩ rfl hg.toRuledOk s1 nx x2 dx2 nx2 nd2 ne2⟩
end
/-! ### readings -/
section
variable {P : Program} {w : World} {K : PySem.W.Frag} {mg : Str → Option Value} {base : Heap} {A : Ad}
def sp_Reading_init (A : Ad) : Sp := fun vs H Q _ => ∃ (p dx : Addr) (b : Addr), vs = [.ref p, .ref b] ∧ H p = some (.ins A.c_Reading dx []) ∧
  ∀ m H', H m = none → H' p = some (.ins A.c_Reading dx (reF b m)) → MeterAt A H' m 0 0 → (∀ c o, H c = some o → c ≠ p → H' c = some o) → Q .non H'
theorem ok_Reading_init (T : CT K mg A) (D : DT K mg A) : IOk P w K mg base 3 "Reading" A.c_Reading ["self", "box"] (sp_Reading_init A) := by
  have I_Meter := ok_Meter_init (P := P) (w := w) (base := base) T D
  refine IOk.of T.g_Reading D.Reading_init fun f fd F => ?_
  refine F.ok sc_Reading_init (fun vs H Q E h => ?_) (fun cdv Ar outer s H vs Q E hr h => ?_)
  · obtain ⟨p, dx, b, rfl, _⟩ := h
    rfl
  · obtain ⟨p, dx, b, rfl, hp, k⟩ := h
    refine ⟨_, (pss_cons (ps_fld (pv 0) (pv 1) rfl)
    (pss_one (ps_fld (pv 0) (pe_mk0 I_Meter (hr.mono (by first | decide | omega))) rfl))), ?_⟩
    refine ⟨_, rfl, _, rfl, p, _, dx, [], rfl, hp, T.cl_Reading, T.n_Reading_box, (by show 0 < 1000; decide), ?_⟩
    intro m dm nm ndm ne
    refine ⟨m, dm, [], rfl, rfl, upd_same, rfl, ?_⟩
    rw [upd_upd]
    have h1 : (upd H p (.ins A.c_Reading dx (putF "box" (.ref b) []))) p = some (.ins A.c_Reading dx [("box", .ref b)]) := upd_same
    have s1 := made_same (o := .own m) (o' := .ins A.c_Meter dm (meF 0 0)) nm ndm
    have hpm : p ≠ m := ne_of_none h1 nm
    refine ⟨_, rfl, p, _, dx, _, rfl, s1 _ _ h1, T.cl_Reading, T.n_Reading_meter, (by show 1 < 1000; decide), ?_⟩
    refine k m _ ?_ upd_same ⟨dm, by rw [upd_ne hpm.symm, upd_same]⟩ fun c o e hc => ?_
    · rw [upd_ne hpm.symm] at nm
      exact nm
    · rw [upd_ne hc]
      exact s1 _ _ (by rw [upd_ne hc]; exact e)
theorem ok_Reading_took (T : CT K mg A) (D : DT K mg A) : MOk P w K mg base CX0 1 A.c_Reading "took" ["self"] (fun vs H Q _ => ∃ r rx b m dm l s, vs = [.ref r] ∧ H r = some (.ins A.c_Reading rx (reF b m)) ∧ H m = some (.ins A.c_Meter dm (meF l s)) ∧ Q (.int s) H) := by
  refine MOk.of T.cl_Reading D.Reading_took fun f fd F => ?_
  refine F.ok sc_Reading_took (fun vs H Q E h => ?_) (fun cdv Ar outer s H vs Q E hr h => ?_)
  · obtain ⟨r, rx, b, m, dm, l, s, rfl, _⟩ := h
    rfl
  · obtain ⟨r, rx, b, m, dm, l, sp, rfl, hr0, hm, k⟩ := h
    refine ⟨_, (pss_one (ps_ret (pe_fld (pe_fld (pv 0) rfl) rfl))), ?_⟩
    exact ⟨_, rfl, r, _, rx, _, _, rfl, hr0, T.cl_Reading, T.n_Reading_meter, rfl, m, _, dm, _, _, rfl, hm, T.cl_Meter, T.n_Meter_spent, rfl, k⟩
/-- a reading asks its box, of the class at C -/
def sp_part (A : Ad) (C : Addr) (spA : Sp) : Sp := fun vs H Q _ => ∃ (r rx b m dm db : Addr) (fb : Flds) (l s n : Int), vs = [.ref r, .int n] ∧ H r = some (.ins A.c_Reading rx (reF b m)) ∧ H m = some (.ins A.c_Meter dm (meF l s)) ∧ r ≠ m ∧ b ≠ m ∧ H b = some (.ins C db fb) ∧ fb.lookup ("ask" : Str) = none ∧
  spA [.ref b, .ref m] (upd H m (.ins A.c_Meter dm (meF n s))) Q E0
theorem ok_Reading_part {k : Nat} {C : Addr} {spA : Sp} (T : CT K mg A) (D : DT K mg A) (hk : 1 ≤ k) (M_ask : MOk P w K mg base CX0 k C "ask" ["self", "meter"] spA) : MOk P w K mg base CX0 (k + 1) A.c_Reading "part" ["self", "most"] (sp_part A C spA) := by
  have M_allow := ok_Meter_allow (P := P) (w := w) (base := base) T D
  refine MOk.of T.cl_Reading D.Reading_part fun f fd F => ?_
  refine F.ok sc_Reading_part (fun vs H Q E h => ?_) (fun cdv Ar outer s H vs Q E hr h => ?_)
  · obtain ⟨r, rx, b, m, dm, db, fb, l, s, n, rfl, _⟩ := h
    rfl
  · obtain ⟨r, rx, b, m, dm, db, fb, l, sp, n, rfl, hr0, hm, nrm, nbm, hb, lk, q⟩ := h
    refine ⟨_, (pss_cons (ps_expr (pe_m M_allow (hr.mono (by first | decide | omega)) (pe_fld (pv 0) rfl) (pa_cons (pv 1) pa_nil)))
    (pss_one (ps_ret (pe_m M_ask (hr.mono (by first | decide | omega)) (pe_fld (pv 0) rfl) (pa_cons (pe_fld (pv 0) rfl) pa_nil))))), ?_⟩
    have cl := T.cl_Reading
    refine ⟨_, rfl, r, _, rx, _, _, rfl, hr0, cl, T.n_Reading_meter, rfl, m, dm, _, rfl, hm, rfl, _, rfl, m, dm, l, sp, n, rfl, hm, ?_⟩
    have hr1 : (upd H m (.ins A.c_Meter dm (meF n sp))) r = some (.ins A.c_Reading rx (reF b m)) := by rw [upd_ne nrm]; exact hr0
    have hb1 : (upd H m (.ins A.c_Meter dm (meF n sp))) b = some (.ins C db fb) := by rw [upd_ne nbm]; exact hb
    exact ⟨_, rfl, r, _, rx, _, _, rfl, hr1, cl, T.n_Reading_box, rfl, b, db, fb, rfl, hb1, lk, _, rfl, r, _, rx, _, _, rfl, hr1, cl, T.n_Reading_meter, rfl, q⟩
/-! a reading of a leaf -/
structure ReadAt (A : Ad) (K : PySem.W.Frag) (H : Hp) (r a c m : Addr) (ch : Chain) (l s : Int) : Prop where
  rd : ∃ rx, H r = some (.ins A.c_Reading rx (reF a m))
  lf : LeafAt A K H a c ch
  mt : MeterAt A H m l s
  ra : r ≠ a
  rc : r ≠ c
  rm : r ≠ m
  ac : a ≠ c
  am : a ≠ m
  cm : c ≠ m
  ok : ch.Ok
theorem ReadAt.same {H H' : Hp} {r a c m : Addr} {ch : Chain} {l s : Int} (R : ReadAt A K H r a c m ch l s) (k : Same H H') : ReadAt A K H' r a c m ch l s := by
  obtain ⟨⟨rx, e⟩, ⟨⟨dx, e2⟩, hc⟩, ⟨dm, e3⟩, ra, rc, rm, ac, am, cm, ok⟩ := R
  exact ⟨⟨rx, k _ _ e⟩, ⟨⟨dx, k _ _ e2⟩, hc.same k⟩, ⟨dm, k _ _ e3⟩, ra, rc, rm, ac, am, cm, ok⟩
/-- another list is written -/
theorem ReadAt.put {H : Hp} {r a c m d : Addr} {ch : Chain} {l s : Int} {xs ys : List V} (R : ReadAt A K H r a c m ch l s) (hd : H d = some (.lst xs)) (_ : d ≠ c) (_ : d ≠ m) : ReadAt A K (upd H d (.lst ys)) r a c m ch l s := by
  obtain ⟨⟨rx, e⟩, ⟨⟨dx, e2⟩, hc⟩, ⟨dm, e3⟩, ra, rc, rm, ac, am, cm, ok⟩ := R
  have k : ∀ b o, H b = some o → ¬ b = d → (upd H d (.lst ys)) b = some o := fun b o z n => by rw [upd_ne n]; exact z
  have ne : ∀ {b C dx fs}, H b = some (.ins C dx fs) → b ≠ d := fun {b C dx fs} z => ne_of z hd (by intro q; cases q)
  obtain ⟨C, dc, fs, e4⟩ := hc.there
  refine ⟨⟨rx, k _ _ e (ne e)⟩, ⟨⟨dx, k _ _ e2 (ne e2)⟩, hc.kept (N := fun b => b = d) (ne e4) k fun b o z y => ?_⟩, ⟨dm, k _ _ e3 (ne e3)⟩, ra, rc, rm, ac, am, cm, ok⟩
  subst z
  rw [hd] at y
  cases y
  exact ⟨fun _ q => (by cases q), fun _ _ q => (by cases q)⟩
/-- one asking of a leaf's reading -/
def sp_part_leaf (A : Ad) (K : PySem.W.Frag) : Sp := fun vs H Q _ => ∃ (r a c m : Addr) (ch : Chain) (l s n : Int), vs = [.ref r, .int n] ∧ ReadAt A K H r a c m ch l s ∧
  ∀ v H', ReadAt A K H' r a c m (ch.then_ n) (n - ch.took n) (s + ch.took n) → (ch.ans n).At A H' v → (∀ b o, H b = some o → b ≠ c → b ≠ m → H' b = some o) → Q v H'
theorem Chain.Ok.then_ {ch : Chain} (h : ch.Ok) (n : Int) : (ch.then_ n).Ok := by
  unfold Chain.then_
  split
  · exact h
  · split
    · exact h
    · rename_i h1 _
      exact h.next (by rw [Bool.not_eq_true] at h1; exact h1)
theorem ok_part_leaf (T : CT K mg A) (D : DT K mg A) : MOk P w K mg base CX0 3 A.c_Reading "part" ["self", "most"] (sp_part_leaf A K) := by
  obtain ⟨cl, f, fd, F, M, B⟩ := ok_Reading_part (P := P) (w := w) (base := base) T D (by decide) (ok_Leaf_ask T D)
  refine ⟨cl, f, fd, F.imp fun vs H Q E h => ?_, M, B⟩
  obtain ⟨r, a, c, m, ch, l, s, n, rfl, R, k⟩ := h
  obtain ⟨⟨rx, e⟩, ⟨⟨dx, e2⟩, hc⟩, ⟨dm, e3⟩, ra, rc, rm, ac, am, cm, ok⟩ := R
  refine ⟨r, rx, a, m, dm, dx, leF c, l, s, n, rfl, e, e3, rm, am, e2, rfl, ?_⟩
  have kp : ∀ b o, H b = some o → b ≠ m → (upd H m (.ins A.c_Meter dm (meF n s))) b = some o := fun b o z hb => by rw [upd_ne hb]; exact z
  have hc1 : Chain.At A K (upd H m (.ins A.c_Meter dm (meF n s))) c ch := hc.kept (N := fun b => b = m) cm kp fun b o z y => by subst z; rw [e3] at y; exact ins_no (Option.some.inj y).symm
  refine ⟨a, c, m, ch, n, s, rfl, ⟨⟨dx, kp _ _ e2 am⟩, hc1⟩, ok, ⟨dm, upd_same⟩, ac, am, cm, fun v H' hl hm ha k2 => ?_⟩
  exact k v H' ⟨⟨rx, k2 _ _ (kp _ _ e rm) rc rm⟩, hl, hm, ra, rc, rm, ac, am, cm, ok.then_ n⟩ ha fun b o z hb hb2 => k2 b o (kp b o z hb2) hb hb2
theorem ok_took_leaf (T : CT K mg A) (D : DT K mg A) : MOk P w K mg base CX0 1 A.c_Reading "took" ["self"] (fun vs H Q _ => ∃ r a c m ch l s, vs = [.ref r] ∧ ReadAt A K H r a c m ch l s ∧ Q (.int s) H) := by
  obtain ⟨cl, f, fd, F, M, B⟩ := ok_Reading_took (P := P) (w := w) (base := base) T D
  refine ⟨cl, f, fd, F.imp fun vs H Q E h => ?_, M, B⟩
  obtain ⟨r, a, c, m, ch, l, s, rfl, ⟨⟨rx, e⟩, _, ⟨dm, e3⟩, _⟩, q⟩ := h
  exact ⟨r, rx, a, m, dm, l, s, rfl, e, e3, q⟩
theorem ok_box_of_leaf (T : CT K mg A) (D : DT K mg A) : COk P w K mg base CX0 6 "box_of" ["tree"] (sp_leaf_of A K) := by
  have G_leaf_of := ok_leaf_of (P := P) (w := w) (base := base) T D
  refine COk.by D.box_of fun f fd F => ?_
  refine F.ok sc_box_of (fun vs H Q E h => ?_) (fun cdv Ar outer s H vs Q E hr h => ?_)
  · obtain ⟨v, f, rfl, _⟩ := h
    rfl
  · obtain ⟨v, f, rfl, hf, hg, k⟩ := h
    refine ⟨_, (pss_cons (ps_set (i := 1) sc_box_of.nd rfl (Or.inl rfl) (pe_ix ix_tup (pv 0) pe_int (fun _ _ => rfl)))
    (pss_cons (ps_if (pt_cmpR op_eq (pv 1) pe_str (nomark _))
      (pss_one (ps_never)) pss_nil)
    (pss_cons (ps_if (pt_cmpR op_eq (pv 1) pe_str (nomark _))
      (pss_one (ps_never)) pss_nil)
    (pss_cons (ps_if (pt_cmpR op_eq (pv 1) pe_str (nomark _))
      (pss_one (ps_never)) pss_nil)
    (pss_one (ps_ret (pe_c G_leaf_of (hr.mono (by first | decide | omega)) (pa_cons (pv 0) pa_nil)))))))), ?_⟩
    cases f with
    | frac t b => exact ⟨_, rfl, v, _, 0, _, rfl, rfl, hf, atI_nat (j := 0) rfl, _, rfl, rfl, _, rfl, iteF ⟨_, rfl, rfl, _, rfl, iteF ⟨_, rfl, rfl, _, rfl, iteF ⟨_, rfl, v, .frac t b, rfl, hf, hg, k⟩⟩⟩⟩
    | root t s b => exact ⟨_, rfl, v, _, 0, _, rfl, rfl, hf, atI_nat (j := 0) rfl, _, rfl, rfl, _, rfl, iteF ⟨_, rfl, rfl, _, rfl, iteF ⟨_, rfl, rfl, _, rfl, iteF ⟨_, rfl, v, .root t s b, rfl, hf, hg, k⟩⟩⟩⟩
    | ruled ps ring steps =>
      obtain ⟨p, q, u, hv, h3⟩ := id hf
      exact ⟨_, rfl, v, _, 0, _, rfl, rfl, hv, atI_nat (j := 0) rfl, _, rfl, rfl, _, rfl, iteF ⟨_, rfl, rfl, _, rfl, iteF ⟨_, rfl, rfl, _, rfl, iteF ⟨_, rfl, v, .ruled ps ring steps, rfl, hf, hg, k⟩⟩⟩⟩
def sp_reader_leaf (A : Ad) (K : PySem.W.Frag) : Sp := fun vs H Q _ => ∃ (v : Addr) (f : Leaf), vs = [.ref v] ∧ f.At K H v ∧ f.Good ∧
  ∀ r a c m ch H', ReadAt A K H' r a c m ch 0 0 → f.Starts ch → Same H H' → H r = none → H a = none → H c = none → H m = none → Q (.ref r) H'
theorem ok_reader_leaf (T : CT K mg A) (TT : TB K w mg A) (D : DT K mg A) : COk P w K mg base CX0 7 "reader" ["tree"] (sp_reader_leaf A K) := by
  have G_box_of := ok_box_of_leaf (P := P) (w := w) (base := base) T D
  have I_Reading := ok_Reading_init (P := P) (w := w) (base := base) T D
  have G_at := ok_check_at_depth (P := P) (w := w) (base := base) (k := 3) T TT D (by decide) (ok_check_fraction T D) (ok_check_root T D) (ok_check_ruled T D) (ok_no D.check_four) (ok_no D.check_eight) (ok_no D.check_power)
  have G_check_tree := ok_check_tree D G_at
  refine COk.by D.reader fun f fd F => ?_
  refine F.ok sc_reader (fun vs H Q E h => ?_) (fun cdv Ar outer s H vs Q E hr h => ?_)
  · obtain ⟨v, f, rfl, _⟩ := h
    rfl
  · obtain ⟨v, f, rfl, hf, hg, k⟩ := h
    refine ⟨_, (pss_cons (ps_expr (pe_c G_check_tree (hr.mono (by first | decide | omega)) (pa_cons (pv 0) pa_nil)))
    (pss_one (ps_ret (pe_mk I_Reading (hr.mono (by first | decide | omega)) (pa_cons (pe_c G_box_of (hr.mono (by first | decide | omega)) (pa_cons (pv 0) pa_nil)) pa_nil))))), ?_⟩
    have rest : ∀ H1, Same H H1 → (tRet (tMake A.c_Reading (sp_Reading_init A) [] E0 (tCons (tCall (sp_leaf_of A K) [] E0 (tCons (tVar 0) tNil)) tNil))) { nx := fun _ H' => Q .non H', rt := Q } [some (V.ref v)] H1 := fun H1 s1 => by
      refine ⟨_, rfl, v, f, rfl, hf.same s1, hg, fun a c ch H2 hl st ok s2 na nc nac => ?_⟩
      intro x dx nx nd ne
      refine ⟨x, dx, a, rfl, upd_same, fun m H3 nm hx hm kp => ⟨rfl, ?_⟩⟩
      have s3 : Same H2 H3 := fun b o e => kp b o (by rw [upd_ne (ne_of_none e nx), upd_ne (ne_of_none e nd)]; exact e) (ne_of_none e nx)
      obtain ⟨⟨da, e2⟩, hc⟩ := id hl
      obtain ⟨C, dc, fs, e3⟩ := hc.there
      have nm2 : H2 m = none := by
        cases q : H2 m with
        | none => rfl
        | some o =>
          have hmx : m ≠ x := fun z => by rw [z, upd_same] at nm; cases nm
          have hmd : m ≠ dx := fun z => by rw [z, upd_ne ne, upd_same] at nm; cases nm
          rw [upd_ne hmx, upd_ne hmd, q] at nm
          cases nm
      have hxm : x ≠ m := fun z => by rw [← z, upd_same] at nm; cases nm
      have ss : Same H H3 := (s1.trans s2).trans s3
      exact k x a c m ch H3 ⟨⟨dx, hx⟩, ⟨⟨da, s3 _ _ e2⟩, hc.same s3⟩, hm, (ne_of_none e2 nx).symm, (ne_of_none e3 nx).symm, hxm, nac, ne_of_none e2 nm2, ne_of_none e3 nm2, ok⟩ st ss ((s1.trans s2).free nx) (s1.free na) (s1.free nc) ((s1.trans s2).free nm2)
    cases f with
    | frac t b => exact ⟨_, rfl, _, rfl, v, "fraction", [.int t, .int b], 1, rfl, by decide, hf, .inl ⟨rfl, rfl, v, t, b, 1, rfl, hf, hg.1, hg.2.1, hg.2.2, fun H' s' => rest H' s'⟩⟩
    | root t s b => exact ⟨_, rfl, _, rfl, v, "root", [.int t, .int s, .int b], 1, rfl, by decide, hf, .inr (.inl ⟨rfl, rfl, v, t, s, b, 1, rfl, hf, hg.1, hg.2.1, hg.2.2.1, hg.2.2.2.1, hg.2.2.2.2, fun H' s' => rest H' s'⟩)⟩
    | ruled ps ring steps =>
      obtain ⟨p, q, u, hv, hp, hq, hu⟩ := id hf
      exact ⟨_, rfl, _, rfl, v, "ruled", [.ref p, .ref q, .ref u], 1, rfl, by decide, hv, .inr (.inr (.inl ⟨rfl, rfl, v, p, q, u, ps, ring, steps, 1, rfl, hv, hp, hq, hu, hg, fun H' s' => rest H' s'⟩))⟩
end
/-! ### what is told, as the laws hold it against what is due -/
def Ans.vals : Ans → List V
  | .part n => [.str "part", .int n]
  | .fin => [.str "end"]
  | .waits => [.str "waits"]
theorem ints_at' {ns : List Int} {i : Nat} {y : V} (h : (ns.map V.int)[i]? = some y) : ∃ z, ns[i]? = some z ∧ y = V.int z := by
  rw [List.getElem?_map] at h
  cases e : ns[i]? with
  | none => rw [e] at h; cases h
  | some z => rw [e] at h; exact ⟨z, rfl, (Option.some.inj h).symm⟩
def Ans.data : Ans → List PyData
  | .part n => [.str "part", .int n]
  | .fin => [.str "end"]
  | .waits => [.str "waits"]
section
variable {P : Program} {w : World} {K : PySem.W.Frag} {mg : Str → Option Value} {base : Heap} {A : Ad}
theorem Ans.At.tup (T : CT K mg A) {H : Hp} {v : V} {a : Ans} (h : a.At A H v) : ∃ p, v = .ref p ∧ SqT K H p a.vals := by
  cases a with
  | part n =>
    obtain ⟨p, e, hp⟩ := h
    exact ⟨p, e, SqT.of hp⟩
  | fin => exact ⟨_, h, T.t_END H⟩
  | waits => exact ⟨_, h, T.t_WAITS H⟩
theorem Ans.shaped (a : Ans) : SeqAt.shaped (.tuple a.data) = true := by
  have h1 : PyData.strOk "part" = true := by decide +kernel
  have h2 : PyData.strOk "end" = true := by decide +kernel
  have h3 : PyData.strOk "waits" = true := by decide +kernel
  cases a with
  | part n => simp [SeqAt.shaped, Ans.data, PyData.canLay0, PyData.canLayAll0, PyData.depth, PyData.depthAll, h1]
  | fin => simp [SeqAt.shaped, Ans.data, PyData.canLay0, PyData.canLayAll0, PyData.depth, PyData.depthAll, h2]
  | waits => simp [SeqAt.shaped, Ans.data, PyData.canLay0, PyData.canLayAll0, PyData.depth, PyData.depthAll, h3]
theorem Ans.dp {H : Hp} {p : Addr} (a : Ans) (h : SqT K H p a.vals) : Dp K H (.ref p) (.tuple a.data) := by
  cases a with
  | part n => exact .tup h (.cons (.str _) (.cons (.int n) .nil))
  | fin => exact .tup h (.cons (.str _) .nil)
  | waits => exact .tup h (.cons (.str _) .nil)
theorem ans_sq {H H' : Hp} {b c m : Addr} {xs : List V} (h : SqT K H b xs) (hc : ∃ C dx fs, H c = some (.ins C dx fs)) (hm : ∃ C dx fs, H m = some (.ins C dx fs)) (k : ∀ b o, H b = some o → b ≠ c → b ≠ m → H' b = some o) : SqT K H' b xs :=
  sqT_but (N := fun z => z = c ∨ z = m) h (fun b o e n => k b o e (fun z => n (.inl z)) fun z => n (.inr z)) fun b o e z => by
    rcases e with rfl | rfl
    · obtain ⟨C, dx, fs, e⟩ := hc; rw [e] at z; exact ins_no (Option.some.inj z).symm
    · obtain ⟨C, dx, fs, e⟩ := hm; rw [e] at z; exact ins_no (Option.some.inj z).symm
/-- what a leaf's reading tells is what is due -/
def sp_law_got (A : Ad) (K : PySem.W.Frag) : Sp := fun vs H Q _ => ∃ (r a c m d : Addr) (ch : Chain) (l s n : Int), vs = [.ref r, .int n, .ref d] ∧ ReadAt A K H r a c m ch l s ∧ SqT K H d (ch.ans n).vals ∧
  ∀ H', ReadAt A K H' r a c m (ch.then_ n) (n - ch.took n) (s + ch.took n) → (∀ b o, H b = some o → b ≠ c → b ≠ m → H' b = some o) → Q (.bl true) H'
end
/-! ### boxes: what is reckoned with their numbers -/
/-- as great as a number of a box may be -/
def fits (z : Int) : Prop := z.natAbs < 2 ^ 13000
instance (z : Int) : Decidable (fits z) := inferInstanceAs (Decidable (z.natAbs < 2 ^ 13000))
theorem fits_mul {x y : Int} (h : fits x) (h' : fits y) : CMulW x y := wide_mul (a := 13000) (b := 13000) h h' (by decide) (by decide) (by decide)
theorem fits_neg {x : Int} (h : fits x) : fits (-x) := by
  unfold fits at *
  omega
theorem fits_mul' {x y : Int} (h : fits x) (h' : (y - 1).natAbs < 2 ^ 13000 ∨ fits y) : CMulW x y := by
  refine wide_mul (a := 13000) (b := 13001) h ?_ (by decide) (by decide) (by decide)
  have e : (2 : Nat) ^ 13001 = 2 ^ 13000 + 2 ^ 13000 := by rw [Nat.pow_succ]; omega
  unfold fits at h'
  have p : 0 < (2 : Nat) ^ 13000 := Nat.pow_pos (by decide)
  rw [e]
  generalize (2 : Nat) ^ 13000 = Z at *
  rcases h' with h' | h' <;> omega
/-- // where the number above is not that great -/
def CDivM (i j : Int) : Prop := j ≠ 0 ∧ fits i
theorem noPylong_top {x y : Int} (h : fits x) : Builtin.divisionGoesByPylong x y = false := by
  have hx : x.natAbs.log2 < 13000 := PySem.Flt.log2_lt_of (k := 13000) (by decide) h
  have key : (if x == 0 then 0 else x.natAbs.log2 / 30 + 1) ≤ 434 := by
    by_cases hz : (x == 0) = true
    · rw [if_pos hz]; exact Nat.zero_le _
    · rw [if_neg hz]; omega
  show (decide ((if y == 0 then 0 else y.natAbs.log2 / 30 + 1) > 300) && decide ((if x == 0 then 0 else x.natAbs.log2 / 30 + 1) > (if y == 0 then 0 else y.natAbs.log2 / 30 + 1) + 150)) = false
  generalize (if x == 0 then 0 else x.natAbs.log2 / 30 + 1) = dx at *
  generalize (if y == 0 then 0 else y.natAbs.log2 / 30 + 1) = dy at *
  by_cases c : dy > 300
  · rw [decide_eq_false (show ¬ dx > dy + 150 by omega), Bool.and_false]
  · rw [decide_eq_false c, Bool.false_and]
theorem op_fdivM {X : Cx} : OpR X (binaryOp .FloorDiv) (rI CDivM fun i j => .int (i.fdiv j)) := opI fun _ _ _ _ _ _ _ hc q =>
  PyProof.Rows.floordiv_int hc.1 q (.inl (noPylong_top hc.2))
def turnedOver (ns : List Int) (q : Int) : List Int := ns.drop (ns.length / 2) ++ List.zipWith (fun t u => t - q * u) (ns.take (ns.length / 2)) (ns.drop (ns.length / 2))
def fourCorners (ns : List Int) : List (Int × Int) := [(ns.getD 0 0, ns.getD 2 0), (ns.getD 0 0 + ns.getD 1 0, ns.getD 2 0 + ns.getD 3 0)]
def eightCorners (ns : List Int) : List (Int × Int) :=
  [(ns.getD 0 0, ns.getD 4 0), (ns.getD 0 0 + ns.getD 1 0, ns.getD 4 0 + ns.getD 5 0), (ns.getD 0 0 + ns.getD 2 0, ns.getD 4 0 + ns.getD 6 0),
    (ns.getD 0 0 + ns.getD 1 0 + ns.getD 2 0 + ns.getD 3 0, ns.getD 4 0 + ns.getD 5 0 + ns.getD 6 0 + ns.getD 7 0)]
def withFirst (ns : List Int) (q : Int) : List Int :=
  [ns.getD 0 0 * q + ns.getD 2 0, ns.getD 1 0 * q + ns.getD 3 0, ns.getD 0 0, ns.getD 1 0, ns.getD 4 0 * q + ns.getD 6 0, ns.getD 5 0 * q + ns.getD 7 0, ns.getD 4 0, ns.getD 5 0]
def withSecond (ns : List Int) (q : Int) : List Int :=
  [ns.getD 0 0 * q + ns.getD 1 0, ns.getD 0 0, ns.getD 2 0 * q + ns.getD 3 0, ns.getD 2 0, ns.getD 4 0 * q + ns.getD 5 0, ns.getD 4 0, ns.getD 6 0 * q + ns.getD 7 0, ns.getD 6 0]
def withOne (ns : List Int) (q : Int) : List Int := [ns.getD 0 0 * q + ns.getD 1 0, ns.getD 0 0, ns.getD 2 0 * q + ns.getD 3 0, ns.getD 2 0]
/-- the corners, none below nought where the first one is not -/
def flipped (cs : List (Int × Int)) : List (Int × Int) := if (cs.getD 0 (0, 0)).2 < 0 then cs.map fun c => (-c.1, -c.2) else cs
def surePart (cs : List (Int × Int)) : Option Int :=
  let ds := flipped cs
  if ds.all (fun d => decide (0 < d.2)) then
    let q := (ds.getD 0 (0, 0)).1.fdiv (ds.getD 0 (0, 0)).2
    if ds.all (fun d => decide (q * d.2 ≤ d.1) && decide (d.1 ≤ (q + 1) * d.2)) then some q else none
  else none
/-- pairs of numbers, one behind another -/
def PairsAt (K : PySem.W.Frag) (H : Hp) : List Addr → List (Int × Int) → Prop
  | [], [] => True
  | t :: ts, c :: cs => SqT K H t [.int c.1, .int c.2] ∧ PairsAt K H ts cs
  | _, _ => False
theorem PairsAt.len {K : PySem.W.Frag} {H : Hp} : ∀ {ts : List Addr} {cs : List (Int × Int)}, PairsAt K H ts cs → ts.length = cs.length
  | [], [], _ => rfl
  | _ :: ts, _ :: cs, h => by rw [List.length_cons, List.length_cons, PairsAt.len h.2]
  | [], _ :: _, h => h.elim
  | _ :: _, [], h => h.elim
theorem PairsAt.same {K : PySem.W.Frag} {H H' : Hp} (s : Same H H') : ∀ {ts : List Addr} {cs : List (Int × Int)}, PairsAt K H ts cs → PairsAt K H' ts cs
  | [], [], _ => trivial
  | _ :: ts, _ :: cs, h => ⟨sqT_same h.1 s, PairsAt.same s h.2⟩
  | [], _ :: _, h => h.elim
  | _ :: _, [], h => h.elim
theorem PairsAt.at_ {K : PySem.W.Frag} {H : Hp} : ∀ {ts : List Addr} {cs : List (Int × Int)}, PairsAt K H ts cs → ∀ {i : Nat} {x : V}, (ts.map V.ref)[i]? = some x → ∃ t c, x = .ref t ∧ cs[i]? = some c ∧ SqT K H t [.int c.1, .int c.2]
  | [], [], _, i, x, e => by simp at e
  | t :: ts, c :: cs, h, 0, x, e => ⟨t, c, (Option.some.inj e).symm, rfl, h.1⟩
  | t :: ts, c :: cs, h, i + 1, x, e => by
    obtain ⟨t2, c2, e1, e2, e3⟩ := PairsAt.at_ h.2 (i := i) (x := x) (by simpa using e)
    exact ⟨t2, c2, e1, by simpa using e2, e3⟩
  | [], _ :: _, h, _, _, _ => h.elim
  | _ :: _, [], h, _, _, _ => h.elim
theorem PairsAt.snoc {K : PySem.W.Frag} {H : Hp} {t : Addr} {c : Int × Int} (hc : SqT K H t [.int c.1, .int c.2]) : ∀ {ts : List Addr} {cs : List (Int × Int)}, PairsAt K H ts cs → PairsAt K H (ts ++ [t]) (cs ++ [c])
  | [], [], _ => ⟨hc, trivial⟩
  | _ :: ts, _ :: cs, h => ⟨h.1, PairsAt.snoc hc h.2⟩
  | [], _ :: _, h => h.elim
  | _ :: _, [], h => h.elim
section
variable {P : Program} {w : World} {K : PySem.W.Frag} {mg : Str → Option Value} {base : Heap} {A : Ad}
open RZ
/-- a comprehension over zip of two tuples of one length -/
theorem lc_zipT {K : PySem.W.Frag} {a b : Addr} {xs ys : List V} {g : TG} {tt : TT} {te : TE} {vs : List Nat} {σ : L2.St} {H1 : Hp} {D : Addr} {Qd : Hp → Prop} (hl : xs.length = ys.length) (Pv : Nat → Hp → Prop) (h0 : Pv 0 (upd H1 D (.lst []))) (hq : ∀ i H, i ≤ xs.length → Pv i H → SqT K H a xs ∧ SqT K H b ys)
    (hs : ∀ (i : Nat) (x y : V) (T : Addr) (H : Hp), xs[i]? = some x → ys[i]? = some y → Pv i H → H T = none → g (.ref T) (wipe σ vs) (upd H T (.tup [x, y])) fun σ2 H2 => wipe σ2 vs = wipe σ vs ∧ tt σ2 H2 fun b H3 =>
      if b = true then te σ2 H3 fun y H4 => ∃ acc, H4 D = some (.lst acc) ∧ acc.length < sizeLine ∧ Pv (i + 1) (upd H4 D (.lst (acc ++ [y]))) else Pv (i + 1) H3) (hd : ∀ H, Pv xs.length H → Qd H) :
    ∃ W : Nat → Nat → Hp → Prop, (∃ m, W 0 m (upd H1 D (.lst []))) ∧ ∀ i m H, W i m H →
      ((ItzT K a b).stop i H ∧ Qd H) ∨ ((ItzT K a b).go i H ∧ ∃ Nx : Hp → Prop, (∀ H', Nx H' → ∃ m', m' < m ∧ W (i + 1) m' H') ∧ ∀ x H', (ItzT K a b).yld i H x H' → g x (wipe σ vs) H' fun σ2 H2 => wipe σ2 vs = wipe σ vs ∧ tt σ2 H2 fun b H3 =>
        if b = true then te σ2 H3 fun y H4 => ∃ acc, H4 D = some (.lst acc) ∧ acc.length < sizeLine ∧ Nx (upd H4 D (.lst (acc ++ [y]))) else Nx H3) := by
  refine ⟨fun i m H => m = xs.length - i ∧ i ≤ xs.length ∧ Pv i H, ⟨xs.length, by simp, Nat.zero_le _, h0⟩, ?_⟩
  rintro i m H ⟨rfl, hi, p⟩
  obtain ⟨qx, qy⟩ := hq i H hi p
  by_cases hlt : i < xs.length
  · have hx : xs[i]? = some xs[i] := List.getElem?_eq_getElem hlt
    have hlt2 : i < ys.length := by omega
    have hy : ys[i]? = some ys[i] := List.getElem?_eq_getElem hlt2
    refine .inr ⟨⟨xs, ys, _, _, qx, qy, hx, hy⟩, Pv (i + 1), fun H' p' => ⟨xs.length - (i + 1), by omega, rfl, hlt, p'⟩, fun x H' y => ?_⟩
    obtain ⟨T, x1, y1, rfl, nT, rfl, e1, e2⟩ := y
    exact hs i x1 y1 T H (e1 xs qx) (e2 ys qy) p nT
  · have e : i = xs.length := by omega
    subst e
    exact .inl ⟨⟨xs, ys, qx, qy, .inl (Nat.le_refl _)⟩, hd H p⟩
theorem cut_takeB (xs : List V) (n : Nat) : cutV xs none (some (n : Int)) = xs.take n := by
  unfold cutV
  rw [HT.sIx_none, HT.sIx_nat, List.drop_zero, Nat.sub_zero]
  rcases Nat.le_total n xs.length with h | h
  · rw [Nat.min_eq_left h]
  · rw [Nat.min_eq_right h, List.take_of_length_le (Nat.le_refl _), List.take_of_length_le h]
theorem cut_dropB (xs : List V) (n : Nat) : cutV xs (some (n : Int)) none = xs.drop n := by
  unfold cutV
  rw [HT.sIx_none, HT.sIx_nat]
  rcases Nat.le_total n xs.length with h | h
  · rw [Nat.min_eq_left h, List.take_of_length_le (Nat.le_of_eq List.length_drop)]
  · rw [Nat.min_eq_right h, List.take_of_length_le (Nat.le_of_eq List.length_drop), List.drop_of_length_le (Nat.le_refl _), List.drop_of_length_le h]
def sp_turned_over (K : PySem.W.Frag) : Sp := fun vs H Q _ => ∃ (p : Addr) (ns : List Int) (q : Int), vs = [.ref p, .int q] ∧ SqT K H p (ns.map V.int) ∧ (∃ h, ns.length = 2 * h ∧ 0 < h ∧ h ≤ 4) ∧ (∀ z ∈ ns, fits z) ∧ fits q ∧
  ∀ r H', SqT K H' r ((turnedOver ns q).map V.int) → Same H H' → Q (.ref r) H'
theorem ok_turned_over (T : CT K mg A) (D : DT K mg A) : COk P w K mg base CX0 1 "turned_over" ["numbers", "part"] (sp_turned_over K) := by
  refine COk.by D.turned_over fun f fd F => ?_
  refine F.ok sc_turned_over (fun vs H Q E h => ?_) (fun cdv Ar outer s H vs Q E hr h => ?_)
  · obtain ⟨p, ns, q, rfl, _⟩ := h
    rfl
  · obtain ⟨p, ns, q, rfl, hp, ⟨h, hl, h0, h4⟩, hf, hq, k⟩ := h
    refine ⟨_, (pss_cons (ps_set (i := 2) sc_turned_over.nd rfl (Or.inl rfl) (pe_op op_fdiv (pe_callB call_len_seq (by rfl) T.b_len (by decide +kernel) (pa_cons (pv 0) pa_nil)) pe_int))
    (pss_cons (ps_par (i := 3) (j := 4) (by rfl) sc_turned_over.nd rfl rfl (by decide) rfl rfl (pa_cons (pe_slice sl_tupA (pv 0) po_none (po_some (pv 2))) (pa_cons (pe_slice sl_tupA (pv 0) (po_some (pv 2)) po_none) pa_nil)) (by rfl))
    (pss_cons (ps_setLc (i := 5) (own := [("top", 6), ("under", 7)]) (g := gTup K 2 (gCons (gName 6) (gCons (gName 7) gNil))) (tt := tYes) rfl sc_turned_over.nd rfl rfl (sw_true rfl rfl rfl (by decide +kernel)) (RZ.pi_zipA (by rfl) T.b_zip (pa_cons (pv 3) (pa_cons (pv 4) pa_nil))) (blkOk_by (own := [("top", 6), ("under", 7)]) (N := ["numbers", "part", "half", "above", "below", "left", "top", "under"]) (sc := defScope s_turned_over) (by decide +kernel)) (fun _ _ _ _ _ => (pg_tup rfl (pgs_cons (pg_name (i := 6) sc_turned_over.nd rfl (Or.inl rfl)) (pgs_cons (pg_name (i := 7) sc_turned_over.nd rfl (Or.inl rfl)) pgs_nil)))) (fun _ _ _ _ _ => pts_nil) (fun _ _ _ _ _ => (pe_op op_sub (pv 6) (pe_op op_mulW (pv 1) (pv 7)))))
    (pss_one (ps_ret (pe_op op_catC (pv 4) (pe_callTy call_tuple_of (by rfl) T.b_tuple (by decide +kernel) (pa_cons (pv 5) pa_nil)))))))), ?_⟩
    have e1 : (((ns.map V.int).length : Nat) : Int) / 2 = ((h : Nat) : Int) := by rw [List.length_map, hl]; omega
    have nf : ¬ (HT.sIx (ns.map V.int).length 0 none = 0 ∧ HT.sIx (ns.map V.int).length (ns.map V.int).length (some (h : Int)) = (ns.map V.int).length) := fun z => by
      have := z.2
      rw [HT.sIx_nat, List.length_map] at this
      omega
    have c1 : cutV (ns.map V.int) none (some (h : Int)) = (ns.take h).map V.int := by
      rw [cut_takeB, List.map_take]
    have c2 : cutV (ns.map V.int) (some (h : Int)) none = (ns.drop h).map V.int := by
      rw [cut_dropB, List.map_drop]
    have lt : (ns.take h).length = h := by rw [List.length_take]; omega
    have ld : (ns.drop h).length = h := by rw [List.length_drop]; omega
    have ee : turnedOver ns q = ns.drop h ++ List.zipWith (fun t u => t - q * u) (ns.take h) (ns.drop h) := by
      unfold turnedOver
      rw [show ns.length / 2 = h by omega]
    refine ⟨_, rfl, p, _, rfl, .inr hp, _, _, rfl, rfl, ⟨by decide, by decide⟩, ?_⟩
    show tSeq _ _ _ [some (V.ref p), some (V.int q), some (V.int ((((ns.map V.int).length : Nat) : Int) / 2)), none, none, none, none, none] H
    rw [e1]
    refine ⟨_, rfl, _, rfl, _, rfl, p, _, rfl, hp, fun z => absurd z nf, fun _ u nu => ?_⟩
    have s1 := same_upd (o := .tup (cutV (ns.map V.int) none (some (h : Int)))) nu
    have hu : SqT K (upd H u (.tup (cutV (ns.map V.int) none (some (h : Int))))) u ((ns.take h).map V.int) := by rw [← c1]; exact SqT.of upd_same
    generalize upd H u (.tup (cutV (ns.map V.int) none (some (h : Int)))) = H1 at s1 hu ⊢
    have hp1 := sqT_same hp s1
    refine ⟨_, rfl, _, rfl, _, rfl, p, _, rfl, hp1, fun z => absurd z (not_whole h0 (by rw [List.length_map]; omega)), fun _ v nv => ?_⟩
    have s2 := same_upd (o := .tup (cutV (ns.map V.int) (some (h : Int)) none)) nv
    have hv : SqT K (upd H1 v (.tup (cutV (ns.map V.int) (some (h : Int)) none))) v ((ns.drop h).map V.int) := by rw [← c2]; exact SqT.of upd_same
    generalize upd H1 v (.tup (cutV (ns.map V.int) (some (h : Int)) none)) = H2 at s2 hv ⊢
    have hu2 := sqT_same hu s2
    refine ⟨_, _, rfl, ?_⟩
    refine ⟨_, rfl, _, rfl, u, v, _, _, rfl, .inr ⟨hu2, hv, fun D0 nD => lc_zipT (by rw [List.length_map, List.length_map, lt, ld]) (fun i H' => Same H2 H' ∧ H' D0 = some (.lst (((List.zipWith (fun t u => t - q * u) (ns.take h) (ns.drop h)).take i).map V.int))) ⟨same_upd nD, upd_same⟩ (fun i H' _ z => ⟨sqT_same hu2 z.1, sqT_same hv z.1⟩) ?_ ?_⟩⟩
    · rintro i x y T' H' hx hy ⟨s3, hD⟩ nT
      rw [List.getElem?_map] at hx hy
      cases ex : (ns.take h)[i]? with
      | none => rw [ex] at hx; cases hx
      | some t =>
        cases ey : (ns.drop h)[i]? with
        | none => rw [ey] at hy; cases hy
        | some b =>
          rw [ex] at hx
          rw [ey] at hy
          cases hx
          cases hy
          have hb : fits b := hf b (List.mem_of_mem_drop (List.mem_of_getElem? ey))
          have s4 := same_upd (o := .tup [V.int t, V.int b]) nT
          refine ⟨T', _, rfl, SqT.of upd_same, rfl, _, _, rfl, _, _, rfl, rfl, rfl, ?_⟩
          refine ⟨_, rfl, _, rfl, _, rfl, _, _, rfl, rfl, fits_mul hq hb, _, _, rfl, rfl, ?_⟩
          have hi : i < h := by
            have := (List.getElem?_eq_some_iff.mp ex).1
            omega
          refine ⟨_, s4 _ _ hD, ?_, ?_, ?_⟩
          · rw [List.length_map, List.length_take]
            exact Nat.lt_of_le_of_lt (Nat.min_le_left _ _) (Nat.lt_of_lt_of_le (show i < 4 by omega) (by decide))
          · intro c o z
            rw [upd_ne (ne_of_none z nD)]
            exact s4 _ _ (s3 _ _ z)
          · rw [upd_same, List.take_add_one, List.getElem?_zipWith, ex, ey]
            simp
    · rintro H3 ⟨s3, hD⟩
      rw [List.length_map, lt, List.take_of_length_le (by rw [List.length_zipWith]; omega)] at hD
      have hv3 := sqT_same hv s3
      refine ⟨_, rfl, _, rfl, D0, _, rfl, .inl ⟨SqL.of hD, fun l nl => ?_⟩⟩
      have s4 := same_upd (o := .tup ((List.zipWith (fun t u => t - q * u) (ns.take h) (ns.drop h)).map V.int)) nl
      refine ⟨v, l, _, _, rfl, rfl, sqT_same hv3 s4, SqT.of upd_same, ?_, fun c H' s5 hc => ?_⟩
      · rw [List.length_map, List.length_map, List.length_zipWith, lt, ld]
        exact Nat.le_trans (show h + min h h ≤ 8 by omega) (by decide)
      · refine k c H' ?_ ((((s1.trans s2).trans s3).trans s4).trans s5)
        rw [ee, List.map_append]
        exact hc
end
/-! ### boxes: corners, parts taken, the sure part -/
section
variable {P : Program} {w : World} {K : PySem.W.Frag} {mg : Str → Option Value} {base : Heap} {A : Ad}
theorem fits_mul1 {x y : Int} (h : fits x) (h' : fits y) : CMulW (x + 1) y := by
  refine wide_mul (a := 13001) (b := 13000) ?_ h' (by decide) (by decide) (by decide)
  have e : (2 : Nat) ^ 13001 = 2 ^ 13000 + 2 ^ 13000 := by rw [Nat.pow_succ]; omega
  unfold fits at h
  have p : 0 < (2 : Nat) ^ 13000 := Nat.pow_pos (by decide)
  rw [e]
  generalize (2 : Nat) ^ 13000 = Z at *
  omega
theorem sqL_same {H H' : Hp} {a : Addr} {xs : List V} (h : SqL K H a xs) (k : Same H H') : SqL K H' a xs := by
  rcases h with (h | ⟨o, h⟩) | h
  · exact .inl (.inl (k _ _ h))
  · exact .inl (.inr ⟨o, k _ _ h⟩)
  · exact .inr h
theorem sqT_lst {H : Hp} {a d : Addr} {xs ys : List V} {o : HO} (h : SqT K H a xs) (hd : H d = some (.lst ys)) : SqT K (upd H d o) a xs :=
  sqT_but (N := fun c => c = d) h (fun c u e n => by rw [upd_ne n]; exact e) fun c u e z => by
    subst e
    rw [hd] at z
    cases z
    exact ⟨fun _ q => (by cases q), fun _ _ q => (by cases q)⟩
theorem PairsAt.lst {H : Hp} {d : Addr} {ys : List V} {o : HO} (hd : H d = some (.lst ys)) : ∀ {ts : List Addr} {cs : List (Int × Int)}, PairsAt K H ts cs → PairsAt K (upd H d o) ts cs
  | [], [], _ => trivial
  | _ :: ts, _ :: cs, h => ⟨sqT_lst h.1 hd, PairsAt.lst hd h.2⟩
  | [], _ :: _, h => h.elim
  | _ :: _, [], h => h.elim
/-- the corners' list -/
def CornersAt (K : PySem.W.Frag) (H : Hp) (l : Addr) (cs : List (Int × Int)) : Prop := ∃ ts : List Addr, SqL K H l (ts.map V.ref) ∧ PairsAt K H ts cs
def sp_four_corners (K : PySem.W.Frag) : Sp := fun vs H Q _ => ∃ (p : Addr) (ns : List Int), vs = [.ref p] ∧ SqT K H p (ns.map V.int) ∧ ns.length = 4 ∧
  ∀ l H', CornersAt K H' l (fourCorners ns) → Same H H' → Q (.ref l) H'
theorem ok_four_corners (T : CT K mg A) (D : DT K mg A) : COk P w K mg base CX0 1 "four_corners" ["numbers"] (sp_four_corners K) := by
  refine COk.by D.four_corners fun f fd F => ?_
  refine F.ok sc_four_corners (fun vs H Q E h => ?_) (fun cdv Ar outer s H vs Q E hr h => ?_)
  · obtain ⟨p, ns, rfl, _⟩ := h
    rfl
  · obtain ⟨p, ns, rfl, hp, hl, k⟩ := h
    refine ⟨_, (pss_cons (ps_asg (pv 0) (pg_tup rfl (pgs_cons (pg_name (i := 1) sc_four_corners.nd rfl (Or.inl rfl)) (pgs_cons (pg_name (i := 2) sc_four_corners.nd rfl (Or.inl rfl)) (pgs_cons (pg_name (i := 3) sc_four_corners.nd rfl (Or.inl rfl)) (pgs_cons (pg_name (i := 4) sc_four_corners.nd rfl (Or.inl rfl)) pgs_nil))))))
    (pss_one (ps_ret (pe_lst (pa_cons (pe_tup (pa_cons (pv 1) (pa_cons (pv 3) pa_nil))) (pa_cons (pe_tup (pa_cons (pe_op op_add (pv 1) (pv 2)) (pa_cons (pe_op op_add (pv 3) (pv 4)) pa_nil))) pa_nil)))))), ?_⟩
    match ns, hl with
    | [a, b, c, d], _ =>
      refine ⟨_, rfl, p, _, rfl, hp, rfl, _, _, rfl, _, _, rfl, _, _, rfl, _, _, rfl, rfl, ?_⟩
      refine ⟨_, rfl, _, rfl, (by show 2 ≤ sizeLine; decide), fun q nq => ?_⟩
      have s1 := same_upd (o := .tup [V.int a, .int c]) nq
      refine ⟨_, rfl, _, rfl, _, _, rfl, rfl, _, rfl, _, rfl, _, _, rfl, rfl, (by show 2 ≤ sizeLine; decide), fun r nr => ?_⟩
      have s2 := same_upd (o := .tup [V.int (a + b), .int (c + d)]) nr
      refine ⟨(by show 2 ≤ sizeLine; decide), fun l nl => ?_⟩
      have s3 := same_upd (o := .lst [V.ref q, .ref r]) nl
      exact k l _ ⟨[q, r], SqL.of upd_same, sqT_same (SqT.of upd_same) (s2.trans s3), sqT_same (SqT.of upd_same) s3, trivial⟩ ((s1.trans s2).trans s3)
def sp_eight_corners (K : PySem.W.Frag) : Sp := fun vs H Q _ => ∃ (p : Addr) (ns : List Int), vs = [.ref p] ∧ SqT K H p (ns.map V.int) ∧ ns.length = 8 ∧
  ∀ l H', CornersAt K H' l (eightCorners ns) → Same H H' → Q (.ref l) H'
theorem ok_eight_corners (T : CT K mg A) (D : DT K mg A) : COk P w K mg base CX0 1 "eight_corners" ["numbers"] (sp_eight_corners K) := by
  refine COk.by D.eight_corners fun f fd F => ?_
  refine F.ok sc_eight_corners (fun vs H Q E h => ?_) (fun cdv Ar outer s H vs Q E hr h => ?_)
  · obtain ⟨p, ns, rfl, _⟩ := h
    rfl
  · obtain ⟨p, ns, rfl, hp, hl, k⟩ := h
    refine ⟨_, (pss_cons (ps_asg (pv 0) (pg_tup rfl (pgs_cons (pg_name (i := 1) sc_eight_corners.nd rfl (Or.inl rfl)) (pgs_cons (pg_name (i := 2) sc_eight_corners.nd rfl (Or.inl rfl)) (pgs_cons (pg_name (i := 3) sc_eight_corners.nd rfl (Or.inl rfl)) (pgs_cons (pg_name (i := 4) sc_eight_corners.nd rfl (Or.inl rfl)) (pgs_cons (pg_name (i := 5) sc_eight_corners.nd rfl (Or.inl rfl)) (pgs_cons (pg_name (i := 6) sc_eight_corners.nd rfl (Or.inl rfl)) (pgs_cons (pg_name (i := 7) sc_eight_corners.nd rfl (Or.inl rfl)) (pgs_cons (pg_name (i := 8) sc_eight_corners.nd rfl (Or.inl rfl)) pgs_nil))))))))))
    (pss_one (ps_ret (pe_lst (pa_cons (pe_tup (pa_cons (pv 1) (pa_cons (pv 5) pa_nil))) (pa_cons (pe_tup (pa_cons (pe_op op_add (pv 1) (pv 2)) (pa_cons (pe_op op_add (pv 5) (pv 6)) pa_nil))) (pa_cons (pe_tup (pa_cons (pe_op op_add (pv 1) (pv 3)) (pa_cons (pe_op op_add (pv 5) (pv 7)) pa_nil))) (pa_cons (pe_tup (pa_cons (pe_op op_add (pe_op op_add (pe_op op_add (pv 1) (pv 2)) (pv 3)) (pv 4)) (pa_cons (pe_op op_add (pe_op op_add (pe_op op_add (pv 5) (pv 6)) (pv 7)) (pv 8)) pa_nil))) pa_nil)))))))), ?_⟩
    match ns, hl with
    | [a, b, c, d, e, f, g, h], _ =>
      refine ⟨_, rfl, p, _, rfl, hp, rfl, _, _, rfl, _, _, rfl, _, _, rfl, _, _, rfl, _, _, rfl, _, _, rfl, _, _, rfl, _, _, rfl, rfl, ?_⟩
      refine ⟨_, rfl, _, rfl, (by show 2 ≤ sizeLine; decide), fun q nq => ?_⟩
      have s1 := same_upd (o := .tup [V.int a, .int e]) nq
      refine ⟨_, rfl, _, rfl, _, _, rfl, rfl, _, rfl, _, rfl, _, _, rfl, rfl, (by show 2 ≤ sizeLine; decide), fun r nr => ?_⟩
      have s2 := same_upd (o := .tup [V.int (a + b), .int (e + f)]) nr
      refine ⟨_, rfl, _, rfl, _, _, rfl, rfl, _, rfl, _, rfl, _, _, rfl, rfl, (by show 2 ≤ sizeLine; decide), fun t nt => ?_⟩
      have s3 := same_upd (o := .tup [V.int (a + c), .int (e + g)]) nt
      refine ⟨_, rfl, _, rfl, _, _, rfl, rfl, _, rfl, _, _, rfl, rfl, _, rfl, _, _, rfl, rfl, _, rfl, _, rfl, _, _, rfl, rfl, _, rfl, _, _, rfl, rfl, _, rfl, _, _, rfl, rfl, (by show 2 ≤ sizeLine; decide), fun u nu => ?_⟩
      have s4 := same_upd (o := .tup [V.int (a + b + c + d), .int (e + f + g + h)]) nu
      refine ⟨(by show 4 ≤ sizeLine; decide), fun l nl => ?_⟩
      have s5 := same_upd (o := .lst [V.ref q, .ref r, .ref t, .ref u]) nl
      exact k l _ ⟨[q, r, t, u], SqL.of upd_same, sqT_same (SqT.of upd_same) (((s2.trans s3).trans s4).trans s5), sqT_same (SqT.of upd_same) ((s3.trans s4).trans s5), sqT_same (SqT.of upd_same) (s4.trans s5), sqT_same (SqT.of upd_same) s5, trivial⟩ ((((s1.trans s2).trans s3).trans s4).trans s5)
def sp_with (K : PySem.W.Frag) (g : List Int → Int → List Int) : Sp := fun vs H Q _ => ∃ (p : Addr) (ns : List Int) (q : Int), vs = [.ref p, .int q] ∧ SqT K H p (ns.map V.int) ∧ ns.length = 8 ∧ (∀ z ∈ ns, fits z) ∧ fits q ∧
  ∀ r H', SqT K H' r ((g ns q).map V.int) → Same H H' → Q (.ref r) H'
theorem ok_with_first_part (T : CT K mg A) (D : DT K mg A) : COk P w K mg base CX0 1 "with_first_part" ["numbers", "part"] (sp_with K withFirst) := by
  refine COk.by D.with_first_part fun f fd F => ?_
  refine F.ok sc_with_first_part (fun vs H Q E h => ?_) (fun cdv Ar outer s H vs Q E hr h => ?_)
  · obtain ⟨p, ns, q, rfl, _⟩ := h
    rfl
  · obtain ⟨p, ns, q, rfl, hp, hl, hf, hq, k⟩ := h
    refine ⟨_, (pss_cons (ps_asg (pv 0) (pg_tup rfl (pgs_cons (pg_name (i := 2) sc_with_first_part.nd rfl (Or.inl rfl)) (pgs_cons (pg_name (i := 3) sc_with_first_part.nd rfl (Or.inl rfl)) (pgs_cons (pg_name (i := 4) sc_with_first_part.nd rfl (Or.inl rfl)) (pgs_cons (pg_name (i := 5) sc_with_first_part.nd rfl (Or.inl rfl)) (pgs_cons (pg_name (i := 6) sc_with_first_part.nd rfl (Or.inl rfl)) (pgs_cons (pg_name (i := 7) sc_with_first_part.nd rfl (Or.inl rfl)) (pgs_cons (pg_name (i := 8) sc_with_first_part.nd rfl (Or.inl rfl)) (pgs_cons (pg_name (i := 9) sc_with_first_part.nd rfl (Or.inl rfl)) pgs_nil))))))))))
    (pss_one (ps_ret (pe_tup (pa_cons (pe_op op_add (pe_op op_mulW (pv 2) (pv 1)) (pv 4)) (pa_cons (pe_op op_add (pe_op op_mulW (pv 3) (pv 1)) (pv 5)) (pa_cons (pv 2) (pa_cons (pv 3) (pa_cons (pe_op op_add (pe_op op_mulW (pv 6) (pv 1)) (pv 8)) (pa_cons (pe_op op_add (pe_op op_mulW (pv 7) (pv 1)) (pv 9)) (pa_cons (pv 6) (pa_cons (pv 7) pa_nil)))))))))))), ?_⟩
    match ns, hl with
    | [a, b, c, d, e, f, g, h], _ =>
      have ma : CMulW a q := fits_mul (hf a (by simp)) hq
      have mb : CMulW b q := fits_mul (hf b (by simp)) hq
      have me : CMulW e q := fits_mul (hf e (by simp)) hq
      have mf : CMulW f q := fits_mul (hf f (by simp)) hq
      refine ⟨_, rfl, p, _, rfl, hp, rfl, _, _, rfl, _, _, rfl, _, _, rfl, _, _, rfl, _, _, rfl, _, _, rfl, _, _, rfl, _, _, rfl, rfl, ?_⟩
      refine ⟨_, rfl, _, rfl, _, _, rfl, rfl, ma, _, rfl, _, _, rfl, rfl, _, rfl, _, rfl, _, _, rfl, rfl, mb, _, rfl, _, _, rfl, rfl, _, rfl, _, rfl, _, rfl, _, rfl, _, _, rfl, rfl, me, _, rfl, _, _, rfl, rfl, _, rfl, _, rfl, _, _, rfl, rfl, mf, _, rfl, _, _, rfl, rfl, _, rfl, _, rfl, (by show 8 ≤ sizeLine; decide), fun r nr => ?_⟩
      exact k r _ (SqT.of upd_same) (same_upd nr)
theorem ok_with_second_part (T : CT K mg A) (D : DT K mg A) : COk P w K mg base CX0 1 "with_second_part" ["numbers", "part"] (sp_with K withSecond) := by
  refine COk.by D.with_second_part fun f fd F => ?_
  refine F.ok sc_with_second_part (fun vs H Q E h => ?_) (fun cdv Ar outer s H vs Q E hr h => ?_)
  · obtain ⟨p, ns, q, rfl, _⟩ := h
    rfl
  · obtain ⟨p, ns, q, rfl, hp, hl, hf, hq, k⟩ := h
    refine ⟨_, (pss_cons (ps_asg (pv 0) (pg_tup rfl (pgs_cons (pg_name (i := 2) sc_with_second_part.nd rfl (Or.inl rfl)) (pgs_cons (pg_name (i := 3) sc_with_second_part.nd rfl (Or.inl rfl)) (pgs_cons (pg_name (i := 4) sc_with_second_part.nd rfl (Or.inl rfl)) (pgs_cons (pg_name (i := 5) sc_with_second_part.nd rfl (Or.inl rfl)) (pgs_cons (pg_name (i := 6) sc_with_second_part.nd rfl (Or.inl rfl)) (pgs_cons (pg_name (i := 7) sc_with_second_part.nd rfl (Or.inl rfl)) (pgs_cons (pg_name (i := 8) sc_with_second_part.nd rfl (Or.inl rfl)) (pgs_cons (pg_name (i := 9) sc_with_second_part.nd rfl (Or.inl rfl)) pgs_nil))))))))))
    (pss_one (ps_ret (pe_tup (pa_cons (pe_op op_add (pe_op op_mulW (pv 2) (pv 1)) (pv 3)) (pa_cons (pv 2) (pa_cons (pe_op op_add (pe_op op_mulW (pv 4) (pv 1)) (pv 5)) (pa_cons (pv 4) (pa_cons (pe_op op_add (pe_op op_mulW (pv 6) (pv 1)) (pv 7)) (pa_cons (pv 6) (pa_cons (pe_op op_add (pe_op op_mulW (pv 8) (pv 1)) (pv 9)) (pa_cons (pv 8) pa_nil)))))))))))), ?_⟩
    match ns, hl with
    | [a, b, c, d, e, f, g, h], _ =>
      have ma : CMulW a q := fits_mul (hf a (by simp)) hq
      have mc : CMulW c q := fits_mul (hf c (by simp)) hq
      have me : CMulW e q := fits_mul (hf e (by simp)) hq
      have mg' : CMulW g q := fits_mul (hf g (by simp)) hq
      refine ⟨_, rfl, p, _, rfl, hp, rfl, _, _, rfl, _, _, rfl, _, _, rfl, _, _, rfl, _, _, rfl, _, _, rfl, _, _, rfl, _, _, rfl, rfl, ?_⟩
      refine ⟨_, rfl, _, rfl, _, _, rfl, rfl, ma, _, rfl, _, _, rfl, rfl, _, rfl, _, rfl, _, rfl, _, _, rfl, rfl, mc, _, rfl, _, _, rfl, rfl, _, rfl, _, rfl, _, rfl, _, _, rfl, rfl, me, _, rfl, _, _, rfl, rfl, _, rfl, _, rfl, _, rfl, _, _, rfl, rfl, mg', _, rfl, _, _, rfl, rfl, _, rfl, (by show 8 ≤ sizeLine; decide), fun r nr => ?_⟩
      exact k r _ (SqT.of upd_same) (same_upd nr)
def sp_sure_part (K : PySem.W.Frag) : Sp := fun vs H Q _ => ∃ (l : Addr) (cs : List (Int × Int)), vs = [.ref l] ∧ CornersAt K H l cs ∧ 0 < cs.length ∧ cs.length ≤ 4 ∧ (∀ c ∈ cs, fits c.1 ∧ fits c.2) ∧
  ∀ H', Same H H' → Q (match surePart cs with | some q => .int q | none => .non) H'
theorem ok_sure_part (T : CT K mg A) (D : DT K mg A) : COk P w K mg base CX0 1 "sure_part" ["corners"] (sp_sure_part K) := by
  refine COk.by D.sure_part fun f fd F => ?_
  refine F.ok sc_sure_part (fun vs H Q E h => ?_) (fun cdv Ar outer s H vs Q E hr h => ?_)
  · obtain ⟨l, cs, rfl, _⟩ := h
    rfl
  · obtain ⟨l, cs, rfl, ⟨ts, hl, hts⟩, h0, h4, hf, k⟩ := h
    refine ⟨_, (C8.pss_cut (ps_if (pt_cmpR op_lt (pe_ix ix_tup (pe_ix ix_list (pv 0) pe_int (fun _ _ => rfl)) pe_int (fun _ _ => rfl)) pe_int (nomark _))
      (pss_one (ps_setLc (i := 0) (own := [("top", 1), ("below", 2)]) (g := gTup K 2 (gCons (gName 1) (gCons (gName 2) gNil))) (tt := tYes) rfl sc_sure_part.nd rfl rfl (sw_true rfl rfl rfl (by decide +kernel)) (pi_list (pv 0)) (blkOk_by (own := [("top", 1), ("below", 2)]) (N := ["corners", "top", "below", "part"]) (sc := defScope s_sure_part) (by decide +kernel)) (fun _ _ _ _ _ => (pg_tup rfl (pgs_cons (pg_name (i := 1) sc_sure_part.nd rfl (Or.inl rfl)) (pgs_cons (pg_name (i := 2) sc_sure_part.nd rfl (Or.inl rfl)) pgs_nil)))) (fun _ _ _ _ _ => pts_nil) (fun _ _ _ _ _ => (pe_tup (pa_cons (pe_un un_neg (pv 1)) (pa_cons (pe_un un_neg (pv 2)) pa_nil)))))) pss_nil)
    (pss_cons (ps_if (pt_cmpR op_le (pe_callB (cr_min rfl) (by rfl) T.b_min (by decide +kernel) (pa_cons (pe_lc (own := [("top", 1), ("below", 2)]) (g := gTup K 2 (gCons (gName 1) (gCons (gName 2) gNil))) (tt := tYes) rfl sc_sure_part.nd (pi_list (pv 0)) (blkOk_by (own := [("top", 1), ("below", 2)]) (N := ["corners", "top", "below", "part"]) (sc := defScope s_sure_part) (by decide +kernel)) (fun _ _ _ _ _ => (pg_tup rfl (pgs_cons (pg_name (i := 1) sc_sure_part.nd rfl (Or.inl rfl)) (pgs_cons (pg_name (i := 2) sc_sure_part.nd rfl (Or.inl rfl)) pgs_nil)))) (fun _ _ _ _ _ => pts_nil) (fun _ _ _ _ _ => (pv 2))) pa_nil)) pe_int (nomark _))
      (pss_one (ps_ret pe_non)) pss_nil)
    (pss_cons (ps_set (i := 3) sc_sure_part.nd rfl (Or.inl rfl) (pe_op op_fdivM (pe_ix ix_tup (pe_ix ix_list (pv 0) pe_int (fun _ _ => rfl)) pe_int (fun _ _ => rfl)) (pe_ix ix_tup (pe_ix ix_list (pv 0) pe_int (fun _ _ => rfl)) pe_int (fun _ _ => rfl))))
    (pss_cons (ps_for PassesOwn.never rfl (pi_list (pv 0)) (pg_tup rfl (pgs_cons (pg_name (i := 1) sc_sure_part.nd rfl (Or.inl rfl)) (pgs_cons (pg_name (i := 2) sc_sure_part.nd rfl (Or.inl rfl)) pgs_nil)))
      (pss_one (ps_if (pt_not (pt_chain op_le op_le (pe_op op_mulW (pv 3) (pv 2)) (pv 1) (pe_op op_mulW (pe_op op_add (pv 3) pe_int) (pv 2))))
      (pss_one (ps_ret pe_non)) pss_nil)))
    (pss_one (ps_ret (pv 3))))))), ?_⟩
    match cs, ts, hts, h0 with
    | c0 :: cr, t0 :: tr, hts, _ =>
    have ht0 := hts.1
    refine ⟨fun σ H' => ∃ l', σ = [some (V.ref l'), none, none, none] ∧ CornersAt K H' l' (flipped (c0 :: cr)) ∧ Same H H', ?_, ?_⟩
    · refine ⟨_, rfl, l, _, 0, _, rfl, rfl, hl, atI_nat (j := 0) rfl, t0, _, 1, _, rfl, rfl, ht0, atI_nat (j := 1) rfl, _, _, rfl, rfl, _, rfl, ite2 (fun c => ?_) (fun c => ?_)⟩
      · have cn : c0.2 < 0 := of_decide_eq_true c
        refine ⟨_, rfl, l, rfl, ⟨_, hl⟩, fun D0 nD => lc_list (K := K) (a := l) (xs := (t0 :: tr).map V.ref) (fun i H' => Same H H' ∧ ∃ us : List Addr, H' D0 = some (.lst (us.map V.ref)) ∧ us.length ≤ i ∧ PairsAt K H' us (((c0 :: cr).take i).map fun d => (-d.1, -d.2)))
          ⟨same_upd nD, [], upd_same, Nat.zero_le _, trivial⟩ (fun i H' _ z => sqL_same hl z.1) ?_ ?_⟩
        · rintro i x H' hx ⟨s1, us, hD, hu, hus⟩
          obtain ⟨t, d, rfl, ed, htd⟩ := hts.at_ hx
          refine ⟨t, _, rfl, sqT_same htd s1, rfl, _, _, rfl, _, _, rfl, rfl, rfl, ?_⟩
          refine ⟨_, rfl, _, rfl, _, rfl, _, rfl, (by show 2 ≤ sizeLine; decide), fun q nq => ?_⟩
          have s2 := same_upd (o := .tup [V.int (-d.1), .int (-d.2)]) nq
          have hi : i < 4 := by
            have := (List.getElem?_eq_some_iff.mp ed).1
            omega
          refine ⟨_, s2 _ _ hD, ?_, ?_, us ++ [q], ?_, ?_, ?_⟩
          · rw [List.length_map]
            exact Nat.lt_of_le_of_lt hu (Nat.lt_of_lt_of_le hi (by decide))
          · intro b o z
            rw [upd_ne (ne_of_none z nD)]
            exact s2 _ _ (s1 _ _ z)
          · rw [upd_same, List.map_append]
            rfl
          · rw [List.length_append]
            exact Nat.succ_le_succ hu
          · rw [List.take_add_one, ed, List.map_append]
            exact PairsAt.snoc (c := (-d.1, -d.2)) (sqT_lst (SqT.of upd_same) (s2 _ _ hD)) (PairsAt.lst (s2 _ _ hD) (hus.same s2))
        · rintro H' ⟨s1, us, hD, hu, hus⟩
          refine ⟨D0, rfl, ⟨us, SqL.of hD, ?_⟩, s1⟩
          rw [List.length_map, hts.len, List.take_of_length_le (Nat.le_refl _)] at hus
          unfold flipped
          rw [List.getD_cons_zero, if_pos cn]
          exact hus
      · refine ⟨l, rfl, ⟨_, hl, ?_⟩, Same.refl H⟩
        unfold flipped
        rw [List.getD_cons_zero, if_neg (fun z => c (decide_eq_true z))]
        exact hts
    · rintro σ H1 ⟨l1, rfl, ⟨us, hl1, hus⟩, s1⟩
      have hfd : ∀ d ∈ flipped (c0 :: cr), fits d.1 ∧ fits d.2 := by
        unfold flipped
        split
        · intro d hd
          obtain ⟨c, hc, rfl⟩ := List.mem_map.mp hd
          exact ⟨fits_neg (hf c hc).1, fits_neg (hf c hc).2⟩
        · exact hf
      have hlen : (flipped (c0 :: cr)).length = (c0 :: cr).length := by
        unfold flipped
        split
        · rw [List.length_map]
        · rfl
      have eS : surePart (c0 :: cr) = (if (flipped (c0 :: cr)).all (fun d => decide (0 < d.2)) then
        (if (flipped (c0 :: cr)).all (fun d => decide (((flipped (c0 :: cr)).getD 0 (0, 0)).1.fdiv ((flipped (c0 :: cr)).getD 0 (0, 0)).2 * d.2 ≤ d.1) && decide (d.1 ≤ (((flipped (c0 :: cr)).getD 0 (0, 0)).1.fdiv ((flipped (c0 :: cr)).getD 0 (0, 0)).2 + 1) * d.2)) then some (((flipped (c0 :: cr)).getD 0 (0, 0)).1.fdiv ((flipped (c0 :: cr)).getD 0 (0, 0)).2) else none) else none) := rfl
      rw [eS] at k
      clear eS
      have hle : (flipped (c0 :: cr)).length ≤ 4 := by rw [hlen]; exact h4
      have hge : 0 < (flipped (c0 :: cr)).length := by rw [hlen]; exact Nat.succ_pos _
      generalize flipped (c0 :: cr) = ds at *
      match ds, us, hus, hge with
      | d0 :: dr, u0 :: ur, hus, _ =>
      have hu0 := hus.1
      refine ⟨_, rfl, l1, rfl, ⟨_, hl1⟩, fun D1 nD1 => lc_list (K := K) (a := l1) (xs := (u0 :: ur).map V.ref) (fun i H' => Same H1 H' ∧ H' D1 = some (.lst ((((d0 :: dr).take i).map fun d => d.2).map V.int)))
          ⟨same_upd nD1, upd_same⟩ (fun i H' _ z => sqL_same hl1 z.1) ?_ ?_⟩
      · rintro i x H' hx ⟨s2, hD⟩
        obtain ⟨t, d, rfl, ed, htd⟩ := hus.at_ hx
        refine ⟨t, _, rfl, sqT_same htd s2, rfl, _, _, rfl, _, _, rfl, rfl, rfl, ?_⟩
        have hi : i < 4 := by
          have := (List.getElem?_eq_some_iff.mp ed).1
          omega
        refine ⟨_, rfl, _, hD, ?_, ?_, ?_⟩
        · rw [List.length_map, List.length_map, List.length_take]
          exact Nat.lt_of_le_of_lt (Nat.min_le_left _ _) (Nat.lt_of_lt_of_le hi (by decide))
        · intro b o z
          rw [upd_ne (ne_of_none z nD1)]
          exact s2 _ _ z
        · rw [upd_same, List.take_add_one, ed]
          simp
      · rintro H2 ⟨s2, hD⟩
        rw [List.length_map, hus.len, List.take_of_length_le (Nat.le_refl _)] at hD
        refine ⟨D1, _, rfl, SqL.of hD, (by rw [List.length_map]; exact Nat.succ_pos _), fun m hm hmin => ⟨_, _, rfl, rfl, _, rfl, ite2 (fun c => ?_) (fun c => ?_)⟩⟩
        · have mn : m ≤ 0 := of_decide_eq_true c
          have := k H2 (s1.trans s2)
          rw [if_neg ?_] at this
          · exact this
          · intro z
            obtain ⟨d, hd, rfl⟩ := List.mem_map.mp hm
            have := of_decide_eq_true (List.all_eq_true.mp z d hd)
            omega
        · have mp : 0 < m := by
            have : ¬ m ≤ 0 := fun z => c (decide_eq_true z)
            omega
          have pos : ∀ d ∈ d0 :: dr, 0 < d.2 := fun d hd => by
            have := hmin d.2 (List.mem_map.mpr ⟨d, hd, rfl⟩)
            omega
          have k1 := k
          rw [if_pos (List.all_eq_true.mpr fun d hd => decide_eq_true (pos d hd)), List.getD_cons_zero] at k1
          have p0 := pos d0 List.mem_cons_self
          have f0 := hfd d0 List.mem_cons_self
          have hu02 := sqT_same hu0 s2
          have hl12 := sqL_same hl1 s2
          have fq : fits (d0.1.fdiv d0.2) := Nat.lt_of_le_of_lt (fdiv_abs (by omega)) f0.1
          refine ⟨_, rfl, l1, _, 0, _, rfl, rfl, hl12, atI_nat (j := 0) rfl, u0, _, 0, _, rfl, rfl, hu02, atI_nat (j := 0) rfl, _, rfl, l1, _, 0, _, rfl, rfl, hl12, atI_nat (j := 0) rfl, u0, _, 1, _, rfl, rfl, hu02, atI_nat (j := 1) rfl, _, _, rfl, rfl, ⟨by omega, f0.1⟩, ?_⟩
          obtain ⟨q, hq⟩ : ∃ q, d0.1.fdiv d0.2 = q := ⟨_, rfl⟩
          rw [hq] at fq
          simp only [hq] at k1
          refine ⟨_, rfl, l1, rfl, ⟨_, hl12⟩, for_list (K := K) (a := l1) (xs := (u0 :: ur).map V.ref) (fun i σ H' => ∃ v1 v2, σ = [some (V.ref l1), v1, v2, some (V.int q)] ∧ H' = H2 ∧ ((d0 :: dr).take i).all (fun d => decide (q * d.2 ≤ d.1) && decide (d.1 ≤ (q + 1) * d.2)) = true)
            ⟨none, none, (by rw [← hq]; rfl), rfl, rfl⟩ (fun i σ H' _ ⟨_, _, _, e, _⟩ => by rw [e]; exact hl12) ?_ ?_⟩
          · rintro i x σ H' hx ⟨v1, v2, rfl, rfl, hall⟩
            obtain ⟨t, d, rfl, ed, htd⟩ := hus.at_ hx
            have hd : d ∈ d0 :: dr := List.mem_of_getElem? ed
            have fd' := hfd d hd
            have done : ¬ (decide (q * d.2 ≤ d.1) && decide (d.1 ≤ (q + 1) * d.2)) = true → Q .non H' := fun z => by
              have := k1 H' (s1.trans s2)
              rw [if_neg (fun y => z (List.all_eq_true.mp y d hd))] at this
              exact this
            refine ⟨t, _, rfl, sqT_same htd s2, rfl, _, _, rfl, _, _, rfl, rfl, ?_⟩
            refine ⟨_, rfl, _, rfl, _, _, rfl, rfl, fits_mul fq fd'.2, _, rfl, _, _, rfl, rfl, _, rfl, ite2 (fun c1 => ?_) (fun c1 => ?_)⟩
            · refine ⟨_, rfl, _, _, rfl, rfl, _, rfl, _, _, rfl, rfl, fits_mul1 fq fd'.2, _, _, rfl, rfl, _, rfl, ite2 (fun c2 => ?_) (fun c2 => ?_)⟩
              · refine done fun z => ?_
                rw [Bool.and_eq_true] at z
                rw [z.2] at c2
                cases c2
              · refine ⟨_, _, rfl, rfl, ?_⟩
                rw [List.take_add_one, ed, List.all_append, hall]
                have : decide (d.1 ≤ (q + 1) * d.2) = true := by
                  cases e : decide (d.1 ≤ (q + 1) * d.2) with
                  | true => rfl
                  | false => exact absurd (by rw [e]; rfl) c2
                simp only [Option.toList_some, List.all_cons, List.all_nil, Bool.and_true, c1, this]
            · refine ⟨_, rfl, iteT ?_⟩
              refine done fun z => ?_
              rw [Bool.and_eq_true] at z
              exact c1 z.1
          · rintro σ H' ⟨v1, v2, rfl, rfl, hall⟩
            rw [List.length_map, hus.len, List.take_of_length_le (Nat.le_refl _)] at hall
            refine ⟨_, rfl, ?_⟩
            have := k1 H' (s1.trans s2)
            rw [if_pos hall] at this
            exact this
end
/-! ### boxes: fractions, fours, eights -/
def fbF (t b : Int) (told : Bool) : Flds := [("top", .int t), ("below", .int b), ("told", .bl told)]
def foF (p x : Addr) (st told : Bool) (r : V) : Flds := [("numbers", .ref p), ("tree", .ref x), ("started", .bl st), ("told", .bl told), ("rest", r)]
def eiF (p q l : Addr) (told : Bool) (r : V) : Flds := [("numbers", .ref p), ("trees", .ref q), ("taken", .ref l), ("told", .bl told), ("rest", r)]
section
variable {P : Program} {w : World} {K : PySem.W.Frag} {mg : Str → Option Value} {base : Heap} {A : Ad}
theorem ok_FractionBox_init (T : CT K mg A) (D : DT K mg A) : IOk P w K mg base 1 "FractionBox" A.c_FractionBox ["self", "top", "below", "told"] (sp_ini A.c_FractionBox 3 fun us => [("top", us.getD 0 .non), ("below", us.getD 1 .non), ("told", us.getD 2 .non)]) := by
  refine IOk.of T.g_FractionBox D.FractionBox_init fun f fd F => ?_
  refine F.ok sc_FractionBox_init (fun vs H Q E h => ?_) (fun cdv Ar outer s H vs Q E hr h => ?_)
  · obtain ⟨p, dx, us, rfl, hl, _⟩ := h
    show us.length + 1 = 4
    omega
  · obtain ⟨p, dx, us, rfl, hl, hp, k⟩ := h
    match us, hl with
    | [u0, u1, u2], _ =>
      refine ⟨_, (pss_cons (ps_fld (pv 0) (pv 1) rfl)
    (pss_cons (ps_fld (pv 0) (pv 2) rfl)
    (pss_one (ps_fld (pv 0) (pv 3) rfl)))), ?_⟩
      refine ⟨_, rfl, _, rfl, p, _, dx, [], rfl, hp, T.cl_FractionBox, T.n_FractionBox_top, (by show 0 < 1000; decide), ?_⟩
      refine ⟨_, rfl, _, rfl, p, _, dx, _, rfl, upd_same, T.cl_FractionBox, T.n_FractionBox_below, (by show 1 < 1000; decide), ?_⟩
      refine ⟨_, rfl, _, rfl, p, _, dx, _, rfl, upd_same, T.cl_FractionBox, T.n_FractionBox_told, (by show 2 < 1000; decide), ?_⟩
      refine cast (congrArg (Q V.non) ?_) k
      rw [upd_upd, upd_upd]
      rfl
def sp_nothing_left (A : Ad) : Sp := fun vs H Q E => ∃ (a dx : Addr) (t b : Int) (told : Bool), vs = [.ref a] ∧ H a = some (.ins A.c_FractionBox dx (fbF t b told)) ∧
  (told = true → Q (.ref A.k_END) H) ∧ (told = false → E (.ref A.c_NoValue) none H)
theorem ok_nothing_left (T : CT K mg A) (D : DT K mg A) : MOk P w K mg base (L2.CX P w) 1 A.c_FractionBox "nothing_left" ["self"] (sp_nothing_left A) := by
  refine MOk.of T.cl_FractionBox D.FractionBox_nothing_left fun f fd F => ?_
  refine F.okX sc_FractionBox_nothing_left (fun vs H Q E h => ?_) (fun cdv Ar outer s H vs Q E hr h => ?_)
  · obtain ⟨a, dx, t, b, told, rfl, _⟩ := h
    rfl
  · obtain ⟨a, dx, t, b, told, rfl, ha, k1, k2⟩ := h
    refine ⟨_, (pss_cons (ps_if (pt_val (pe_fld (pv 0) rfl))
      (pss_one (ps_ret (pe_glob (v := .ref A.k_END) (by rfl) T.g_END rfl))) pss_nil)
    (pss_one (ps_raise rfl (takes_of rfl rfl rfl rfl) (pmk_own PySem.F.excBase_ValueError T.x_NoValue.x T.x_NoValue.g T.x_NoValue.k (raises_own T.x_NoValue.b T.x_NoValue.t) rfl)))), ?_⟩
    refine ⟨_, rfl, a, _, dx, _, _, rfl, ha, T.cl_FractionBox, T.n_FractionBox_told, rfl, ?_⟩
    cases told with
    | true => exact ⟨true, rfl, k1 rfl⟩
    | false => exact ⟨false, rfl, k2 rfl⟩
/-- a fraction box, asked: its parts cost nothing -/
def sp_fb (A : Ad) (K : PySem.W.Frag) : Sp := fun vs H Q E => ∃ (a dx : Addr) (m : V) (t b : Int) (told : Bool), vs = [.ref a, m] ∧ H a = some (.ins A.c_FractionBox dx (fbF t b told)) ∧ fits t ∧ fits b ∧
  (b = 0 → told = true → Q (.ref A.k_END) H) ∧ (b = 0 → told = false → E (.ref A.c_NoValue) none H) ∧
  (b ≠ 0 → ∀ r H', H' r = some (.tup [.str "part", .int (t.fdiv b)]) → H' a = some (.ins A.c_FractionBox dx (fbF b (t - t.fdiv b * b) true)) → (∀ c o, H c = some o → c ≠ a → H' c = some o) → Q (.ref r) H')
theorem ok_FractionBox_ask (T : CT K mg A) (D : DT K mg A) : MOk P w K mg base (L2.CX P w) 2 A.c_FractionBox "ask" ["self", "meter"] (sp_fb A K) := by
  have M_nothing := ok_nothing_left (P := P) (w := w) (base := base) T D
  have G_turned_over := ok_turned_over (P := P) (w := w) (base := base) T D
  refine MOk.of T.cl_FractionBox D.FractionBox_ask fun f fd F => ?_
  refine F.okX sc_FractionBox_ask (fun vs H Q E h => ?_) (fun cdv Ar outer s H vs Q E hr h => ?_)
  · obtain ⟨a, dx, m, t, b, told, rfl, _⟩ := h
    rfl
  · obtain ⟨a, dx, m, t, b, told, rfl, ha, ft, fb, k1, k2, k3⟩ := h
    refine ⟨_, (pss_cons (ps_if (pt_cmpR op_eq (pe_fld (pv 0) rfl) pe_int (nomark _))
      (pss_one (ps_ret (pe_mX0 M_nothing (hr.mono (by first | decide | omega)) (passes_tk (takes_of rfl rfl rfl rfl)) (pv 0)))) pss_nil)
    (pss_cons (ps_set (i := 2) sc_FractionBox_ask.nd rfl (Or.inl rfl) (pe_op op_fdivM (pe_fld (pv 0) rfl) (pe_fld (pv 0) rfl)))
    (pss_cons (ps_asg (pe_c G_turned_over (hr.mono (by first | decide | omega)) (pa_cons (pe_tup (pa_cons (pe_fld (pv 0) rfl) (pa_cons (pe_fld (pv 0) rfl) pa_nil))) (pa_cons (pv 2) pa_nil))) (pg_tup rfl (pgs_cons (pg_fld (pv 0)) (pgs_cons (pg_fld (pv 0)) pgs_nil))))
    (pss_cons (ps_fld (pv 0) pe_bl rfl)
    (pss_one (ps_ret (pe_tup (pa_cons pe_str (pa_cons (pv 2) pa_nil))))))))), ?_⟩
    have cl := T.cl_FractionBox
    refine ⟨_, rfl, a, _, dx, _, _, rfl, ha, cl, T.n_FractionBox_below, rfl, rfl, _, rfl, ite2 (fun c => ?_) (fun c => ?_)⟩
    · have hb : b = 0 := V.int.inj (of_decide_eq_true c)
      exact ⟨_, rfl, a, dx, _, rfl, ha, rfl, a, dx, t, b, told, rfl, ha, k1 hb, k2 hb⟩
    · have hb : b ≠ 0 := fun z => c (decide_eq_true (by rw [z]))
      refine ⟨_, rfl, a, _, dx, _, _, rfl, ha, cl, T.n_FractionBox_top, rfl, _, rfl, a, _, dx, _, _, rfl, ha, cl, T.n_FractionBox_below, rfl, _, _, rfl, rfl, ⟨hb, ft⟩, ?_⟩
      have fq : fits (t.fdiv b) := Nat.lt_of_le_of_lt (fdiv_abs hb) ft
      refine ⟨_, rfl, a, _, dx, _, _, rfl, ha, cl, T.n_FractionBox_top, rfl, _, rfl, a, _, dx, _, _, rfl, ha, cl, T.n_FractionBox_below, rfl, (by show 2 ≤ sizeLine; decide), fun q nq => ?_⟩
      have s1 := same_upd (o := .tup [V.int t, .int b]) nq
      refine ⟨_, rfl, q, [t, b], t.fdiv b, rfl, SqT.of upd_same, ⟨1, rfl, by decide, by decide⟩, (by intro z hz; simp at hz; rcases hz with rfl | rfl <;> assumption), fq, fun r H1 hr1 s2 => ?_⟩
      have ss := s1.trans s2
      have et : turnedOver [t, b] (t.fdiv b) = [b, t - t.fdiv b * b] := by simp [turnedOver]
      rw [et] at hr1
      refine ⟨r, _, rfl, hr1, rfl, _, _, rfl, _, rfl, a, _, dx, _, rfl, ss _ _ ha, cl, T.n_FractionBox_top, (by show 3 < 1000; decide), ?_⟩
      refine ⟨_, _, rfl, _, rfl, a, _, dx, _, rfl, upd_same, cl, T.n_FractionBox_below, (by show 3 < 1000; decide), rfl, ?_⟩
      refine ⟨_, rfl, a, _, dx, _, rfl, upd_same, cl, T.n_FractionBox_told, (by show 3 < 1000; decide), ?_⟩
      refine ⟨_, rfl, (by show 2 ≤ sizeLine; decide), fun u nu => ?_⟩
      have s3 := same_upd (o := .tup [V.str "part", .int (t.fdiv b)]) nu
      rw [upd_upd, upd_upd] at *
      exact k3 hb u _ upd_same (s3 _ _ upd_same) fun c o e hc => s3 _ _ (by rw [upd_ne hc]; exact ss _ _ e)
theorem ok_FourBox_init (T : CT K mg A) (D : DT K mg A) : IOk P w K mg base 1 "FourBox" A.c_FourBox ["self", "numbers", "tree", "started", "told"] (sp_ini A.c_FourBox 4 fun us => [("numbers", us.getD 0 .non), ("tree", us.getD 1 .non), ("started", us.getD 2 .non), ("told", us.getD 3 .non), ("rest", .non)]) := by
  refine IOk.of T.g_FourBox D.FourBox_init fun f fd F => ?_
  refine F.ok sc_FourBox_init (fun vs H Q E h => ?_) (fun cdv Ar outer s H vs Q E hr h => ?_)
  · obtain ⟨p, dx, us, rfl, hl, _⟩ := h
    show us.length + 1 = 5
    omega
  · obtain ⟨p, dx, us, rfl, hl, hp, k⟩ := h
    match us, hl with
    | [u0, u1, u2, u3], _ =>
      refine ⟨_, (pss_cons (ps_fld (pv 0) (pv 1) rfl)
    (pss_cons (ps_fld (pv 0) (pv 2) rfl)
    (pss_cons (ps_fld (pv 0) (pv 3) rfl)
    (pss_cons (ps_fld (pv 0) (pv 4) rfl)
    (pss_one (ps_fld (pv 0) pe_non rfl)))))), ?_⟩
      refine ⟨_, rfl, _, rfl, p, _, dx, [], rfl, hp, T.cl_FourBox, T.n_FourBox_numbers, (by show 0 < 1000; decide), ?_⟩
      refine ⟨_, rfl, _, rfl, p, _, dx, _, rfl, upd_same, T.cl_FourBox, T.n_FourBox_tree, (by show 1 < 1000; decide), ?_⟩
      refine ⟨_, rfl, _, rfl, p, _, dx, _, rfl, upd_same, T.cl_FourBox, T.n_FourBox_started, (by show 2 < 1000; decide), ?_⟩
      refine ⟨_, rfl, _, rfl, p, _, dx, _, rfl, upd_same, T.cl_FourBox, T.n_FourBox_told, (by show 3 < 1000; decide), ?_⟩
      refine ⟨_, rfl, p, _, dx, _, rfl, upd_same, T.cl_FourBox, T.n_FourBox_rest, (by show 4 < 1000; decide), ?_⟩
      refine cast (congrArg (Q V.non) ?_) k
      rw [upd_upd, upd_upd, upd_upd, upd_upd]
      rfl
/-- a part is told: the four's numbers are turned over -/
def sp_four_tell (A : Ad) (K : PySem.W.Frag) : Sp := fun vs H Q _ => ∃ (a dx p x : Addr) (ns : List Int) (st told : Bool) (q : Int), vs = [.ref a, .int q] ∧ H a = some (.ins A.c_FourBox dx (foF p x st told .non)) ∧ SqT K H p (ns.map V.int) ∧ ns.length = 4 ∧ (∀ z ∈ ns, fits z) ∧ fits q ∧
  ∀ r p' H', H' r = some (.tup [.str "part", .int q]) → H' a = some (.ins A.c_FourBox dx (foF p' x st true .non)) → SqT K H' p' ((turnedOver ns q).map V.int) → (∀ c o, H c = some o → c ≠ a → H' c = some o) → Q (.ref r) H'
theorem ok_FourBox_tell (T : CT K mg A) (D : DT K mg A) : MOk P w K mg base CX0 2 A.c_FourBox "tell" ["self", "part"] (sp_four_tell A K) := by
  have G_turned_over := ok_turned_over (P := P) (w := w) (base := base) T D
  refine MOk.of T.cl_FourBox D.FourBox_tell fun f fd F => ?_
  refine F.ok sc_FourBox_tell (fun vs H Q E h => ?_) (fun cdv Ar outer s H vs Q E hr h => ?_)
  · obtain ⟨a, dx, p, x, ns, st, told, q, rfl, _⟩ := h
    rfl
  · obtain ⟨a, dx, p, x, ns, st, told, q, rfl, ha, hp, hl, hf, fq, k⟩ := h
    refine ⟨_, (pss_cons (ps_fld (pv 0) (pe_c G_turned_over (hr.mono (by first | decide | omega)) (pa_cons (pe_fld (pv 0) rfl) (pa_cons (pv 1) pa_nil))) rfl)
    (pss_cons (ps_fld (pv 0) pe_bl rfl)
    (pss_one (ps_ret (pe_tup (pa_cons pe_str (pa_cons (pv 1) pa_nil))))))), ?_⟩
    have cl := T.cl_FourBox
    refine ⟨_, rfl, a, _, dx, _, _, rfl, ha, cl, T.n_FourBox_numbers, rfl, _, rfl, p, ns, q, rfl, hp, ⟨2, hl, by decide, by decide⟩, hf, fq, fun p' H1 hp1 s1 => ?_⟩
    refine ⟨_, rfl, a, _, dx, _, rfl, s1 _ _ ha, cl, T.n_FourBox_numbers, (by show 5 < 1000; decide), ?_⟩
    refine ⟨_, rfl, a, _, dx, _, rfl, upd_same, cl, T.n_FourBox_told, (by show 5 < 1000; decide), ?_⟩
    refine ⟨_, rfl, (by show 2 ≤ sizeLine; decide), fun u nu => ?_⟩
    have s3 := same_upd (o := .tup [V.str "part", .int q]) nu
    rw [upd_upd] at *
    exact k u p' _ upd_same (s3 _ _ upd_same) (sqT_same (sqT_ins hp1 (s1 _ _ ha)) s3) fun c o e hc => s3 _ _ (by rw [upd_ne hc]; exact s1 _ _ e)
def Ans.isFin : Ans → Bool
  | .fin => true
  | _ => false
def Ans.isWaits : Ans → Bool
  | .waits => true
  | _ => false
theorem eqv_fin (a : Ans) : PyData.eqv (.tuple a.data) (.tuple Ans.fin.data) = a.isFin := by
  cases a with
  | part n => rfl
  | fin => rfl
  | waits => rfl
theorem eqv_waits (a : Ans) : PyData.eqv (.tuple a.data) (.tuple Ans.waits.data) = a.isWaits := by
  cases a with
  | part n => rfl
  | fin => rfl
  | waits => rfl
/-- what a four's tree told is taken -/
def sp_four_take (A : Ad) (K : PySem.W.Frag) : Sp := fun vs H Q _ => ∃ (a dx p x : Addr) (ns : List Int) (st told : Bool) (v : V) (an : Ans), vs = [.ref a, v] ∧ an.At A H v ∧ H a = some (.ins A.c_FourBox dx (foF p x st told .non)) ∧ SqT K H p (ns.map V.int) ∧ ns.length = 4 ∧ (∀ z ∈ ns, fits z) ∧
  match an with
  | .waits => False
  | .fin => ∀ r dr H', H' a = some (.ins A.c_FourBox dx (foF p x st told (.ref r))) → H' r = some (.ins A.c_FractionBox dr (fbF (ns.getD 0 0) (ns.getD 2 0) told)) → H r = none → (∀ c o, H c = some o → c ≠ a → H' c = some o) → Q .non H'
  | .part q => fits q ∧ ∀ p' H', H' a = some (.ins A.c_FourBox dx (foF p' x true told .non)) → SqT K H' p' ((withOne ns q).map V.int) → (∀ c o, H c = some o → c ≠ a → H' c = some o) → Q .non H'
theorem ok_FourBox_take (T : CT K mg A) (D : DT K mg A) : MOk P w K mg base CX0 3 A.c_FourBox "take" ["self", "answer"] (sp_four_take A K) := by
  have I_FractionBox := ok_FractionBox_init (P := P) (w := w) (base := base) T D
  refine MOk.of T.cl_FourBox D.FourBox_take fun f fd F => ?_
  refine F.ok sc_FourBox_take (fun vs H Q E h => ?_) (fun cdv Ar outer s H vs Q E hr h => ?_)
  · obtain ⟨a, dx, p, x, ns, st, told, v, an, rfl, _⟩ := h
    rfl
  · obtain ⟨a, dx, p, x, ns, st, told, v, an, rfl, hv, ha, hp, hl, hf, k⟩ := h
    refine ⟨_, (pss_cons (ps_asg (pe_fld (pv 0) rfl) (pg_tup rfl (pgs_cons (pg_name (i := 2) sc_FourBox_take.nd rfl (Or.inl rfl)) (pgs_cons (pg_name (i := 3) sc_FourBox_take.nd rfl (Or.inl rfl)) (pgs_cons (pg_name (i := 4) sc_FourBox_take.nd rfl (Or.inl rfl)) (pgs_cons (pg_name (i := 5) sc_FourBox_take.nd rfl (Or.inl rfl)) pgs_nil))))))
    (pss_cons (ps_if (pt_cmpR (op_eqD hr.units) (pv 1) (pe_glob (v := .ref A.k_END) (by rfl) T.g_END rfl) (nomark _))
      (pss_cons (ps_fld (pv 0) (pe_mk I_FractionBox (hr.mono (by first | decide | omega)) (pa_cons (pv 2) (pa_cons (pv 4) (pa_cons (pe_fld (pv 0) rfl) pa_nil)))) rfl)
    (pss_one ps_retN)) pss_nil)
    (pss_cons (ps_set (i := 6) sc_FourBox_take.nd rfl (Or.inl rfl) (pe_ix ix_tup (pv 1) pe_int (fun _ _ => rfl)))
    (pss_cons (ps_fld (pv 0) (pe_tup (pa_cons (pe_op op_add (pe_op op_mulW (pv 2) (pv 6)) (pv 3)) (pa_cons (pv 2) (pa_cons (pe_op op_add (pe_op op_mulW (pv 4) (pv 6)) (pv 5)) (pa_cons (pv 4) pa_nil))))) rfl)
    (pss_one (ps_fld (pv 0) pe_bl rfl)))))), ?_⟩
    have cl := T.cl_FourBox
    match ns, hl with
    | [n0, n1, n2, n3], _ =>
      refine ⟨_, rfl, a, _, dx, _, _, rfl, ha, cl, T.n_FourBox_numbers, rfl, p, _, rfl, hp, rfl, _, _, rfl, _, _, rfl, _, _, rfl, _, _, rfl, rfl, ?_⟩
      obtain ⟨pv', rfl, hpv⟩ := hv.tup T
      have hE : SqT K H A.k_END Ans.fin.vals := T.t_END H
      refine ⟨_, rfl, _, _, an.dp hpv, Ans.fin.dp hE, an.shaped, Ans.fin.shaped, _, rfl, ?_⟩
      rw [eqv_fin]
      cases an with
      | waits => exact k.elim
      | fin =>
        refine iteT ⟨_, rfl, _, rfl, _, rfl, a, _, dx, _, _, rfl, ha, cl, T.n_FourBox_told, rfl, fun r dr nr nd ne => ?_⟩
        refine ⟨r, dr, _, rfl, rfl, upd_same, rfl, ?_⟩
        rw [upd_upd]
        have s1 := made_same (o := .own r) (o' := .ins A.c_FractionBox dr [("top", .int n0), ("below", .int n2), ("told", .bl told)]) nr nd
        refine ⟨_, rfl, a, _, dx, _, rfl, s1 _ _ ha, cl, T.n_FourBox_rest, (by show 5 < 1000; decide), ?_⟩
        exact k r dr _ upd_same (by rw [upd_ne (ne_of_none ha nr).symm]; exact upd_same) nr fun c o e hc => by rw [upd_ne hc]; exact s1 _ _ e
      | part q =>
        obtain ⟨fq, k⟩ := k
        refine iteF ⟨_, rfl, pv', _, 1, _, rfl, rfl, hpv, atI_nat (j := 1) rfl, ?_⟩
        refine ⟨_, rfl, _, rfl, _, _, rfl, rfl, fits_mul (hf n0 (by simp)) fq, _, rfl, _, _, rfl, rfl, _, rfl, _, rfl, _, rfl, _, _, rfl, rfl, fits_mul (hf n2 (by simp)) fq, _, rfl, _, _, rfl, rfl, _, rfl, (by show 4 ≤ sizeLine; decide), fun p' np => ?_⟩
        have s1 := same_upd (o := .tup [V.int (n0 * q + n1), .int n0, .int (n2 * q + n3), .int n2]) np
        refine ⟨_, rfl, a, _, dx, _, rfl, s1 _ _ ha, cl, T.n_FourBox_numbers, (by show 5 < 1000; decide), ?_⟩
        refine ⟨_, rfl, a, _, dx, _, rfl, upd_same, cl, T.n_FourBox_started, (by show 5 < 1000; decide), ?_⟩
        rw [upd_upd]
        exact k p' _ upd_same (sqT_ins (SqT.of upd_same) (s1 _ _ ha)) fun c o e hc => by rw [upd_ne hc]; exact s1 _ _ e
theorem ne_of_nd {i j : Int} (c : (!decide (V.int i = V.int j)) = true) : i ≠ j := fun z => by
  rw [z, decide_eq_true rfl] at c
  cases c
theorem eq_of_nd {i j : Int} (c : ¬ (!decide (V.int i = V.int j)) = true) : i = j := by
  rcases Decidable.em (i = j) with z | z
  · exact z
  · exact absurd (by rw [decide_eq_false (fun q => z (V.int.inj q))]; rfl) c
/-- the box of one tree alone -/
def OneIs (A : Ad) (p x : Addr) (ns : List Int) (told : Bool) (C : Addr) (fs : Flds) : Prop :=
  (ns.getD 0 0 * ns.getD 3 0 ≠ ns.getD 1 0 * ns.getD 2 0 ∧ C = A.c_FourBox ∧ fs = foF p x true told .non) ∨
  (ns.getD 0 0 * ns.getD 3 0 = ns.getD 1 0 * ns.getD 2 0 ∧ ns.getD 2 0 ≠ 0 ∧ C = A.c_FractionBox ∧ fs = fbF (ns.getD 0 0) (ns.getD 2 0) told) ∨
  (ns.getD 0 0 * ns.getD 3 0 = ns.getD 1 0 * ns.getD 2 0 ∧ ns.getD 2 0 = 0 ∧ C = A.c_FractionBox ∧ fs = fbF (ns.getD 1 0) (ns.getD 3 0) told)
def sp_box_of_one (A : Ad) (K : PySem.W.Frag) : Sp := fun vs H Q _ => ∃ (p x : Addr) (ns : List Int) (told : Bool), vs = [.ref p, .ref x, .bl told] ∧ SqT K H p (ns.map V.int) ∧ ns.length = 4 ∧ (∀ z ∈ ns, fits z) ∧
  ∀ r dr C fs H', H r = none → Same H H' → H' r = some (.ins C dr fs) → OneIs A p x ns told C fs → Q (.ref r) H'
theorem ok_box_of_one (T : CT K mg A) (D : DT K mg A) : COk P w K mg base CX0 3 "box_of_one" ["numbers", "tree", "told"] (sp_box_of_one A K) := by
  have I_FractionBox := ok_FractionBox_init (P := P) (w := w) (base := base) T D
  have I_FourBox := ok_FourBox_init (P := P) (w := w) (base := base) T D
  refine COk.by D.box_of_one fun f fd F => ?_
  refine F.ok sc_box_of_one (fun vs H Q E h => ?_) (fun cdv Ar outer s H vs Q E hr h => ?_)
  · obtain ⟨p, x, ns, told, rfl, _⟩ := h
    rfl
  · obtain ⟨p, x, ns, told, rfl, hp, hl, hf, k⟩ := h
    refine ⟨_, (pss_cons (ps_asg (pv 0) (pg_tup rfl (pgs_cons (pg_name (i := 3) sc_box_of_one.nd rfl (Or.inl rfl)) (pgs_cons (pg_name (i := 4) sc_box_of_one.nd rfl (Or.inl rfl)) (pgs_cons (pg_name (i := 5) sc_box_of_one.nd rfl (Or.inl rfl)) (pgs_cons (pg_name (i := 6) sc_box_of_one.nd rfl (Or.inl rfl)) pgs_nil))))))
    (pss_cons (ps_if (pt_cmpR op_ne (pe_op op_mulW (pv 3) (pv 6)) (pe_op op_mulW (pv 4) (pv 5)) (nomark _))
      (pss_one (ps_ret (pe_mk I_FourBox (hr.mono (by first | decide | omega)) (pa_cons (pv 0) (pa_cons (pv 1) (pa_cons pe_bl (pa_cons (pv 2) pa_nil))))))) pss_nil)
    (pss_cons (ps_if (pt_cmpR op_ne (pv 5) pe_int (nomark _))
      (pss_one (ps_ret (pe_mk I_FractionBox (hr.mono (by first | decide | omega)) (pa_cons (pv 3) (pa_cons (pv 5) (pa_cons (pv 2) pa_nil)))))) pss_nil)
    (pss_one (ps_ret (pe_mk I_FractionBox (hr.mono (by first | decide | omega)) (pa_cons (pv 4) (pa_cons (pv 6) (pa_cons (pv 2) pa_nil))))))))), ?_⟩
    match ns, hl with
    | [n0, n1, n2, n3], _ =>
      refine ⟨_, rfl, p, _, rfl, hp, rfl, _, _, rfl, _, _, rfl, _, _, rfl, _, _, rfl, rfl, ?_⟩
      refine ⟨_, rfl, _, rfl, _, _, rfl, rfl, fits_mul (hf n0 (by simp)) (hf n3 (by simp)), _, rfl, _, rfl, _, _, rfl, rfl, fits_mul (hf n1 (by simp)) (hf n2 (by simp)), ?_⟩
      refine ⟨rfl, _, rfl, ite2 (fun c => ?_) (fun c => ?_)⟩
      · have hc : n0 * n3 ≠ n1 * n2 := ne_of_nd c
        refine ⟨_, rfl, _, rfl, _, rfl, fun r dr nr nd ne => ?_⟩
        refine ⟨r, dr, _, rfl, rfl, upd_same, rfl, ?_⟩
        rw [upd_upd]
        exact k r dr _ _ _ nr (made_same nr nd) upd_same (.inl ⟨hc, rfl, rfl⟩)
      · have hc : n0 * n3 = n1 * n2 := eq_of_nd c
        refine ⟨_, rfl, rfl, _, rfl, ite2 (fun c2 => ?_) (fun c2 => ?_)⟩
        · have hc2 : n2 ≠ 0 := ne_of_nd c2
          refine ⟨_, rfl, _, rfl, _, rfl, fun r dr nr nd ne => ?_⟩
          refine ⟨r, dr, _, rfl, rfl, upd_same, rfl, ?_⟩
          rw [upd_upd]
          exact k r dr _ _ _ nr (made_same nr nd) upd_same (.inr (.inl ⟨hc, hc2, rfl, rfl⟩))
        · have hc2 : n2 = 0 := eq_of_nd c2
          refine ⟨_, rfl, _, rfl, _, rfl, fun r dr nr nd ne => ?_⟩
          refine ⟨r, dr, _, rfl, rfl, upd_same, rfl, ?_⟩
          rw [upd_upd]
          exact k r dr _ _ _ nr (made_same nr nd) upd_same (.inr (.inr ⟨hc, hc2, rfl, rfl⟩))
end
/-! ### boxes: eights -/
section
variable {P : Program} {w : World} {K : PySem.W.Frag} {mg : Str → Option Value} {base : Heap} {A : Ad}
open PySem.Spec PyProof.Rows in
/-- xs[i], to be written again -/
theorem get_listP {X : Cx} : PGet X (fun o i H Q => ∃ (p : Addr) (xs : List V) (j : Nat) (v : V), o = .ref p ∧ i = .int j ∧ SqL X.K H p xs ∧ xs[j]? = some v ∧ Q v H) := by
  intro pins s σ H o i ov iv Q I ro ri h
  obtain ⟨p, xs, j, z, rfl, rfl, hq, he, q⟩ := h
  cases ro
  obtain ⟨t, rfl⟩ := ri
  obtain ⟨its, r, pl, hz⟩ := I.list hq
  obtain ⟨w, ew, rw'⟩ := r.get he
  have hl := r.length
  have hn := line63
  have hj : j < xs.length := (List.getElem?_eq_some_iff.mp he).1
  exact wpAny_getItem_list (x := w) pl.isList (by omega) (by omega) (by simpa using ew) ⟨z, H, I, rw', q⟩
def sp_EightBox_init (A : Ad) : Sp := fun vs H Q _ => ∃ (a dx p x y : Addr), vs = [.ref a, .ref p, .ref x, .ref y] ∧ H a = some (.ins A.c_EightBox dx []) ∧
  ∀ q l H', H q = none → H l = none → l ≠ q → H' a = some (.ins A.c_EightBox dx (eiF p q l false .non)) → H' q = some (.tup [.ref x, .ref y]) → H' l = some (.lst [.int 0, .int 0]) → (∀ c o, H c = some o → c ≠ a → H' c = some o) → Q .non H'
theorem ok_EightBox_init (T : CT K mg A) (D : DT K mg A) : IOk P w K mg base 1 "EightBox" A.c_EightBox ["self", "numbers", "one", "other"] (sp_EightBox_init A) := by
  refine IOk.of T.g_EightBox D.EightBox_init fun f fd F => ?_
  refine F.ok sc_EightBox_init (fun vs H Q E h => ?_) (fun cdv Ar outer s H vs Q E hr h => ?_)
  · obtain ⟨a, dx, p, x, y, rfl, _⟩ := h
    rfl
  · obtain ⟨a, dx, p, x, y, rfl, ha, k⟩ := h
    have cl := T.cl_EightBox
    refine ⟨_, (pss_cons (ps_fld (pv 0) (pv 1) rfl)
    (pss_cons (ps_fld (pv 0) (pe_tup (pa_cons (pv 2) (pa_cons (pv 3) pa_nil))) rfl)
    (pss_cons (ps_fld (pv 0) (pe_lst (pa_cons pe_int (pa_cons pe_int pa_nil))) rfl)
    (pss_cons (ps_fld (pv 0) pe_bl rfl)
    (pss_one (ps_fld (pv 0) pe_non rfl)))))), ?_⟩
    refine ⟨_, rfl, _, rfl, a, _, dx, [], rfl, ha, cl, T.n_EightBox_numbers, (by show 0 < 1000; decide), ?_⟩
    refine ⟨_, rfl, _, rfl, (by show 2 ≤ sizeLine; decide), fun q nq => ?_⟩
    have h1 : (upd H a (.ins A.c_EightBox dx (putF "numbers" (.ref p) []))) a = some (.ins A.c_EightBox dx [("numbers", .ref p)]) := upd_same
    have s1 := same_upd (o := .tup [V.ref x, .ref y]) nq
    have naq : a ≠ q := ne_of_none h1 nq
    refine ⟨_, rfl, a, _, dx, _, rfl, s1 _ _ h1, cl, T.n_EightBox_trees, (by show 1 < 1000; decide), ?_⟩
    refine ⟨(by show 2 ≤ sizeLine; decide), fun l nl => ?_⟩
    rw [upd_ne naq.symm] at nq
    have nal : a ≠ l := ne_of_none upd_same nl
    have nlq : l ≠ q := fun z => by rw [z, upd_ne naq.symm, upd_same] at nl; cases nl
    have nl0 : H l = none := by rw [upd_ne nal.symm, upd_ne nlq, upd_ne nal.symm] at nl; exact nl
    refine ⟨_, rfl, a, _, dx, _, rfl, (by rw [upd_ne nal, upd_same]), cl, T.n_EightBox_taken, (by show 2 < 1000; decide), ?_⟩
    refine ⟨_, rfl, a, _, dx, _, rfl, upd_same, cl, T.n_EightBox_told, (by show 3 < 1000; decide), ?_⟩
    refine ⟨_, rfl, a, _, dx, _, rfl, upd_same, cl, T.n_EightBox_rest, (by show 4 < 1000; decide), ?_⟩
    rw [upd_upd, upd_upd]
    refine k q l _ nq nl0 nlq upd_same ?_ ?_ fun c o e hc => ?_
    · rw [upd_ne naq.symm, upd_ne nlq.symm, upd_ne naq.symm, upd_same]
    · rw [upd_ne nal.symm, upd_same]
    · rw [upd_ne hc, upd_ne (ne_of_none e nl0), upd_ne hc, upd_ne (ne_of_none e nq), upd_ne hc]
      exact e
def sp_eight_tell (A : Ad) (K : PySem.W.Frag) : Sp := fun vs H Q _ => ∃ (a dx p t l : Addr) (ns : List Int) (told : Bool) (q : Int), vs = [.ref a, .int q] ∧ H a = some (.ins A.c_EightBox dx (eiF p t l told .non)) ∧ SqT K H p (ns.map V.int) ∧ ns.length = 8 ∧ (∀ z ∈ ns, fits z) ∧ fits q ∧
  ∀ r p' H', H' r = some (.tup [.str "part", .int q]) → H' a = some (.ins A.c_EightBox dx (eiF p' t l true .non)) → SqT K H' p' ((turnedOver ns q).map V.int) → (∀ c o, H c = some o → c ≠ a → H' c = some o) → Q (.ref r) H'
theorem ok_EightBox_tell (T : CT K mg A) (D : DT K mg A) : MOk P w K mg base CX0 2 A.c_EightBox "tell" ["self", "part"] (sp_eight_tell A K) := by
  have G_turned_over := ok_turned_over (P := P) (w := w) (base := base) T D
  refine MOk.of T.cl_EightBox D.EightBox_tell fun f fd F => ?_
  refine F.ok sc_EightBox_tell (fun vs H Q E h => ?_) (fun cdv Ar outer s H vs Q E hr h => ?_)
  · obtain ⟨a, dx, p, t, l, ns, told, q, rfl, _⟩ := h
    rfl
  · obtain ⟨a, dx, p, t, l, ns, told, q, rfl, ha, hp, hl, hf, fq, k⟩ := h
    refine ⟨_, (pss_cons (ps_fld (pv 0) (pe_c G_turned_over (hr.mono (by first | decide | omega)) (pa_cons (pe_fld (pv 0) rfl) (pa_cons (pv 1) pa_nil))) rfl)
    (pss_cons (ps_fld (pv 0) pe_bl rfl)
    (pss_one (ps_ret (pe_tup (pa_cons pe_str (pa_cons (pv 1) pa_nil))))))), ?_⟩
    have cl := T.cl_EightBox
    refine ⟨_, rfl, a, _, dx, _, _, rfl, ha, cl, T.n_EightBox_numbers, rfl, _, rfl, p, ns, q, rfl, hp, ⟨4, hl, by decide, by decide⟩, hf, fq, fun p' H1 hp1 s1 => ?_⟩
    refine ⟨_, rfl, a, _, dx, _, rfl, s1 _ _ ha, cl, T.n_EightBox_numbers, (by show 5 < 1000; decide), ?_⟩
    refine ⟨_, rfl, a, _, dx, _, rfl, upd_same, cl, T.n_EightBox_told, (by show 5 < 1000; decide), ?_⟩
    refine ⟨_, rfl, (by show 2 ≤ sizeLine; decide), fun u nu => ?_⟩
    have s3 := same_upd (o := .tup [V.str "part", .int q]) nu
    rw [upd_upd] at *
    exact k u p' _ upd_same (s3 _ _ upd_same) (sqT_same (sqT_ins hp1 (s1 _ _ ha)) s3) fun c o e hc => s3 _ _ (by rw [upd_ne hc]; exact s1 _ _ e)
def leftOf (ns : List Int) (which : Nat) : List Int := if which = 0 then [ns.getD 0 0, ns.getD 1 0, ns.getD 4 0, ns.getD 5 0] else [ns.getD 0 0, ns.getD 2 0, ns.getD 4 0, ns.getD 6 0]
def sp_left_without (A : Ad) (K : PySem.W.Frag) : Sp := fun vs H Q _ => ∃ (a dx p t l x y : Addr) (ns : List Int) (told : Bool) (which : Nat), vs = [.ref a, .int which] ∧ which ≤ 1 ∧ H a = some (.ins A.c_EightBox dx (eiF p t l told .non)) ∧ SqT K H p (ns.map V.int) ∧ SqT K H t [.ref x, .ref y] ∧ ns.length = 8 ∧ (∀ z ∈ ns, fits z) ∧
  ∀ p' r dr C fs H', SqT K H' p' ((leftOf ns which).map V.int) → H r = none → Same H H' → H' r = some (.ins C dr fs) → OneIs A p' (if which = 0 then y else x) (leftOf ns which) told C fs → Q (.ref r) H'
theorem ok_left_without (T : CT K mg A) (D : DT K mg A) : MOk P w K mg base CX0 4 A.c_EightBox "left_without" ["self", "which"] (sp_left_without A K) := by
  have G_box_of_one := ok_box_of_one (P := P) (w := w) (base := base) T D
  refine MOk.of T.cl_EightBox D.EightBox_left_without fun f fd F => ?_
  refine F.ok sc_EightBox_left_without (fun vs H Q E h => ?_) (fun cdv Ar outer s H vs Q E hr h => ?_)
  · obtain ⟨a, dx, p, t, l, x, y, ns, told, which, rfl, _⟩ := h
    rfl
  · obtain ⟨a, dx, p, t, l, x, y, ns, told, which, rfl, hw, ha, hp, ht, hl, hf, k⟩ := h
    refine ⟨_, (pss_cons (ps_asg (pe_fld (pv 0) rfl) (pg_tup rfl (pgs_cons (pg_name (i := 2) sc_EightBox_left_without.nd rfl (Or.inl rfl)) (pgs_cons (pg_name (i := 3) sc_EightBox_left_without.nd rfl (Or.inl rfl)) (pgs_cons (pg_name (i := 4) sc_EightBox_left_without.nd rfl (Or.inl rfl)) (pgs_cons (pg_name (i := 5) sc_EightBox_left_without.nd rfl (Or.inl rfl)) (pgs_cons (pg_name (i := 6) sc_EightBox_left_without.nd rfl (Or.inl rfl)) (pgs_cons (pg_name (i := 7) sc_EightBox_left_without.nd rfl (Or.inl rfl)) (pgs_cons (pg_name (i := 8) sc_EightBox_left_without.nd rfl (Or.inl rfl)) (pgs_cons (pg_name (i := 9) sc_EightBox_left_without.nd rfl (Or.inl rfl)) pgs_nil))))))))))
    (pss_cons (ps_if (pt_cmpR op_eq (pv 1) pe_int (nomark _))
      (pss_one (ps_ret (pe_c G_box_of_one (hr.mono (by first | decide | omega)) (pa_cons (pe_tup (pa_cons (pv 2) (pa_cons (pv 3) (pa_cons (pv 6) (pa_cons (pv 7) pa_nil))))) (pa_cons (pe_ix ix_tup (pe_fld (pv 0) rfl) pe_int (fun _ _ => rfl)) (pa_cons (pe_fld (pv 0) rfl) pa_nil)))))) pss_nil)
    (pss_one (ps_ret (pe_c G_box_of_one (hr.mono (by first | decide | omega)) (pa_cons (pe_tup (pa_cons (pv 2) (pa_cons (pv 4) (pa_cons (pv 6) (pa_cons (pv 8) pa_nil))))) (pa_cons (pe_ix ix_tup (pe_fld (pv 0) rfl) pe_int (fun _ _ => rfl)) (pa_cons (pe_fld (pv 0) rfl) pa_nil)))))))), ?_⟩
    have cl := T.cl_EightBox
    match ns, hl with
    | [n0, n1, n2, n3, n4, n5, n6, n7], _ =>
      refine ⟨_, rfl, a, _, dx, _, _, rfl, ha, cl, T.n_EightBox_numbers, rfl, p, _, rfl, hp, rfl, _, _, rfl, _, _, rfl, _, _, rfl, _, _, rfl, _, _, rfl, _, _, rfl, _, _, rfl, _, _, rfl, rfl, ?_⟩
      refine ⟨_, rfl, rfl, _, rfl, ?_⟩
      match which, hw with
      | 0, _ =>
        refine iteT ⟨_, rfl, _, rfl, _, rfl, _, rfl, (by show 4 ≤ sizeLine; decide), fun p' np => ?_⟩
        have s1 := same_upd (o := .tup [V.int n0, .int n1, .int n4, .int n5]) np
        refine ⟨_, rfl, a, _, dx, _, _, rfl, s1 _ _ ha, cl, T.n_EightBox_trees, rfl, t, _, 1, _, rfl, rfl, sqT_same ht s1, atI_nat (j := 1) rfl, _, rfl, a, _, dx, _, _, rfl, s1 _ _ ha, cl, T.n_EightBox_told, rfl, ?_⟩
        refine ⟨p', y, [n0, n1, n4, n5], told, rfl, SqT.of upd_same, rfl, (by intro z hz; simp at hz; rcases hz with rfl | rfl | rfl | rfl <;> exact hf _ (by simp)), fun r dr C fs H' nr s2 hr' o => ?_⟩
        exact k p' r dr C fs H' (sqT_same (SqT.of upd_same) s2) (s1.free nr) (s1.trans s2) hr' o
      | 1, _ =>
        refine iteF ⟨_, rfl, _, rfl, _, rfl, _, rfl, (by show 4 ≤ sizeLine; decide), fun p' np => ?_⟩
        have s1 := same_upd (o := .tup [V.int n0, .int n2, .int n4, .int n6]) np
        refine ⟨_, rfl, a, _, dx, _, _, rfl, s1 _ _ ha, cl, T.n_EightBox_trees, rfl, t, _, 0, _, rfl, rfl, sqT_same ht s1, atI_nat (j := 0) rfl, _, rfl, a, _, dx, _, _, rfl, s1 _ _ ha, cl, T.n_EightBox_told, rfl, ?_⟩
        refine ⟨p', x, [n0, n2, n4, n6], told, rfl, SqT.of upd_same, rfl, (by intro z hz; simp at hz; rcases hz with rfl | rfl | rfl | rfl <;> exact hf _ (by simp)), fun r dr C fs H' nr s2 hr' o => ?_⟩
        exact k p' r dr C fs H' (sqT_same (SqT.of upd_same) s2) (s1.free nr) (s1.trans s2) hr' o
def withPart (ns : List Int) (which : Nat) (q : Int) : List Int := if which = 0 then withFirst ns q else withSecond ns q
def sp_eight_take (A : Ad) (K : PySem.W.Frag) : Sp := fun vs H Q _ => ∃ (a dx p t l x y : Addr) (ns : List Int) (told : Bool) (which : Nat) (i j : Int) (v : V) (an : Ans), vs = [.ref a, .int which, v] ∧ which ≤ 1 ∧ an.At A H v ∧ H a = some (.ins A.c_EightBox dx (eiF p t l told .non)) ∧ SqT K H p (ns.map V.int) ∧ SqT K H t [.ref x, .ref y] ∧ H l = some (.lst [.int i, .int j]) ∧ ns.length = 8 ∧ (∀ z ∈ ns, fits z) ∧
  match an with
  | .waits => False
  | .fin => ∀ p' r dr C fs H', SqT K H' p' ((leftOf ns which).map V.int) → H r = none → H' a = some (.ins A.c_EightBox dx (eiF p t l told (.ref r))) → (∀ c o, H c = some o → c ≠ a → H' c = some o) → H' r = some (.ins C dr fs) → OneIs A p' (if which = 0 then y else x) (leftOf ns which) told C fs → Q .non H'
  | .part q => fits q ∧ ∀ p' H', H' a = some (.ins A.c_EightBox dx (eiF p' t l told .non)) → SqT K H' p' ((withPart ns which q).map V.int) → H' l = some (.lst (if which = 0 then [.int (i + 1), .int j] else [.int i, .int (j + 1)])) → (∀ c o, H c = some o → c ≠ a → c ≠ l → H' c = some o) → Q .non H'
theorem ok_EightBox_take (T : CT K mg A) (D : DT K mg A) : MOk P w K mg base CX0 5 A.c_EightBox "take" ["self", "which", "answer"] (sp_eight_take A K) := by
  have M_left := ok_left_without (P := P) (w := w) (base := base) T D
  have G_with_first_part := ok_with_first_part (P := P) (w := w) (base := base) T D
  have G_with_second_part := ok_with_second_part (P := P) (w := w) (base := base) T D
  refine MOk.of T.cl_EightBox D.EightBox_take fun f fd F => ?_
  refine F.ok sc_EightBox_take (fun vs H Q E h => ?_) (fun cdv Ar outer s H vs Q E hr h => ?_)
  · obtain ⟨a, dx, p, t, l, x, y, ns, told, which, i, j, v, an, rfl, _⟩ := h
    rfl
  · obtain ⟨a, dx, p, t, l, x, y, ns, told, which, i, j, v, an, rfl, hw, hv, ha, hp, ht, hL, hl, hf, k⟩ := h
    refine ⟨_, (pss_cons (ps_if (pt_cmpR (op_eqD hr.units) (pv 2) (pe_glob (v := .ref A.k_END) (by rfl) T.g_END rfl) (nomark _))
      (pss_cons (ps_fld (pv 0) (pe_m M_left (hr.mono (by first | decide | omega)) (pv 0) (pa_cons (pv 1) pa_nil)) rfl)
    (pss_one ps_retN)) pss_nil)
    (pss_cons (ps_if (pt_cmpR op_eq (pv 1) pe_int (nomark _))
      (pss_one (ps_fld (pv 0) (pe_c G_with_first_part (hr.mono (by first | decide | omega)) (pa_cons (pe_fld (pv 0) rfl) (pa_cons (pe_ix ix_tup (pv 2) pe_int (fun _ _ => rfl)) pa_nil))) rfl)) (pss_one (ps_fld (pv 0) (pe_c G_with_second_part (hr.mono (by first | decide | omega)) (pa_cons (pe_fld (pv 0) rfl) (pa_cons (pe_ix ix_tup (pv 2) pe_int (fun _ _ => rfl)) pa_nil))) rfl)))
    (pss_one (ps_augS (pe_fld (pv 0) rfl) (pv 1) get_listP pe_int ip_add set_list)))), ?_⟩
    have cl := T.cl_EightBox
    obtain ⟨pv', rfl, hpv⟩ := hv.tup T
    have hE : SqT K H A.k_END Ans.fin.vals := T.t_END H
    refine ⟨_, rfl, _, _, an.dp hpv, Ans.fin.dp hE, an.shaped, Ans.fin.shaped, _, rfl, ?_⟩
    rw [eqv_fin]
    cases an with
    | waits => exact k.elim
    | fin =>
      refine iteT ⟨_, rfl, a, dx, _, rfl, ha, rfl, _, rfl, a, dx, p, t, l, x, y, ns, told, which, rfl, hw, ha, hp, ht, hl, hf, fun p' r dr C fs H1 hp1 nr s1 hr1 o => ?_⟩
      refine ⟨_, rfl, a, _, dx, _, rfl, s1 _ _ ha, cl, T.n_EightBox_rest, (by show 5 < 1000; decide), ?_⟩
      exact k p' r dr C fs _ (sqT_ins hp1 (s1 _ _ ha)) nr upd_same (fun c o e hc => by rw [upd_ne hc]; exact s1 _ _ e) (by rw [upd_ne (ne_of_none ha nr).symm]; exact hr1) o
    | part q =>
      obtain ⟨fq, k⟩ := k
      have nal : l ≠ a := ne_of hL ha (by intro z; cases z)
      refine iteF ?_
      match which, hw with
      | 0, _ =>
        refine ⟨_, rfl, rfl, _, rfl, iteT ?_⟩
        refine ⟨_, rfl, a, _, dx, _, _, rfl, ha, cl, T.n_EightBox_numbers, rfl, _, rfl, pv', _, 1, _, rfl, rfl, hpv, atI_nat (j := 1) rfl, p, ns, q, rfl, hp, hl, hf, fq, fun p' H1 hp1 s1 => ?_⟩
        refine ⟨_, rfl, a, _, dx, _, rfl, s1 _ _ ha, cl, T.n_EightBox_numbers, (by show 5 < 1000; decide), ?_⟩
        have hL1 : (upd H1 a (.ins A.c_EightBox dx (putF "numbers" (.ref p') (eiF p t l told .non)))) l = some (.lst [.int i, .int j]) := by rw [upd_ne nal]; exact s1 _ _ hL
        refine ⟨_, rfl, a, _, dx, _, _, rfl, upd_same, cl, T.n_EightBox_taken, rfl, _, rfl, l, _, 0, _, rfl, rfl, SqL.of hL1, rfl, _, _, rfl, rfl, l, _, 0, 0, rfl, rfl, hL1, rfl, ?_⟩
        refine k p' _ ?_ ?_ upd_same fun c o e hc hcl => ?_
        · rw [upd_ne nal.symm, upd_same]; rfl
        · exact sqT_lst (sqT_ins hp1 (s1 _ _ ha)) hL1
        · rw [upd_ne hcl, upd_ne hc]; exact s1 _ _ e
      | 1, _ =>
        refine ⟨_, rfl, rfl, _, rfl, iteF ?_⟩
        refine ⟨_, rfl, a, _, dx, _, _, rfl, ha, cl, T.n_EightBox_numbers, rfl, _, rfl, pv', _, 1, _, rfl, rfl, hpv, atI_nat (j := 1) rfl, p, ns, q, rfl, hp, hl, hf, fq, fun p' H1 hp1 s1 => ?_⟩
        refine ⟨_, rfl, a, _, dx, _, rfl, s1 _ _ ha, cl, T.n_EightBox_numbers, (by show 5 < 1000; decide), ?_⟩
        have hL1 : (upd H1 a (.ins A.c_EightBox dx (putF "numbers" (.ref p') (eiF p t l told .non)))) l = some (.lst [.int i, .int j]) := by rw [upd_ne nal]; exact s1 _ _ hL
        refine ⟨_, rfl, a, _, dx, _, _, rfl, upd_same, cl, T.n_EightBox_taken, rfl, _, rfl, l, _, 1, _, rfl, rfl, SqL.of hL1, rfl, _, _, rfl, rfl, l, _, 1, 1, rfl, rfl, hL1, rfl, ?_⟩
        refine k p' _ ?_ ?_ upd_same fun c o e hc hcl => ?_
        · rw [upd_ne nal.symm, upd_same]; rfl
        · exact sqT_lst (sqT_ins hp1 (s1 _ _ ha)) hL1
        · rw [upd_ne hcl, upd_ne hc]; exact s1 _ _ e
end
/-! ### boxes: what they are, in plain Lean, and where they stand -/
inductive Box where
  | leaf (c : Chain)
  | fb (t b : Int) (told : Bool)
  | four (ns : List Int) (st told : Bool) (x : Box)
  | fourR (t b : Int) (told : Bool)
  | eight (ns : List Int) (i j : Int) (told : Bool) (x y : Box)
  | eightR (r : Box)
def Box.wt : Box → Nat
  | .leaf _ => 0
  | .fb _ _ _ => 0
  | .four _ _ _ x => x.wt + 1
  | .fourR _ _ _ => 1
  | .eight _ _ _ _ x y => max x.wt y.wt + 3
  | .eightR r => r.wt + 2
/-- of which class -/
def Box.kind : Box → Nat
  | .leaf _ => 0
  | .fb _ _ _ => 1
  | .four _ _ _ _ => 2
  | .fourR _ _ _ => 2
  | .eight _ _ _ _ _ _ => 3
  | .eightR _ => 3
/-- whole trees within: no fraction box there; a rest is a four or a fraction box -/
def Box.Ok : Box → Prop
  | .leaf c => c.Ok
  | .fb _ _ _ => True
  | .four ns _ _ x => ns.length = 4 ∧ x.Ok ∧ x.kind ≠ 1
  | .fourR _ _ _ => True
  | .eight ns i j _ x y => ns.length = 8 ∧ x.Ok ∧ y.Ok ∧ x.kind ≠ 1 ∧ y.kind ≠ 1 ∧ 0 ≤ i ∧ 0 ≤ j
  | .eightR r => r.Ok ∧ (r.kind = 1 ∨ r.kind = 2)
def allFit (ns : List Int) (cs : List (Int × Int)) : Bool := ns.all (fun z => decide (fits z)) && cs.all (fun c => decide (fits c.1) && decide (fits c.2))
/-- a fraction box, asked -/
def fbAsk (t b : Int) (told : Bool) : Option (Option Ans × Int × Int × Bool) :=
  if fits t ∧ fits b then (if b = 0 then (if told = true then some (some .fin, t, b, told) else some (none, t, b, told)) else some (some (.part (t.fdiv b)), b, t - t.fdiv b * b, true)) else none
def oneBox (ns : List Int) (told : Bool) (x : Box) : Box :=
  if ns.getD 0 0 * ns.getD 3 0 ≠ ns.getD 1 0 * ns.getD 2 0 then .four ns true told x
  else if ns.getD 2 0 ≠ 0 then .fb (ns.getD 0 0) (ns.getD 2 0) told else .fb (ns.getD 1 0) (ns.getD 3 0) told
/-- what is told (none: NoValue), the box behind it, how many parts of leaves may yet be taken; nothing where the numbers are too great, or the fuel too little -/
def askF : Nat → Box → Int → Option (Option Ans × Box × Int)
  | 0, _, _ => none
  | _ + 1, .leaf c, l => some (some (c.ans l), .leaf (c.then_ l), l - c.took l)
  | _ + 1, .fb t b told, l => (fbAsk t b told).map fun r => (r.1, .fb r.2.1 r.2.2.1 r.2.2.2, l)
  | _ + 1, .fourR t b told, l => (fbAsk t b told).map fun r => (r.1, .fourR r.2.1 r.2.2.1 r.2.2.2, l)
  | n + 1, .four ns st told x, l =>
    if allFit ns (fourCorners ns) = true then
      match (if st = true then surePart (fourCorners ns) else none) with
      | some q => some (some (.part q), .four (turnedOver ns q) st true x, l)
      | none => match askF n x l with
        | none => none
        | some (none, x', l') => some (none, .four ns st told x', l')
        | some (some .waits, x', l') => some (some .waits, .four ns st told x', l')
        | some (some .fin, _, l') => askF n (.fourR (ns.getD 0 0) (ns.getD 2 0) told) l'
        | some (some (.part q), x', l') => if fits q then askF n (.four (withOne ns q) true told x') l' else none
    else none
  | n + 1, .eight ns i j told x y, l =>
    if allFit ns (eightCorners ns) = true then
      match (if 0 < i ∧ 0 < j then surePart (eightCorners ns) else none) with
      | some q => some (some (.part q), .eight (turnedOver ns q) i j true x y, l)
      | none =>
        if i ≤ j then match askF n x l with
          | none => none
          | some (none, x', l') => some (none, .eight ns i j told x' y, l')
          | some (some .waits, x', l') => some (some .waits, .eight ns i j told x' y, l')
          | some (some .fin, _, l') => askF n (.eightR (oneBox (leftOf ns 0) told y)) l'
          | some (some (.part q), x', l') => if fits q then askF n (.eight (withFirst ns q) (i + 1) j told x' y) l' else none
        else match askF n y l with
          | none => none
          | some (none, y', l') => some (none, .eight ns i j told x y', l')
          | some (some .waits, y', l') => some (some .waits, .eight ns i j told x y', l')
          | some (some .fin, _, l') => askF n (.eightR (oneBox (leftOf ns 1) told x)) l'
          | some (some (.part q), y', l') => if fits q then askF n (.eight (withSecond ns q) i (j + 1) told x y') l' else none
    else none
  | n + 1, .eightR r, l => (askF n r l).map fun z => (z.1, .eightR z.2.1, z.2.2)
def BoxAt (A : Ad) (K : PySem.W.Frag) (H : Hp) : Box → Addr → List Addr → Prop
  | .leaf c, a, fp => ∃ ca, fp = [a, ca] ∧ LeafAt A K H a ca c ∧ a ≠ ca
  | .fb t b told, a, fp => ∃ dx, fp = [a] ∧ H a = some (.ins A.c_FractionBox dx (fbF t b told))
  | .four ns st told x, a, fp => ∃ dx p tx fx, fp = a :: fx ∧ H a = some (.ins A.c_FourBox dx (foF p tx st told .non)) ∧ SqT K H p (ns.map V.int) ∧ BoxAt A K H x tx fx ∧ a ∉ fx
  | .fourR t b told, a, fp => ∃ dx p tx st told' r dr, fp = [a, r] ∧ H a = some (.ins A.c_FourBox dx (foF p tx st told' (.ref r))) ∧ H r = some (.ins A.c_FractionBox dr (fbF t b told)) ∧ a ≠ r
  | .eight ns i j told x y, a, fp => ∃ dx p t l tx ty fx fy, fp = a :: l :: (fx ++ fy) ∧ H a = some (.ins A.c_EightBox dx (eiF p t l told .non)) ∧ SqT K H p (ns.map V.int) ∧ SqT K H t [.ref tx, .ref ty] ∧ H l = some (.lst [.int i, .int j]) ∧
      BoxAt A K H x tx fx ∧ BoxAt A K H y ty fy ∧ a ∉ fx ∧ a ∉ fy ∧ l ∉ fx ∧ l ∉ fy ∧ ∀ c ∈ fx, c ∉ fy
  | .eightR r, a, fp => ∃ dx p t l told b fr, fp = a :: fr ∧ H a = some (.ins A.c_EightBox dx (eiF p t l told (.ref b))) ∧ BoxAt A K H r b fr ∧ a ∉ fr
section
variable {P : Program} {w : World} {K : PySem.W.Frag} {mg : Str → Option Value} {base : Heap} {A : Ad}
/-- no tuple, no locked thing -/
def Soft (H : Hp) (c : Addr) : Prop := (∃ C dx fs, H c = some (.ins C dx fs)) ∨ ∃ xs, H c = some (.lst xs)
theorem Soft.no {H : Hp} {c : Addr} {o : HO} (h : Soft H c) (e : H c = some o) : (∀ ys, o ≠ .tup ys) ∧ ∀ ob u, o ≠ .frz ob u := by
  rcases h with ⟨C, dx, fs, z⟩ | ⟨xs, z⟩
  · rw [z] at e; cases e; exact ⟨fun _ q => (by cases q), fun _ _ q => (by cases q)⟩
  · rw [z] at e; cases e; exact ⟨fun _ q => (by cases q), fun _ _ q => (by cases q)⟩
theorem BoxAt.soft {H : Hp} : ∀ {B : Box} {a : Addr} {fp : List Addr}, BoxAt A K H B a fp → ∀ c ∈ fp, Soft H c
  | .leaf ch, a, fp, h => by
    obtain ⟨ca, rfl, ⟨⟨dx, e⟩, hc⟩, _⟩ := h
    intro c hm
    simp only [List.mem_cons, List.not_mem_nil, or_false] at hm
    rcases hm with rfl | rfl
    · exact .inl ⟨_, _, _, e⟩
    · exact .inl hc.there
  | .fb t b told, a, fp, h => by
    obtain ⟨dx, rfl, e⟩ := h
    intro c hm
    simp only [List.mem_cons, List.not_mem_nil, or_false] at hm
    subst hm
    exact .inl ⟨_, _, _, e⟩
  | .four ns st told x, a, fp, h => by
    obtain ⟨dx, p, tx, fx, rfl, e, hp, hx, na⟩ := h
    intro c hm
    rcases List.mem_cons.mp hm with rfl | hm
    · exact .inl ⟨_, _, _, e⟩
    · exact BoxAt.soft hx c hm
  | .fourR t b told, a, fp, h => by
    obtain ⟨dx, p, tx, st, told', r, dr, rfl, e, er, _⟩ := h
    intro c hm
    simp only [List.mem_cons, List.not_mem_nil, or_false] at hm
    rcases hm with rfl | rfl
    · exact .inl ⟨_, _, _, e⟩
    · exact .inl ⟨_, _, _, er⟩
  | .eight ns i j told x y, a, fp, h => by
    obtain ⟨dx, p, t, l, tx, ty, fx, fy, rfl, e, hp, ht, hl, hx, hy, _⟩ := h
    intro c hm
    rcases List.mem_cons.mp hm with rfl | hm
    · exact .inl ⟨_, _, _, e⟩
    · rcases List.mem_cons.mp hm with rfl | hm
      · exact .inr ⟨_, hl⟩
      · rcases List.mem_append.mp hm with hm | hm
        · exact BoxAt.soft hx c hm
        · exact BoxAt.soft hy c hm
  | .eightR r, a, fp, h => by
    obtain ⟨dx, p, t, l, told, b, fr, rfl, e, hr, _⟩ := h
    intro c hm
    rcases List.mem_cons.mp hm with rfl | hm
    · exact .inl ⟨_, _, _, e⟩
    · exact BoxAt.soft hr c hm
theorem BoxAt.kept {H H' : Hp} {N : Addr → Prop} (k : ∀ c o, H c = some o → ¬ N c → H' c = some o) (hN : ∀ c o, N c → H c = some o → (∀ ys, o ≠ .tup ys) ∧ ∀ ob u, o ≠ .frz ob u) :
    ∀ {B : Box} {a : Addr} {fp : List Addr}, BoxAt A K H B a fp → (∀ c ∈ fp, ¬ N c) → BoxAt A K H' B a fp
  | .leaf ch, a, fp, h, n => by
    obtain ⟨ca, rfl, ⟨⟨dx, e⟩, hc⟩, ne⟩ := h
    exact ⟨ca, rfl, ⟨⟨dx, k _ _ e (n a (by simp))⟩, hc.kept (n ca (by simp)) k hN⟩, ne⟩
  | .fb t b told, a, fp, h, n => by
    obtain ⟨dx, rfl, e⟩ := h
    exact ⟨dx, rfl, k _ _ e (n a (by simp))⟩
  | .four ns st told x, a, fp, h, n => by
    obtain ⟨dx, p, tx, fx, rfl, e, hp, hx, na⟩ := h
    exact ⟨dx, p, tx, fx, rfl, k _ _ e (n a (by simp)), sqT_but hp k hN, BoxAt.kept k hN hx (fun c hc => n c (by simp [hc])), na⟩
  | .fourR t b told, a, fp, h, n => by
    obtain ⟨dx, p, tx, st, told', r, dr, rfl, e, er, ne⟩ := h
    exact ⟨dx, p, tx, st, told', r, dr, rfl, k _ _ e (n a (by simp)), k _ _ er (n r (by simp)), ne⟩
  | .eight ns i j told x y, a, fp, h, n => by
    obtain ⟨dx, p, t, l, tx, ty, fx, fy, rfl, e, hp, ht, hl, hx, hy, z⟩ := h
    exact ⟨dx, p, t, l, tx, ty, fx, fy, rfl, k _ _ e (n a (by simp)), sqT_but hp k hN, sqT_but ht k hN, k _ _ hl (n l (by simp)), BoxAt.kept k hN hx (fun c hc => n c (by simp [hc])), BoxAt.kept k hN hy (fun c hc => n c (by simp [hc])), z⟩
  | .eightR r, a, fp, h, n => by
    obtain ⟨dx, p, t, l, told, b, fr, rfl, e, hr, na⟩ := h
    exact ⟨dx, p, t, l, told, b, fr, rfl, k _ _ e (n a (by simp)), BoxAt.kept k hN hr (fun c hc => n c (by simp [hc])), na⟩
theorem BoxAt.same {H H' : Hp} {B : Box} {a : Addr} {fp : List Addr} (h : BoxAt A K H B a fp) (s : Same H H') : BoxAt A K H' B a fp :=
  h.kept (N := fun _ => False) (fun c o e _ => s c o e) (fun _ _ z => z.elim) fun _ _ z => z
/-- the box itself is of its footprint -/
theorem BoxAt.mem {H : Hp} {B : Box} {a : Addr} {fp : List Addr} (h : BoxAt A K H B a fp) : a ∈ fp := by
  cases B with
  | leaf c => obtain ⟨ca, rfl, _⟩ := h; simp
  | fb t b u => obtain ⟨dx, rfl, _⟩ := h; simp
  | four ns st told x => obtain ⟨dx, p, tx, fx, rfl, _⟩ := h; simp
  | fourR t b u => obtain ⟨dx, p, tx, st, told', r, dr, rfl, _⟩ := h; simp
  | eight ns i j told x y => obtain ⟨dx, p, t, l, tx, ty, fx, fy, rfl, _⟩ := h; simp
  | eightR r => obtain ⟨dx, p, t, l, told, b, fr, rfl, _⟩ := h; simp
theorem allFit_ns {ns : List Int} {cs : List (Int × Int)} (h : allFit ns cs = true) : (∀ z ∈ ns, fits z) ∧ ∀ c ∈ cs, fits c.1 ∧ fits c.2 := by
  unfold allFit at h
  rw [Bool.and_eq_true, List.all_eq_true, List.all_eq_true] at h
  refine ⟨fun z hz => of_decide_eq_true (h.1 z hz), fun c hc => ?_⟩
  have := h.2 c hc
  rw [Bool.and_eq_true] at this
  exact ⟨of_decide_eq_true this.1, of_decide_eq_true this.2⟩
theorem surePart_fits {cs : List (Int × Int)} {q : Int} (h : surePart cs = some q) (hf : ∀ c ∈ cs, fits c.1 ∧ fits c.2) (hc : 0 < cs.length) : fits q := by
  have hfd : ∀ d ∈ flipped cs, fits d.1 ∧ fits d.2 := by
    unfold flipped
    split
    · intro d hd
      obtain ⟨c, hc, rfl⟩ := List.mem_map.mp hd
      exact ⟨fits_neg (hf c hc).1, fits_neg (hf c hc).2⟩
    · exact hf
  have hlen : 0 < (flipped cs).length := by
    unfold flipped
    split
    · rw [List.length_map]; exact hc
    · exact hc
  unfold surePart at h
  simp only at h
  generalize flipped cs = ds at *
  match ds, hlen with
  | d0 :: dr, _ =>
    rw [List.getD_cons_zero] at h
    split at h
    · rename_i hp
      split at h
      · cases h
        have p0 : 0 < d0.2 := of_decide_eq_true (List.all_eq_true.mp hp d0 List.mem_cons_self)
        exact Nat.lt_of_le_of_lt (fdiv_abs (by omega)) (hfd d0 List.mem_cons_self).1
      · cases h
    · cases h
theorem turnedOver_len {ns : List Int} {q : Int} {h : Nat} (e : ns.length = 2 * h) : (turnedOver ns q).length = ns.length := by
  unfold turnedOver
  rw [List.length_append, List.length_drop, List.length_zipWith, List.length_take, List.length_drop]
  omega
theorem oneBox_ok {ns : List Int} {told : Bool} {x : Box} (hl : ns.length = 4) (hx : x.Ok) (hk : x.kind ≠ 1) : (oneBox ns told x).Ok ∧ (oneBox ns told x).wt ≤ x.wt + 1 ∧ ((oneBox ns told x).kind = 1 ∨ (oneBox ns told x).kind = 2) := by
  unfold oneBox
  split
  · exact ⟨⟨hl, hx, hk⟩, Nat.le_refl _, .inr rfl⟩
  · split
    · exact ⟨trivial, Nat.zero_le _, .inl rfl⟩
    · exact ⟨trivial, Nat.zero_le _, .inl rfl⟩
theorem askF_ok : ∀ {n : Nat} {B : Box} {l : Int} {o : Option Ans} {B' : Box} {l' : Int}, B.Ok → askF n B l = some (o, B', l') → B'.Ok ∧ B'.wt ≤ B.wt ∧ B'.kind = B.kind
  | 0, B, l, o, B', l', _, e => by cases B <;> cases e
  | n + 1, .leaf c, l, o, B', l', ok, e => by
    cases e
    exact ⟨Chain.Ok.then_ (ch := c) ok l, Nat.le_refl _, rfl⟩
  | n + 1, .fb t b told, l, o, B', l', ok, e => by
    simp only [askF, Option.map_eq_some_iff] at e
    obtain ⟨r, _, e⟩ := e
    cases e
    exact ⟨trivial, Nat.le_refl _, rfl⟩
  | n + 1, .fourR t b told, l, o, B', l', ok, e => by
    simp only [askF, Option.map_eq_some_iff] at e
    obtain ⟨r, _, e⟩ := e
    cases e
    exact ⟨trivial, Nat.le_refl _, rfl⟩
  | n + 1, .four ns st told x, l, o, B', l', ok, e => by
    obtain ⟨hl, hx, hk⟩ := ok
    simp only [askF] at e
    split at e
    · split at e
      · cases e
        exact ⟨⟨(turnedOver_len (h := 2) hl).trans hl, hx, hk⟩, Nat.le_refl _, rfl⟩
      · split at e
        · cases e
        · rename_i x' l1 ex
          cases e
          obtain ⟨a1, a2, a3⟩ := askF_ok hx ex
          exact ⟨⟨hl, a1, a3 ▸ hk⟩, Nat.succ_le_succ a2, rfl⟩
        · rename_i x' l1 ex
          cases e
          obtain ⟨a1, a2, a3⟩ := askF_ok hx ex
          exact ⟨⟨hl, a1, a3 ▸ hk⟩, Nat.succ_le_succ a2, rfl⟩
        · obtain ⟨a1, a2, a3⟩ := askF_ok (B := .fourR _ _ _) trivial e
          exact ⟨a1, Nat.le_trans a2 (Nat.succ_le_succ (Nat.zero_le _)), a3⟩
        · rename_i q x' l1 ex
          split at e
          · obtain ⟨a1, a2, a3⟩ := askF_ok hx ex
            obtain ⟨b1, b2, b3⟩ := askF_ok (B := .four (withOne ns q) true told x') ⟨rfl, a1, a3 ▸ hk⟩ e
            exact ⟨b1, Nat.le_trans b2 (Nat.succ_le_succ a2), b3⟩
          · cases e
    · cases e
  | n + 1, .eight ns i j told x y, l, o, B', l', ok, e => by
    obtain ⟨hl, hx, hy, hkx, hky, hi, hj⟩ := ok
    simp only [askF] at e
    have wx : x.wt ≤ max x.wt y.wt := Nat.le_max_left _ _
    have wy : y.wt ≤ max x.wt y.wt := Nat.le_max_right _ _
    split at e
    · split at e
      · cases e
        exact ⟨⟨(turnedOver_len (h := 4) hl).trans hl, hx, hy, hkx, hky, hi, hj⟩, Nat.le_refl _, rfl⟩
      · split at e
        · split at e
          · cases e
          · rename_i x' l1 ex
            cases e
            obtain ⟨a1, a2, a3⟩ := askF_ok hx ex
            exact ⟨⟨hl, a1, hy, a3 ▸ hkx, hky, hi, hj⟩, (by show max _ _ + 3 ≤ max _ _ + 3; omega), rfl⟩
          · rename_i x' l1 ex
            cases e
            obtain ⟨a1, a2, a3⟩ := askF_ok hx ex
            exact ⟨⟨hl, a1, hy, a3 ▸ hkx, hky, hi, hj⟩, (by show max _ _ + 3 ≤ max _ _ + 3; omega), rfl⟩
          · have z := oneBox_ok (ns := leftOf ns 0) (told := told) rfl hy hky
            obtain ⟨b1, b2, b3⟩ := askF_ok (B := .eightR (oneBox (leftOf ns 0) told y)) ⟨z.1, z.2.2⟩ e
            exact ⟨b1, Nat.le_trans b2 (by show _ + 2 ≤ max _ _ + 3; have := z.2.1; omega), b3⟩
          · rename_i q x' l1 ex
            split at e
            · obtain ⟨a1, a2, a3⟩ := askF_ok hx ex
              obtain ⟨b1, b2, b3⟩ := askF_ok (B := .eight (withFirst ns q) (i + 1) j told x' y) ⟨rfl, a1, hy, a3 ▸ hkx, hky, by omega, hj⟩ e
              exact ⟨b1, Nat.le_trans b2 (by show max _ _ + 3 ≤ max _ _ + 3; omega), b3⟩
            · cases e
        · split at e
          · cases e
          · rename_i x' l1 ex
            cases e
            obtain ⟨a1, a2, a3⟩ := askF_ok hy ex
            exact ⟨⟨hl, hx, a1, hkx, a3 ▸ hky, hi, hj⟩, (by show max _ _ + 3 ≤ max _ _ + 3; omega), rfl⟩
          · rename_i x' l1 ex
            cases e
            obtain ⟨a1, a2, a3⟩ := askF_ok hy ex
            exact ⟨⟨hl, hx, a1, hkx, a3 ▸ hky, hi, hj⟩, (by show max _ _ + 3 ≤ max _ _ + 3; omega), rfl⟩
          · have z := oneBox_ok (ns := leftOf ns 1) (told := told) rfl hx hkx
            obtain ⟨b1, b2, b3⟩ := askF_ok (B := .eightR (oneBox (leftOf ns 1) told x)) ⟨z.1, z.2.2⟩ e
            exact ⟨b1, Nat.le_trans b2 (by show _ + 2 ≤ max _ _ + 3; have := z.2.1; omega), b3⟩
          · rename_i q x' l1 ex
            split at e
            · obtain ⟨a1, a2, a3⟩ := askF_ok hy ex
              obtain ⟨b1, b2, b3⟩ := askF_ok (B := .eight (withSecond ns q) i (j + 1) told x x') ⟨rfl, hx, a1, hkx, a3 ▸ hky, hi, by omega⟩ e
              exact ⟨b1, Nat.le_trans b2 (by show max _ _ + 3 ≤ max _ _ + 3; omega), b3⟩
            · cases e
    · cases e
  | n + 1, .eightR r, l, o, B', l', ok, e => by
    simp only [askF, Option.map_eq_some_iff] at e
    obtain ⟨⟨o1, r1, l1⟩, e1, e⟩ := e
    cases e
    obtain ⟨a1, a2, a3⟩ := askF_ok ok.1 e1
    exact ⟨⟨a1, by rw [a3]; exact ok.2⟩, Nat.add_le_add_right a2 2, rfl⟩
end
/-! ### boxes, asked -/
/-- what follows of a box's asking, at a, with the meter at m: none: NoValue is raised -/
def FinB (A : Ad) (K : PySem.W.Frag) (Q : VK) (E : XK) (H : Hp) (a m : Addr) (fp : List Addr) (l s : Int) (o : Option Ans) (B' : Box) (l' : Int) : Prop :=
  ∀ (H' : Hp) (fp' : List Addr), BoxAt A K H' B' a fp' → MeterAt A H' m l' (s + (l - l')) → m ∉ fp' → (∀ c z, H c = some z → c ∉ fp → c ≠ m → H' c = some z) → (∀ c ∈ fp', c ∈ fp ∨ H c = none) →
    match o with
    | none => E (.ref A.c_NoValue) none H'
    | some an => ∀ v, an.At A H' v → Q v H'
theorem FinB.step {A : Ad} {K : PySem.W.Frag} {Q : VK} {E : XK} {H H1 : Hp} {a m : Addr} {fp fp1 : List Addr} {l s l1 s1 : Int} {o : Option Ans} {B' : Box} {l' : Int} (k : FinB A K Q E H a m fp l s o B' l')
    (fr : ∀ c z, H c = some z → c ∉ fp → c ≠ m → H1 c = some z) (sub : ∀ c ∈ fp1, c ∈ fp ∨ H c = none) (es : s1 + l1 = s + l) : FinB A K Q E H1 a m fp1 l1 s1 o B' l' := by
  intro H' fp' hB hm nm fr' sub'
  refine k H' fp' hB (by rw [show s + (l - l') = s1 + (l1 - l') by omega]; exact hm) nm (fun c z e hc hcm => fr' c z (fr c z e hc hcm) (fun q => ?_) hcm) (fun c hc => ?_)
  · rcases sub c q with q | q
    · exact hc q
    · rw [q] at e; cases e
  · rcases sub' c hc with q | q
    · exact sub c q
    · cases ec : H c with
      | none => exact .inr rfl
      | some z =>
        rcases Decidable.em (c ∈ fp) with q1 | q1
        · exact .inl q1
        · have := fr c z ec q1 (fun q2 => nm (q2 ▸ hc))
          rw [q] at this
          cases this
/-- a box of the class kd, no heavier than d, asked -/
def spB (A : Ad) (K : PySem.W.Frag) (kd d : Nat) : Sp := fun vs H Q E => ∃ (a m : Addr) (fp : List Addr) (B : Box) (l s : Int) (n : Nat) (o : Option Ans) (B' : Box) (l' : Int), vs = [.ref a, .ref m] ∧ BoxAt A K H B a fp ∧ B.Ok ∧ B.wt ≤ d ∧ B.kind = kd ∧ MeterAt A H m l s ∧ m ∉ fp ∧ askF n B l = some (o, B', l') ∧
  FinB A K Q E H a m fp l s o B' l'
section
variable {P : Program} {w : World} {K : PySem.W.Frag} {mg : Str → Option Value} {base : Heap} {A : Ad}
theorem ok_ask_leaf (T : CT K mg A) (D : DT K mg A) (d : Nat) : MOk P w K mg base CX0 2 A.c_Leaf "ask" ["self", "meter"] (spB A K 0 d) := by
  obtain ⟨cl, f, fd, F, M, B⟩ := ok_Leaf_ask (P := P) (w := w) (base := base) T D
  refine ⟨cl, f, fd, F.imp fun vs H Q E h => ?_, M, B⟩
  obtain ⟨a, m, fp, B, l, s, n, o, B', l', rfl, hB, ok, _, hk, hm, nm, e, k⟩ := h
  cases B with
  | leaf ch =>
    cases n with
    | zero => cases e
    | succ n =>
      cases e
      obtain ⟨ca, rfl, hL, ne⟩ := hB
      have n1 : m ≠ a := fun z => nm (by simp [z])
      have n2 : m ≠ ca := fun z => nm (by simp [z])
      refine ⟨a, ca, m, ch, l, s, rfl, hL, ok, hm, ne, n1.symm, n2.symm, fun v H' hl hm' ha kp => ?_⟩
      refine k H' [a, ca] ⟨ca, rfl, hl, ne⟩ (by rw [show s + (l - (l - ch.took l)) = s + ch.took l by omega]; exact hm') nm (fun c o e hc hcm => kp c o e (fun z => hc (by simp [z])) hcm) (fun c hc => .inl hc) v ha
  | fb t b u => cases hk
  | four ns st told x => cases hk
  | fourR t b u => cases hk
  | eight ns i j told x y => cases hk
  | eightR r => cases hk
theorem fb_sub (T : CT K mg A) {t b : Int} {told : Bool} {r : Option Ans × Int × Int × Bool} {a dx m : Addr} {H : Hp} {Q : VK} {E : XK} (e : fbAsk t b told = some r) (ha : H a = some (.ins A.c_FractionBox dx (fbF t b told)))
    (k : ∀ H', H' a = some (.ins A.c_FractionBox dx (fbF r.2.1 r.2.2.1 r.2.2.2)) → (∀ c o, H c = some o → c ≠ a → H' c = some o) → match r.1 with
      | none => E (.ref A.c_NoValue) none H'
      | some an => ∀ v, an.At A H' v → Q v H') : sp_fb A K [.ref a, .ref m] H Q E := by
  unfold fbAsk at e
  split at e
  · rename_i hf
    refine ⟨a, dx, _, t, b, told, rfl, ha, hf.1, hf.2, fun hb ht => ?_, fun hb ht => ?_, fun hb v H' hv hA kp => ?_⟩
    · rw [if_pos hb, if_pos ht] at e
      cases e
      exact k H ha (fun c o e _ => e) _ rfl
    · rw [if_pos hb, if_neg (by rw [ht]; decide)] at e
      cases e
      exact k H ha (fun c o e _ => e)
    · rw [if_neg hb] at e
      cases e
      exact k H' hA kp _ ⟨_, rfl, hv⟩
  · cases e
theorem ok_ask_fb (T : CT K mg A) (D : DT K mg A) (d : Nat) : MOk P w K mg base (L2.CX P w) 2 A.c_FractionBox "ask" ["self", "meter"] (spB A K 1 d) := by
  obtain ⟨cl, f, fd, F, M, B⟩ := ok_FractionBox_ask (P := P) (w := w) (base := base) T D
  refine ⟨cl, f, fd, F.imp fun vs H Q E h => ?_, M, B⟩
  obtain ⟨a, m, fp, B, l, s, n, o, B', l', rfl, hB, ok, _, hk, hm, nm, e, k⟩ := h
  cases B with
  | fb t b told =>
    cases n with
    | zero => cases e
    | succ n =>
      simp only [askF, Option.map_eq_some_iff] at e
      obtain ⟨r, er, e⟩ := e
      cases e
      obtain ⟨dx, rfl, ha⟩ := hB
      obtain ⟨dm, em⟩ := hm
      have nma : m ≠ a := fun z => nm (by simp [z])
      refine fb_sub T er ha fun H' hA kp => ?_
      exact k H' [a] ⟨dx, rfl, hA⟩ ⟨dm, by rw [show s + (l - l) = s by omega]; exact kp _ _ em nma⟩ nm (fun c o e hc _ => kp c o e (fun z => hc (by simp [z]))) (fun c hc => .inl hc)
  | leaf ch => cases hk
  | four ns st told x => cases hk
  | fourR t b u => cases hk
  | eight ns i j told x y => cases hk
  | eightR r => cases hk
theorem Box.kinds (B : Box) : B.kind = 0 ∨ B.kind = 1 ∨ B.kind = 2 ∨ B.kind = 3 := by
  cases B <;> simp [Box.kind]
theorem BoxAt.cls {H : Hp} {B : Box} {a : Addr} {fp : List Addr} (h : BoxAt A K H B a fp) : ∃ C dx fs, H a = some (.ins C dx fs) ∧ fs.lookup ("ask" : Str) = none ∧ (B.kind = 0 → C = A.c_Leaf) ∧ (B.kind = 1 → C = A.c_FractionBox) ∧ (B.kind = 2 → C = A.c_FourBox) ∧ (B.kind = 3 → C = A.c_EightBox) := by
  cases B with
  | leaf c => obtain ⟨ca, rfl, ⟨⟨dx, e⟩, _⟩, _⟩ := h; exact ⟨_, _, _, e, rfl, fun _ => rfl, fun z => (by cases z), fun z => (by cases z), fun z => (by cases z)⟩
  | fb t b u => obtain ⟨dx, rfl, e⟩ := h; exact ⟨_, _, _, e, rfl, fun z => (by cases z), fun _ => rfl, fun z => (by cases z), fun z => (by cases z)⟩
  | four ns st told x => obtain ⟨dx, p, tx, fx, rfl, e, _⟩ := h; exact ⟨_, _, _, e, rfl, fun z => (by cases z), fun z => (by cases z), fun _ => rfl, fun z => (by cases z)⟩
  | fourR t b u => obtain ⟨dx, p, tx, st, told', r, dr, rfl, e, _⟩ := h; exact ⟨_, _, _, e, rfl, fun z => (by cases z), fun z => (by cases z), fun _ => rfl, fun z => (by cases z)⟩
  | eight ns i j told x y => obtain ⟨dx, p, t, l, tx, ty, fx, fy, rfl, e, _⟩ := h; exact ⟨_, _, _, e, rfl, fun z => (by cases z), fun z => (by cases z), fun z => (by cases z), fun _ => rfl⟩
  | eightR r => obtain ⟨dx, p, t, l, told, b, fr, rfl, e, _⟩ := h; exact ⟨_, _, _, e, rfl, fun z => (by cases z), fun z => (by cases z), fun z => (by cases z), fun _ => rfl⟩
theorem leaf_some {n : Nat} {B B' : Box} {l l' : Int} (hk : B.kind = 0) (e : askF n B l = some (none, B', l')) : False := by
  cases B <;> cases hk
  cases n with
  | zero => cases e
  | succ n => cases e
/-- a tree within, asked: by its class -/
theorem ask_any {σ : St} {H : Hp} {to : TE} {ta : TA} {Q : VK} {E : XK} {d : Nat} {tx m : Addr} {fx : List Addr} {x x' : Box} {l s l' : Int} {n : Nat} {o : Option Ans} (hto : ∀ R : VK, R (.ref tx) H → to σ H R) (hta : ∀ R : List V → Hp → Prop, R [.ref m] H → ta σ H R)
    (hB : BoxAt A K H x tx fx) (ok : x.Ok) (hw : x.wt ≤ d) (hk : x.kind ≠ 1) (hm : MeterAt A H m l s) (nm : m ∉ fx) (e : askF n x l = some (o, x', l')) (k : FinB A K Q E H tx m fx l s o x' l') :
    tMeth A.c_Leaf "ask" (spB A K 0 d) [] E0 to ta σ H Q ∨ tMeth A.c_FourBox "ask" (spB A K 2 d) [] E to ta σ H Q ∨ tMeth A.c_EightBox "ask" (spB A K 3 d) [] E to ta σ H Q := by
  obtain ⟨C, dx, fs, ec, hl, c0, c1, c2, c3⟩ := hB.cls
  rcases x.kinds with z | z | z | z
  · refine .inl (hto _ ⟨tx, dx, fs, rfl, by rw [← c0 z]; exact ec, hl, hta _ ⟨tx, m, fx, x, l, s, n, o, x', l', rfl, hB, ok, hw, z, hm, nm, e, ?_⟩⟩)
    cases o with
    | none => exact (leaf_some z e).elim
    | some an => exact k
  · exact absurd z hk
  · exact .inr (.inl (hto _ ⟨tx, dx, fs, rfl, by rw [← c2 z]; exact ec, hl, hta _ ⟨tx, m, fx, x, l, s, n, o, x', l', rfl, hB, ok, hw, z, hm, nm, e, k⟩⟩))
  · exact .inr (.inr (hto _ ⟨tx, dx, fs, rfl, by rw [← c3 z]; exact ec, hl, hta _ ⟨tx, m, fx, x, l, s, n, o, x', l', rfl, hB, ok, hw, z, hm, nm, e, k⟩⟩))
theorem ok_ask_four {d : Nat} (T : CT K mg A) (D : DT K mg A) (M_four : MOk P w K mg base (L2.CX P w) (6 + d) A.c_FourBox "ask" ["self", "meter"] (spB A K 2 d)) (M_eight : MOk P w K mg base (L2.CX P w) (6 + d) A.c_EightBox "ask" ["self", "meter"] (spB A K 3 d)) :
    MOk P w K mg base (L2.CX P w) (6 + (d + 1)) A.c_FourBox "ask" ["self", "meter"] (spB A K 2 (d + 1)) := by
  have M_leaf := ok_ask_leaf (P := P) (w := w) (base := base) T D d
  have M_fb := ok_FractionBox_ask (P := P) (w := w) (base := base) T D
  have M_tell := ok_FourBox_tell (P := P) (w := w) (base := base) T D
  have M_take := ok_FourBox_take (P := P) (w := w) (base := base) T D
  have G_sure_part := ok_sure_part (P := P) (w := w) (base := base) T D
  have G_four_corners := ok_four_corners (P := P) (w := w) (base := base) T D
  refine MOk.of T.cl_FourBox D.FourBox_ask fun f fd F => ?_
  refine F.okX (k := 6 + d) sc_FourBox_ask (fun vs H Q E h => ?_) (fun cdv Ar outer s H vs Q E hr h => ?_)
  · obtain ⟨a, m, fp, B, l, s, n, o, B', l', rfl, _⟩ := h
    rfl
  · obtain ⟨a, m, fp, B, l, sp, n, o, B', l', rfl, hB, ok, hw, hk, hm, nm, e, k⟩ := h
    refine ⟨_, (pss_cons (ps_while (passes_of rfl) (pt_cmpR op_isN (pe_fld (pv 0) rfl) pe_non (nomark _))
      (C8.pss_cut (ps_set (i := 2) sc_FourBox_ask.nd rfl (Or.inl rfl) (pe_ifExp (pt_val (pe_fld (pv 0) rfl)) (pe_c G_sure_part (hr.mono (by first | decide | omega)) (pa_cons (pe_c G_four_corners (hr.mono (by first | decide | omega)) (pa_cons (pe_fld (pv 0) rfl) pa_nil)) pa_nil)) pe_non))
    (pss_cons (ps_if (pt_cmpR op_notN (pv 2) pe_non (nomark _))
      (pss_one (ps_ret (pe_m M_tell (hr.mono (by first | decide | omega)) (pv 0) (pa_cons (pv 2) pa_nil)))) pss_nil)
    (pss_cons (ps_set (i := 3) sc_FourBox_ask.nd rfl (Or.inl rfl) ((pe_alt (pe_m M_leaf (hr.mono (by first | decide | omega)) (pe_fld (pv 0) rfl) (pa_cons (pv 1) pa_nil)) (pe_alt (pe_mX M_four (hr.mono (by first | decide | omega)) (passes_tk (takes_of rfl rfl rfl rfl)) (pe_fld (pv 0) rfl) (pa_cons (pv 1) pa_nil)) (pe_mX M_eight (hr.mono (by first | decide | omega)) (passes_tk (takes_of rfl rfl rfl rfl)) (pe_fld (pv 0) rfl) (pa_cons (pv 1) pa_nil))))))
    (pss_cons (ps_if (pt_cmpR (op_eqD hr.units) (pv 3) (pe_glob (v := .ref A.k_WAITS) (by rfl) T.g_WAITS rfl) (nomark _))
      (pss_one (ps_ret (pv 3))) pss_nil)
    (pss_one (ps_expr (pe_m M_take (hr.mono (by first | decide | omega)) (pv 0) (pa_cons (pv 3) pa_nil)))))))))
    (pss_one (ps_ret (pe_mX M_fb (hr.mono (by first | decide | omega)) (passes_tk (takes_of rfl rfl rfl rfl)) (pe_fld (pv 0) rfl) (pa_cons (pv 1) pa_nil))))), ?_⟩
    have cl := T.cl_FourBox
    refine ⟨fun n1 σ H1 => ∃ v2 v3 fp1 B1 l1 s1, σ = [some (V.ref a), some (V.ref m), v2, v3] ∧ BoxAt A K H1 B1 a fp1 ∧ B1.Ok ∧ B1.wt ≤ d + 1 ∧ B1.kind = 2 ∧ MeterAt A H1 m l1 s1 ∧ m ∉ fp1 ∧ askF n1 B1 l1 = some (o, B', l') ∧ FinB A K Q E H1 a m fp1 l1 s1 o B' l',
      ⟨n, none, none, fp, B, l, sp, rfl, hB, ok, hw, hk, hm, nm, e, k⟩, ?_⟩
    rintro n1 σ H1 ⟨v2, v3, fp1, B1, l1, s1, rfl, hB1, ok1, hw1, hk1, hm1, nm1, e1, k1⟩
    cases B1 with
    | leaf c => cases hk1
    | fb t b u => cases hk1
    | eight ns i j told x y => cases hk1
    | eightR r => cases hk1
    | fourR t b told =>
      obtain ⟨dx, p, tx, st, told', r, dr, rfl, ea, er, ne⟩ := hB1
      obtain ⟨dm, em⟩ := hm1
      refine ⟨_, rfl, a, _, dx, _, _, rfl, ea, cl, T.n_FourBox_rest, rfl, rfl, _, rfl, ite2 (fun c => ?_) (fun c => ?_)⟩
      · exact absurd (of_decide_eq_true c) (by intro z; cases z)
      · cases n1 with
        | zero => cases e1
        | succ n1 =>
          simp only [askF, Option.map_eq_some_iff] at e1
          obtain ⟨z, ez, e1⟩ := e1
          cases e1
          have nma : m ≠ a := fun z => nm1 (by simp [z])
          have nmr : m ≠ r := fun z => nm1 (by simp [z])
          refine ⟨_, rfl, a, _, dx, _, _, rfl, ea, cl, T.n_FourBox_rest, rfl, r, dr, _, rfl, er, rfl, _, rfl, fb_sub T ez er fun H' hA kp => ?_⟩
          exact k1 H' [a, r] ⟨dx, p, tx, st, told', r, dr, rfl, kp _ _ ea ne, hA, ne⟩ ⟨dm, by rw [Int.sub_self, Int.add_zero]; exact kp _ _ em nmr⟩ nm1 (fun c o e hc _ => kp c o e (fun z => hc (by simp [z]))) (fun c hc => .inl hc)
    | four ns st told x =>
      obtain ⟨dx, p, tx, fx, rfl, ea, hp, hx, na⟩ := hB1
      obtain ⟨hl4, okx, kx⟩ := ok1
      refine ⟨_, rfl, a, _, dx, _, _, rfl, ea, cl, T.n_FourBox_rest, rfl, rfl, _, rfl, ite2 (fun c => ?_) (fun c => absurd (decide_eq_true rfl) c)⟩
      cases n1 with
      | zero => cases e1
      | succ n1 =>
      simp only [askF] at e1
      split at e1
      case isFalse => cases e1
      rename_i hfit
      obtain ⟨hf, hcf⟩ := allFit_ns hfit
      refine ⟨_, fun σ' H' z => z, fun σ' H' => ∃ pv, σ' = [some (V.ref a), some (V.ref m), some pv, v3] ∧ Same H1 H' ∧ pv = (match (if st = true then surePart (fourCorners ns) else none) with | some q => V.int q | none => V.non), ?_, ?_⟩
      · refine ⟨_, rfl, a, _, dx, _, _, rfl, ea, cl, T.n_FourBox_started, rfl, st, rfl, ?_⟩
        cases st with
        | true => exact ⟨_, rfl, a, _, dx, _, _, rfl, ea, cl, T.n_FourBox_numbers, rfl, p, ns, rfl, hp, hl4, fun L H2 hc s2 => ⟨L, fourCorners ns, rfl, hc, (by show 0 < 2; decide), (by show 2 ≤ 4; decide), hcf, fun H3 s3 => ⟨_, rfl, s2.trans s3, rfl⟩⟩⟩
        | false => exact ⟨_, rfl, Same.refl H1, rfl⟩
      · rintro σ' H3 ⟨pv, rfl, s3, rfl⟩
        have ea3 := s3 _ _ ea
        have hp3 := sqT_same hp s3
        have hx3 := hx.same s3
        obtain ⟨dm, em⟩ := hm1
        have em3 := s3 _ _ em
        have nma : m ≠ a := fun z => nm1 (by simp [z])
        have nmx : m ∉ fx := fun z => nm1 (by simp [z])
        have k3 : FinB A K Q E H3 a m (a :: fx) l1 s1 o B' l' := k1.step (fun c z e _ _ => s3 c z e) (fun c hc => .inl hc) rfl
        cases es : (if st = true then surePart (fourCorners ns) else none) with
        | some q =>
          rw [es] at e1
          cases e1
          have fq : fits q := by
            cases st with
            | true => exact surePart_fits es hcf (by show 0 < 2; decide)
            | false => cases es
          refine ⟨_, rfl, rfl, _, rfl, ite2 (fun _ => ?_) (fun c => absurd rfl c)⟩
          refine ⟨_, rfl, a, dx, _, rfl, ea3, rfl, _, rfl, a, dx, p, tx, ns, st, told, q, rfl, ea3, hp3, hl4, hf, fq, fun r p' H4 hr4 ha4 hp4 kp => ?_⟩
          have hx4 := hx3.kept (N := fun c => c = a) (fun c o e n => kp c o e n) (fun c o e z => by subst e; rw [ea3] at z; exact ins_no (Option.some.inj z).symm) (fun c hc z => na (z ▸ hc))
          exact k3 H4 (a :: fx) ⟨dx, p', tx, fx, rfl, ha4, hp4, hx4, na⟩ ⟨dm, by rw [Int.sub_self, Int.add_zero]; exact kp _ _ em3 nma⟩ nm1 (fun c o e hc _ => kp c o e (fun z => hc (by simp [z]))) (fun c hc => .inl hc) _ ⟨r, rfl, hr4⟩
        | none =>
          rw [es] at e1
          simp only at e1
          refine ⟨_, rfl, rfl, _, rfl, ite2 (fun c => absurd c (by decide)) (fun _ => ?_)⟩
          cases ex : askF n1 x l1 with
          | none => rw [ex] at e1; cases e1
          | some z =>
            obtain ⟨ox, x', l2⟩ := z
            rw [ex] at e1
            obtain ⟨okx', wx', kx'⟩ := askF_ok okx ex
            refine ask_any (tx := tx) (m := m) (fx := fx) (x := x) (l := l1) (s := s1) (n := n1) (fun R h => ⟨_, rfl, a, _, dx, _, _, rfl, ea3, cl, T.n_FourBox_tree, rfl, h⟩) (fun R h => ⟨_, rfl, h⟩) hx3 okx (by show x.wt ≤ d; exact Nat.le_of_succ_le_succ hw1) kx ⟨dm, em3⟩ nmx ex fun H4 fx' hx4 hm4 nm4 fr4 sub4 => ?_
            have ea4 := fr4 _ _ ea3 na nma.symm
            have hp4 : SqT K H4 p (ns.map V.int) := sqT_but (N := fun c => c ∈ fx ∨ c = m) hp3 (fun c o e n => fr4 c o e (fun z => n (.inl z)) (fun z => n (.inr z))) fun c o z e => by
              rcases z with z | rfl
              · exact (hx3.soft c z).no e
              · rw [em3] at e; exact ins_no (Option.some.inj e).symm
            have na4 : a ∉ fx' := fun z => by
              rcases sub4 a z with q | q
              · exact na q
              · rw [ea3] at q; cases q
            have nm5 : m ∉ a :: fx' := fun z => by
              rcases List.mem_cons.mp z with q | q
              · exact nma q
              · exact nm4 q
            have fr5 : ∀ c z, H3 c = some z → c ∉ a :: fx → c ≠ m → H4 c = some z := fun c z e hc hcm => fr4 c z e (fun q => hc (List.mem_cons_of_mem _ q)) hcm
            have sub5 : ∀ c ∈ a :: fx', c ∈ a :: fx ∨ H3 c = none := fun c hc => by
              rcases List.mem_cons.mp hc with rfl | hc
              · exact .inl List.mem_cons_self
              · rcases sub4 c hc with q | q
                · exact .inl (List.mem_cons_of_mem _ q)
                · exact .inr q
            cases ox with
            | none =>
              cases e1
              exact k3 H4 (a :: fx') ⟨dx, p, tx, fx', rfl, ea4, hp4, hx4, na4⟩ hm4 nm5 fr5 sub5
            | some an =>
              intro v hv
              obtain ⟨pv', rfl, hpv⟩ := hv.tup T
              have hW : SqT K H4 A.k_WAITS Ans.waits.vals := T.t_WAITS H4
              refine ⟨_, rfl, _, _, an.dp hpv, Ans.waits.dp hW, an.shaped, Ans.waits.shaped, _, rfl, ?_⟩
              rw [eqv_waits]
              cases an with
              | waits =>
                cases e1
                exact iteT ⟨_, rfl, k3 H4 (a :: fx') ⟨dx, p, tx, fx', rfl, ea4, hp4, hx4, na4⟩ hm4 nm5 fr5 sub5 _ hv⟩
              | fin =>
                simp only at e1
                refine iteF ⟨_, rfl, a, dx, _, rfl, ea4, rfl, _, rfl, a, dx, p, tx, ns, st, told, _, .fin, rfl, hv, ea4, hp4, hl4, hf, fun r dr H5 ha5 hr5 nr5 kp5 => ?_⟩
                have nar : a ≠ r := ne_of_none ea4 nr5
                obtain ⟨dm4, em4⟩ := hm4
                have nmr : m ≠ r := ne_of_none em4 nr5
                refine ⟨n1, Nat.lt_succ_self _, _, _, [a, r], .fourR (ns.getD 0 0) (ns.getD 2 0) told, l2, s1 + (l1 - l2), rfl, ⟨dx, p, tx, st, told, r, dr, rfl, ha5, hr5, nar⟩, trivial, (by show 1 ≤ d + 1; omega), rfl, ⟨dm4, kp5 _ _ em4 nma⟩, ?_, e1, ?_⟩
                · intro z
                  simp only [List.mem_cons, List.not_mem_nil, or_false] at z
                  rcases z with z | z
                  · exact nma z
                  · exact nmr z
                · refine k3.step (fun c z e hc hcm => ?_) (fun c hc => ?_) (by omega)
                  · exact kp5 c z (fr5 c z e hc hcm) (fun q => hc (q ▸ List.mem_cons_self))
                  · simp only [List.mem_cons, List.not_mem_nil, or_false] at hc
                    rcases hc with rfl | rfl
                    · exact .inl List.mem_cons_self
                    · cases q : H3 c with
                      | none => exact .inr rfl
                      | some z =>
                        rcases Decidable.em (c ∈ a :: fx) with q1 | q1
                        · exact .inl q1
                        · have := fr5 c z q q1 nmr.symm
                          rw [nr5] at this
                          cases this
              | part q =>
                simp only at e1
                split at e1
                case isFalse => cases e1
                rename_i fq
                refine iteF ⟨_, rfl, a, dx, _, rfl, ea4, rfl, _, rfl, a, dx, p, tx, ns, st, told, _, .part q, rfl, hv, ea4, hp4, hl4, hf, fq, fun p' H5 ha5 hp5 kp5 => ?_⟩
                obtain ⟨dm4, em4⟩ := hm4
                have hx5 := hx4.kept (N := fun c => c = a) (fun c o e n => kp5 c o e n) (fun c o e z => by subst e; rw [ea4] at z; exact ins_no (Option.some.inj z).symm) (fun c hc z => na4 (z ▸ hc))
                refine ⟨n1, Nat.lt_succ_self _, _, _, a :: fx', .four (withOne ns q) true told x', l2, s1 + (l1 - l2), rfl, ⟨dx, p', tx, fx', rfl, ha5, hp5, hx5, na4⟩, ⟨rfl, okx', kx' ▸ kx⟩, (by show x'.wt + 1 ≤ d + 1; exact Nat.succ_le_succ (Nat.le_trans wx' (Nat.le_of_succ_le_succ hw1))), rfl, ⟨dm4, kp5 _ _ em4 nma⟩, nm5, e1, ?_⟩
                exact k3.step (fun c z e hc hcm => kp5 c z (fr5 c z e hc hcm) (fun q => hc (q ▸ List.mem_cons_self))) sub5 (by omega)
end
/-! ### eights, asked -/
section
variable {P : Program} {w : World} {K : PySem.W.Frag} {mg : Str → Option Value} {base : Heap} {A : Ad}
theorem oneIs_at {H : Hp} {p z r dr C : Addr} {ns : List Int} {told : Bool} {fs : Flds} {x : Box} {fx : List Addr} (one : OneIs A p z ns told C fs) (hr : H r = some (.ins C dr fs)) (hp : SqT K H p (ns.map V.int)) (hx : BoxAt A K H x z fx) (nr : r ∉ fx) :
    ∃ fr, BoxAt A K H (oneBox ns told x) r fr ∧ ∀ c ∈ fr, c = r ∨ c ∈ fx := by
  unfold oneBox
  rcases one with ⟨h1, rfl, rfl⟩ | ⟨h1, h2, rfl, rfl⟩ | ⟨h1, h2, rfl, rfl⟩
  · rw [if_pos h1]
    exact ⟨r :: fx, ⟨dr, p, z, fx, rfl, hr, hp, hx, nr⟩, fun c hc => List.mem_cons.mp hc⟩
  · rw [if_neg (fun q => q h1), if_pos h2]
    exact ⟨[r], ⟨dr, rfl, hr⟩, fun c hc => .inl (by simpa using hc)⟩
  · rw [if_neg (fun q => q h1), if_neg (fun q => q h2)]
    exact ⟨[r], ⟨dr, rfl, hr⟩, fun c hc => .inl (by simpa using hc)⟩
theorem ask_rest {σ : St} {H : Hp} {to : TE} {ta : TA} {Q : VK} {E : XK} {d : Nat} {tx m : Addr} {fx : List Addr} {x x' : Box} {l s l' : Int} {n : Nat} {o : Option Ans} (hto : ∀ R : VK, R (.ref tx) H → to σ H R) (hta : ∀ R : List V → Hp → Prop, R [.ref m] H → ta σ H R)
    (hB : BoxAt A K H x tx fx) (ok : x.Ok) (hw : x.wt ≤ d) (hk : x.kind = 1 ∨ x.kind = 2) (hm : MeterAt A H m l s) (nm : m ∉ fx) (e : askF n x l = some (o, x', l')) (k : FinB A K Q E H tx m fx l s o x' l') :
    tMeth A.c_FractionBox "ask" (spB A K 1 d) [] E to ta σ H Q ∨ tMeth A.c_FourBox "ask" (spB A K 2 d) [] E to ta σ H Q := by
  obtain ⟨C, dx, fs, ec, hl, c0, c1, c2, c3⟩ := hB.cls
  rcases hk with z | z
  · exact .inl (hto _ ⟨tx, dx, fs, rfl, by rw [← c1 z]; exact ec, hl, hta _ ⟨tx, m, fx, x, l, s, n, o, x', l', rfl, hB, ok, hw, z, hm, nm, e, k⟩⟩)
  · exact .inr (hto _ ⟨tx, dx, fs, rfl, by rw [← c2 z]; exact ec, hl, hta _ ⟨tx, m, fx, x, l, s, n, o, x', l', rfl, hB, ok, hw, z, hm, nm, e, k⟩⟩)
theorem ok_ask_eight {d : Nat} (T : CT K mg A) (D : DT K mg A) (M_four : MOk P w K mg base (L2.CX P w) (6 + (d + 1)) A.c_FourBox "ask" ["self", "meter"] (spB A K 2 (d + 1))) (M_eight : MOk P w K mg base (L2.CX P w) (6 + (d + 1)) A.c_EightBox "ask" ["self", "meter"] (spB A K 3 (d + 1))) :
    MOk P w K mg base (L2.CX P w) (6 + (d + 2)) A.c_EightBox "ask" ["self", "meter"] (spB A K 3 (d + 2)) := by
  have M_leaf := ok_ask_leaf (P := P) (w := w) (base := base) T D (d + 1)
  have M_fb := ok_ask_fb (P := P) (w := w) (base := base) T D (d + 1)
  have M_tell := ok_EightBox_tell (P := P) (w := w) (base := base) T D
  have M_take := ok_EightBox_take (P := P) (w := w) (base := base) T D
  have G_sure_part := ok_sure_part (P := P) (w := w) (base := base) T D
  have G_eight_corners := ok_eight_corners (P := P) (w := w) (base := base) T D
  refine MOk.of T.cl_EightBox D.EightBox_ask fun f fd F => ?_
  refine F.okX (k := 6 + (d + 1)) sc_EightBox_ask (fun vs H Q E h => ?_) (fun cdv Ar outer s H vs Q E hr h => ?_)
  · obtain ⟨a, m, fp, B, l, s, n, o, B', l', rfl, _⟩ := h
    rfl
  · obtain ⟨a, m, fp, B, l, sp, n, o, B', l', rfl, hB, ok, hw, hk, hm, nm, e, k⟩ := h
    refine ⟨_, (pss_cons (ps_while (passes_of rfl) (pt_cmpR op_isN (pe_fld (pv 0) rfl) pe_non (nomark _))
      (C8.pss_cut (ps_set (i := 2) sc_EightBox_ask.nd rfl (Or.inl rfl) (pe_ifExp (pt_cmpR op_gt (pe_callB (cr_min rfl) (by rfl) T.b_min (by decide +kernel) (pa_cons (pe_fld (pv 0) rfl) pa_nil)) pe_int (nomark _)) (pe_c G_sure_part (hr.mono (by first | decide | omega)) (pa_cons (pe_c G_eight_corners (hr.mono (by first | decide | omega)) (pa_cons (pe_fld (pv 0) rfl) pa_nil)) pa_nil)) pe_non))
    (pss_cons (ps_if (pt_cmpR op_notN (pv 2) pe_non (nomark _))
      (pss_one (ps_ret (pe_m M_tell (hr.mono (by first | decide | omega)) (pv 0) (pa_cons (pv 2) pa_nil)))) pss_nil)
    (C8.pss_cut (ps_set (i := 3) sc_EightBox_ask.nd rfl (Or.inl rfl) (pe_ifExp (pt_cmpR op_le (pe_ix ix_list (pe_fld (pv 0) rfl) pe_int (fun _ _ => rfl)) (pe_ix ix_list (pe_fld (pv 0) rfl) pe_int (fun _ _ => rfl)) (nomark _)) pe_int pe_int))
    (pss_cons (ps_set (i := 4) sc_EightBox_ask.nd rfl (Or.inl rfl) ((pe_alt (pe_m M_leaf (hr.mono (by first | decide | omega)) (pe_ix ix_tup (pe_fld (pv 0) rfl) (pv 3) (fun _ _ => rfl)) (pa_cons (pv 1) pa_nil)) (pe_alt (pe_mX M_four (hr.mono (by first | decide | omega)) (passes_tk (takes_of rfl rfl rfl rfl)) (pe_ix ix_tup (pe_fld (pv 0) rfl) (pv 3) (fun _ _ => rfl)) (pa_cons (pv 1) pa_nil)) (pe_mX M_eight (hr.mono (by first | decide | omega)) (passes_tk (takes_of rfl rfl rfl rfl)) (pe_ix ix_tup (pe_fld (pv 0) rfl) (pv 3) (fun _ _ => rfl)) (pa_cons (pv 1) pa_nil))))))
    (pss_cons (ps_if (pt_cmpR (op_eqD hr.units) (pv 4) (pe_glob (v := .ref A.k_WAITS) (by rfl) T.g_WAITS rfl) (nomark _))
      (pss_one (ps_ret (pv 4))) pss_nil)
    (pss_one (ps_expr (pe_m M_take (hr.mono (by first | decide | omega)) (pv 0) (pa_cons (pv 3) (pa_cons (pv 4) pa_nil)))))))))))
    (pss_one (ps_ret ((pe_alt (pe_mX M_fb (hr.mono (by first | decide | omega)) (passes_tk (takes_of rfl rfl rfl rfl)) (pe_fld (pv 0) rfl) (pa_cons (pv 1) pa_nil)) (pe_mX M_four (hr.mono (by first | decide | omega)) (passes_tk (takes_of rfl rfl rfl rfl)) (pe_fld (pv 0) rfl) (pa_cons (pv 1) pa_nil))))))), ?_⟩
    have cl := T.cl_EightBox
    refine ⟨fun n1 σ H1 => ∃ v2 v3 v4 fp1 B1 l1 s1, σ = [some (V.ref a), some (V.ref m), v2, v3, v4] ∧ BoxAt A K H1 B1 a fp1 ∧ B1.Ok ∧ B1.wt ≤ d + 2 ∧ B1.kind = 3 ∧ MeterAt A H1 m l1 s1 ∧ m ∉ fp1 ∧ askF n1 B1 l1 = some (o, B', l') ∧ FinB A K Q E H1 a m fp1 l1 s1 o B' l',
      ⟨n, none, none, none, fp, B, l, sp, rfl, hB, ok, hw, hk, hm, nm, e, k⟩, ?_⟩
    rintro n1 σ H1 ⟨v2, v3, v4, fp1, B1, l1, s1, rfl, hB1, ok1, hw1, hk1, hm1, nm1, e1, k1⟩
    cases B1 with
    | leaf c => cases hk1
    | fb t b u => cases hk1
    | four ns st told x => cases hk1
    | fourR t b told => cases hk1
    | eightR r =>
      obtain ⟨dx, p, t, L, told, b, fr, rfl, ea, hr1, na⟩ := hB1
      refine ⟨_, rfl, a, _, dx, _, _, rfl, ea, cl, T.n_EightBox_rest, rfl, rfl, _, rfl, ite2 (fun c => ?_) (fun c => ?_)⟩
      · exact absurd (of_decide_eq_true c) (by intro z; cases z)
      · cases n1 with
        | zero => cases e1
        | succ n1 =>
          simp only [askF, Option.map_eq_some_iff] at e1
          obtain ⟨⟨o1, r1, l2⟩, er, e1⟩ := e1
          cases e1
          have nma : m ≠ a := fun z => nm1 (by simp [z])
          have nmr : m ∉ fr := fun z => nm1 (by simp [z])
          refine ask_rest (tx := b) (m := m) (fx := fr) (x := r) (l := l1) (s := s1) (n := n1) (fun R h => ⟨_, rfl, a, _, dx, _, _, rfl, ea, cl, T.n_EightBox_rest, rfl, h⟩) (fun R h => ⟨_, rfl, h⟩) hr1 ok1.1 (by have : r.wt + 2 ≤ d + 2 := hw1; omega) ok1.2 hm1 nmr er fun H4 fr' hr4 hm4 nm4 fr4 sub4 => ?_
          have ea4 := fr4 _ _ ea na nma.symm
          refine k1 H4 (a :: fr') ⟨dx, p, t, L, told, b, fr', rfl, ea4, hr4, fun z => ?_⟩ hm4 (fun z => ?_) (fun c z e hc hcm => fr4 c z e (fun q => hc (List.mem_cons_of_mem _ q)) hcm) (fun c hc => ?_)
          · rcases sub4 a z with q | q
            · exact na q
            · rw [ea] at q; cases q
          · rcases List.mem_cons.mp z with q | q
            · exact nma q
            · exact nm4 q
          · rcases List.mem_cons.mp hc with rfl | hc
            · exact .inl List.mem_cons_self
            · rcases sub4 c hc with q | q
              · exact .inl (List.mem_cons_of_mem _ q)
              · exact .inr q
    | eight ns i j told x y =>
      obtain ⟨dx, p, t, L, tx, ty, fx, fy, rfl, ea, hp, ht, hL, hx, hy, na1, na2, nl1, nl2, dj0⟩ := hB1
      obtain ⟨hl8, okx, oky, kx, ky, hi, hj⟩ := ok1
      have hwE : max x.wt y.wt + 3 ≤ d + 2 := hw1
      have wx : x.wt ≤ d + 1 := by omega
      have wy : y.wt ≤ d + 1 := by omega
      refine ⟨_, rfl, a, _, dx, _, _, rfl, ea, cl, T.n_EightBox_rest, rfl, rfl, _, rfl, ite2 (fun c => ?_) (fun c => absurd (decide_eq_true rfl) c)⟩
      cases n1 with
      | zero => cases e1
      | succ n1 =>
      simp only [askF] at e1
      split at e1
      case isFalse => cases e1
      rename_i hfit
      obtain ⟨hf, hcf⟩ := allFit_ns hfit
      refine ⟨_, fun σ' H' z => z, fun σ' H' => ∃ pv, σ' = [some (V.ref a), some (V.ref m), some pv, v3, v4] ∧ Same H1 H' ∧ pv = (match (if 0 < i ∧ 0 < j then surePart (eightCorners ns) else none) with | some q => V.int q | none => V.non), ?_, ?_⟩
      · refine ⟨_, rfl, a, _, dx, _, _, rfl, ea, cl, T.n_EightBox_taken, rfl, L, [i, j], rfl, SqL.of hL, (by show 0 < 2; decide), fun mn hmn hmin => ⟨_, _, rfl, rfl, _, rfl, ite2 (fun c => ?_) (fun c => ?_)⟩⟩
        · have c' : mn > 0 := of_decide_eq_true c
          have h1 := hmin i (by simp)
          have h2 := hmin j (by simp)
          rw [if_pos (show 0 < i ∧ 0 < j by omega)]
          exact ⟨_, rfl, a, _, dx, _, _, rfl, ea, cl, T.n_EightBox_numbers, rfl, p, ns, rfl, hp, hl8, fun Lc H2 hc s2 => ⟨Lc, eightCorners ns, rfl, hc, (by show 0 < 4; decide), (by show 4 ≤ 4; decide), hcf, fun H3 s3 => ⟨_, rfl, s2.trans s3, rfl⟩⟩⟩
        · have c' : ¬ mn > 0 := fun z => c (decide_eq_true z)
          rw [if_neg (show ¬ (0 < i ∧ 0 < j) from fun z => by
            simp only [List.mem_cons, List.not_mem_nil, or_false] at hmn
            rcases hmn with rfl | rfl <;> omega)]
          exact ⟨_, rfl, Same.refl H1, rfl⟩
      · rintro σ' H3 ⟨pv, rfl, s3, rfl⟩
        have ea3 := s3 _ _ ea
        have hp3 := sqT_same hp s3
        have ht3 := sqT_same ht s3
        have hL3 := s3 _ _ hL
        have hx3 := hx.same s3
        have hy3 := hy.same s3
        obtain ⟨dm, em⟩ := hm1
        have em3 := s3 _ _ em
        have nma : m ≠ a := fun z => nm1 (by simp [z])
        have nml : m ≠ L := fun z => nm1 (by simp [z])
        have nmx : m ∉ fx := fun z => nm1 (by simp [z])
        have nmy : m ∉ fy := fun z => nm1 (by simp [z])
        have k3 : FinB A K Q E H3 a m (a :: L :: (fx ++ fy)) l1 s1 o B' l' := k1.step (fun c z e _ _ => s3 c z e) (fun c hc => .inl hc) rfl
        cases es : (if 0 < i ∧ 0 < j then surePart (eightCorners ns) else none) with
        | some q =>
          rw [es] at e1
          cases e1
          have fq : fits q := by
            split at es
            · exact surePart_fits es hcf (by show 0 < 4; decide)
            · cases es
          refine ⟨_, rfl, rfl, _, rfl, ite2 (fun _ => ?_) (fun c => absurd rfl c)⟩
          refine ⟨_, rfl, a, dx, _, rfl, ea3, rfl, _, rfl, a, dx, p, t, L, ns, told, q, rfl, ea3, hp3, hl8, hf, fq, fun r p' H4 hr4 ha4 hp4 kp => ?_⟩
          have sf : ∀ c o, c = a → H3 c = some o → (∀ ys, o ≠ .tup ys) ∧ ∀ ob u, o ≠ .frz ob u := fun c o e z => by subst e; rw [ea3] at z; exact ins_no (Option.some.inj z).symm
          have hx4 := hx3.kept (N := fun c => c = a) (fun c o e n => kp c o e n) sf (fun c hc z => na1 (z ▸ hc))
          have hy4 := hy3.kept (N := fun c => c = a) (fun c o e n => kp c o e n) sf (fun c hc z => na2 (z ▸ hc))
          have ht4 := sqT_but (N := fun c => c = a) ht3 (fun c o e n => kp c o e n) sf
          have nLa : L ≠ a := ne_of hL3 ea3 (by intro z; cases z)
          exact k3 H4 (a :: L :: (fx ++ fy)) ⟨dx, p', t, L, tx, ty, fx, fy, rfl, ha4, hp4, ht4, kp _ _ hL3 nLa, hx4, hy4, na1, na2, nl1, nl2, dj0⟩ ⟨dm, by rw [Int.sub_self, Int.add_zero]; exact kp _ _ em3 nma⟩ nm1 (fun c o e hc _ => kp c o e (fun z => hc (by simp [z]))) (fun c hc => .inl hc) _ ⟨r, rfl, hr4⟩
        | none =>
          rw [es] at e1
          simp only at e1
          refine ⟨_, rfl, rfl, _, rfl, ite2 (fun c => absurd c (by decide)) (fun _ => ?_)⟩
          refine ⟨fun σ' H' => H3 = H' ∧ σ' = [some (V.ref a), some (V.ref m), some V.non, some (V.int (if i ≤ j then 0 else 1)), v4], ?_, ?_⟩
          · refine ⟨_, rfl, a, _, dx, _, _, rfl, ea3, cl, T.n_EightBox_taken, rfl, L, _, 0, _, rfl, rfl, SqL.of hL3, atI_nat (j := 0) rfl, _, rfl, a, _, dx, _, _, rfl, ea3, cl, T.n_EightBox_taken, rfl, L, _, 1, _, rfl, rfl, SqL.of hL3, atI_nat (j := 1) rfl, _, _, rfl, rfl, _, rfl, ite2 (fun c => ?_) (fun c => ?_)⟩
            · rw [if_pos (of_decide_eq_true c)]
              exact ⟨rfl, rfl⟩
            · rw [if_neg (fun z => c (decide_eq_true z))]
              exact ⟨rfl, rfl⟩
          rintro σ' H3' ⟨rfl, rfl⟩
          split at e1
          · rename_i cij
            rw [if_pos cij]
            cases ex : askF n1 x l1 with
            | none => rw [ex] at e1; cases e1
            | some z =>
              obtain ⟨ox, x', l2⟩ := z
              rw [ex] at e1
              obtain ⟨okc', wc', kc'⟩ := askF_ok okx ex
              refine ask_any (tx := tx) (m := m) (fx := fx) (x := x) (l := l1) (s := s1) (n := n1) (fun R h => ⟨_, rfl, a, _, dx, _, _, rfl, ea3, cl, T.n_EightBox_trees, rfl, _, rfl, t, _, 0, _, rfl, rfl, ht3, atI_nat (j := 0) rfl, h⟩) (fun R h => ⟨_, rfl, h⟩) hx3 okx wx kx ⟨dm, em3⟩ nmx ex fun H4 fc' hc4 hm4 nm4 fr4 sub4 => ?_
              have ea4 := fr4 _ _ ea3 na1 nma.symm
              have hL4 := fr4 _ _ hL3 nl1 nml.symm
              have soft4 : ∀ c o, (c ∈ fx ∨ c = m) → H3 c = some o → (∀ ys, o ≠ .tup ys) ∧ ∀ ob u, o ≠ .frz ob u := fun c o z e => by
                rcases z with z | rfl
                · exact (hx3.soft c z).no e
                · rw [em3] at e; exact ins_no (Option.some.inj e).symm
              have frN : ∀ c o, H3 c = some o → ¬ (c ∈ fx ∨ c = m) → H4 c = some o := fun c o e n => fr4 c o e (fun z => n (.inl z)) (fun z => n (.inr z))
              have hp4 : SqT K H4 p (ns.map V.int) := sqT_but hp3 frN soft4
              have ht4 : SqT K H4 t [.ref tx, .ref ty] := sqT_but ht3 frN soft4
              have ho4 := hy3.kept frN soft4 (fun c hc z => by
                rcases z with z | rfl
                · exact dj0 c z hc
                · exact nmy hc)
              have old : ∀ c z, H3 c = some z → c ∉ fx → c ∉ fc' := fun c z e hn q => by
                rcases sub4 c q with q | q
                · exact hn q
                · rw [e] at q; cases q
              have nac : a ∉ fc' := old _ _ ea3 na1
              have nlc : L ∉ fc' := old _ _ hL3 nl1
              have dj : ∀ c ∈ fc', c ∉ fy := fun c hc hd => by
                obtain ⟨z, ez⟩ : ∃ z, H3 c = some z := by
                  rcases hy3.soft c hd with ⟨_, _, _, q⟩ | ⟨_, q⟩
                  · exact ⟨_, q⟩
                  · exact ⟨_, q⟩
                exact old c z ez (fun q => dj0 c q hd) hc
              have nm5 : m ∉ a :: L :: (fc' ++ fy) := fun z => by
                simp only [List.mem_cons, List.mem_append] at z
                rcases z with z | z | z | z
                · exact nma z
                · exact nml z
                · exact nm4 z
                · exact nmy z
              have fr5 : ∀ c z, H3 c = some z → c ∉ a :: L :: (fx ++ fy) → c ≠ m → H4 c = some z := fun c z e hc hcm => fr4 c z e (fun q => hc (by simp [q])) hcm
              have sub5 : ∀ c ∈ a :: L :: (fc' ++ fy), c ∈ a :: L :: (fx ++ fy) ∨ H3 c = none := fun c hc => by
                simp only [List.mem_cons, List.mem_append] at hc ⊢
                rcases hc with z | z | z | z
                · exact .inl (.inl z)
                · exact .inl (.inr (.inl z))
                · rcases sub4 c z with q | q
                  · exact .inl (.inr (.inr (.inl q)))
                  · exact .inr q
                · exact .inl (.inr (.inr (.inr z)))


              cases ox with
              | none =>
                cases e1
                exact k3 H4 (a :: L :: (fc' ++ fy)) ⟨dx, p, t, L, tx, ty, fc', fy, rfl, ea4, hp4, ht4, hL4, hc4, ho4, nac, na2, nlc, nl2, dj⟩ hm4 nm5 fr5 sub5
              | some an =>
                intro v hv
                obtain ⟨pv', rfl, hpv⟩ := hv.tup T
                have hW : SqT K H4 A.k_WAITS Ans.waits.vals := T.t_WAITS H4
                refine ⟨_, rfl, _, _, an.dp hpv, Ans.waits.dp hW, an.shaped, Ans.waits.shaped, _, rfl, ?_⟩
                rw [eqv_waits]
                cases an with
                | waits =>
                  cases e1
                  exact iteT ⟨_, rfl, k3 H4 (a :: L :: (fc' ++ fy)) ⟨dx, p, t, L, tx, ty, fc', fy, rfl, ea4, hp4, ht4, hL4, hc4, ho4, nac, na2, nlc, nl2, dj⟩ hm4 nm5 fr5 sub5 _ hv⟩
                | fin =>
                  simp only at e1
                  refine iteF ⟨_, rfl, a, dx, _, rfl, ea4, rfl, _, rfl, _, rfl, a, dx, p, t, L, tx, ty, ns, told, 0, i, j, _, .fin, rfl, by decide, hv, ea4, hp4, ht4, hL4, hl8, hf, fun p' r dr C fs H5 hp5 nr5 ha5 kp5 hr5 one => ?_⟩
                  obtain ⟨dm4, em4⟩ := hm4
                  have nar : a ≠ r := ne_of_none ea4 nr5
                  have nmr : m ≠ r := ne_of_none em4 nr5
                  have ho5 := ho4.kept (N := fun c => c = a) (fun c o e n => kp5 c o e n) (fun c o e z => by subst e; rw [ea4] at z; exact ins_no (Option.some.inj z).symm) (fun c hc z => na2 (z ▸ hc))
                  have nro : r ∉ fy := fun z => by
                    rcases ho4.soft r z with ⟨_, _, _, q⟩ | ⟨_, q⟩
                    · rw [nr5] at q; cases q
                    · rw [nr5] at q; cases q
                  obtain ⟨fr, hr6, sub6⟩ := oneIs_at one hr5 hp5 ho5 nro
                  have z6 := oneBox_ok (ns := leftOf ns 0) (told := told) rfl oky ky
                  refine ⟨n1, Nat.lt_succ_self _, _, _, _, a :: fr, .eightR (oneBox (leftOf ns 0) told y), l2, s1 + (l1 - l2), rfl, ⟨dx, p, t, L, told, r, fr, rfl, ha5, hr6, ?_⟩, ⟨z6.1, z6.2.2⟩, (by show _ + 2 ≤ d + 2; have := z6.2.1; omega), rfl, ⟨dm4, kp5 _ _ em4 nma⟩, ?_, e1, ?_⟩
                  · intro z
                    rcases sub6 a z with q | q
                    · exact nar q
                    · exact na2 q
                  · intro z
                    rcases List.mem_cons.mp z with q | q
                    · exact nma q
                    · rcases sub6 m q with q | q
                      · exact nmr q
                      · exact nmy q
                  · refine k3.step (fun c z e hc hcm => ?_) (fun c hc => ?_) (by omega)
                    · exact kp5 c z (fr5 c z e hc hcm) (fun q => hc (q ▸ List.mem_cons_self))
                    · rcases List.mem_cons.mp hc with rfl | hc
                      · exact .inl List.mem_cons_self
                      · rcases sub6 c hc with rfl | q
                        · cases q : H3 c with
                          | none => exact .inr rfl
                          | some z =>
                            rcases Decidable.em (c ∈ a :: L :: (fx ++ fy)) with q1 | q1
                            · exact .inl q1
                            · have := fr5 c z q q1 nmr.symm
                              rw [nr5] at this
                              cases this
                        · exact .inl (by simp [q])
                | part q =>
                  simp only at e1
                  split at e1
                  case isFalse => cases e1
                  rename_i fq
                  refine iteF ⟨_, rfl, a, dx, _, rfl, ea4, rfl, _, rfl, _, rfl, a, dx, p, t, L, tx, ty, ns, told, 0, i, j, _, .part q, rfl, by decide, hv, ea4, hp4, ht4, hL4, hl8, hf, fq, fun p' H5 ha5 hp5 hL5 kp5 => ?_⟩
                  obtain ⟨dm4, em4⟩ := hm4
                  have frN5 : ∀ c o, H4 c = some o → ¬ (c = a ∨ c = L) → H5 c = some o := fun c o e n => kp5 c o e (fun z => n (.inl z)) (fun z => n (.inr z))
                  have soft5 : ∀ c o, (c = a ∨ c = L) → H4 c = some o → (∀ ys, o ≠ .tup ys) ∧ ∀ ob u, o ≠ .frz ob u := fun c o z e => by
                    rcases z with rfl | rfl
                    · exact Soft.no (.inl ⟨_, _, _, ea4⟩) e
                    · exact Soft.no (.inr ⟨_, hL4⟩) e
                  have hc5 := hc4.kept frN5 soft5 (fun c hc z => by
                    rcases z with rfl | rfl
                    · exact nac hc
                    · exact nlc hc)
                  have ho5 := ho4.kept frN5 soft5 (fun c hc z => by
                    rcases z with rfl | rfl
                    · exact na2 hc
                    · exact nl2 hc)
                  have ht5 : SqT K H5 t [.ref tx, .ref ty] := sqT_but ht4 frN5 soft5
                  refine ⟨n1, Nat.lt_succ_self _, _, _, _, a :: L :: (fc' ++ fy), .eight (withFirst ns q) (i + 1) j told x' y, l2, s1 + (l1 - l2), rfl, ⟨dx, p', t, L, tx, ty, fc', fy, rfl, ha5, hp5, ht5, hL5, hc5, ho5, nac, na2, nlc, nl2, dj⟩, ⟨rfl, okc', oky, kc' ▸ kx, ky, by omega, hj⟩, (by show max _ _ + 3 ≤ d + 2; omega), rfl, ⟨dm4, kp5 _ _ em4 nma nml⟩, nm5, e1, ?_⟩
                  exact k3.step (fun c z e hc hcm => kp5 c z (fr5 c z e hc hcm) (fun q => hc (by simp [q])) (fun q => hc (by simp [q]))) sub5 (by omega)
          · rename_i cij
            rw [if_neg cij]
            cases ex : askF n1 y l1 with
            | none => rw [ex] at e1; cases e1
            | some z =>
              obtain ⟨ox, x', l2⟩ := z
              rw [ex] at e1
              obtain ⟨okc', wc', kc'⟩ := askF_ok oky ex
              refine ask_any (tx := ty) (m := m) (fx := fy) (x := y) (l := l1) (s := s1) (n := n1) (fun R h => ⟨_, rfl, a, _, dx, _, _, rfl, ea3, cl, T.n_EightBox_trees, rfl, _, rfl, t, _, 1, _, rfl, rfl, ht3, atI_nat (j := 1) rfl, h⟩) (fun R h => ⟨_, rfl, h⟩) hy3 oky wy ky ⟨dm, em3⟩ nmy ex fun H4 fc' hc4 hm4 nm4 fr4 sub4 => ?_
              have ea4 := fr4 _ _ ea3 na2 nma.symm
              have hL4 := fr4 _ _ hL3 nl2 nml.symm
              have soft4 : ∀ c o, (c ∈ fy ∨ c = m) → H3 c = some o → (∀ ys, o ≠ .tup ys) ∧ ∀ ob u, o ≠ .frz ob u := fun c o z e => by
                rcases z with z | rfl
                · exact (hy3.soft c z).no e
                · rw [em3] at e; exact ins_no (Option.some.inj e).symm
              have frN : ∀ c o, H3 c = some o → ¬ (c ∈ fy ∨ c = m) → H4 c = some o := fun c o e n => fr4 c o e (fun z => n (.inl z)) (fun z => n (.inr z))
              have hp4 : SqT K H4 p (ns.map V.int) := sqT_but hp3 frN soft4
              have ht4 : SqT K H4 t [.ref tx, .ref ty] := sqT_but ht3 frN soft4
              have ho4 := hx3.kept frN soft4 (fun c hc z => by
                rcases z with z | rfl
                · exact dj0 c hc z
                · exact nmx hc)
              have old : ∀ c z, H3 c = some z → c ∉ fy → c ∉ fc' := fun c z e hn q => by
                rcases sub4 c q with q | q
                · exact hn q
                · rw [e] at q; cases q
              have nac : a ∉ fc' := old _ _ ea3 na2
              have nlc : L ∉ fc' := old _ _ hL3 nl2
              have dj : ∀ c ∈ fc', c ∉ fx := fun c hc hd => by
                obtain ⟨z, ez⟩ : ∃ z, H3 c = some z := by
                  rcases hx3.soft c hd with ⟨_, _, _, q⟩ | ⟨_, q⟩
                  · exact ⟨_, q⟩
                  · exact ⟨_, q⟩
                exact old c z ez (fun q => dj0 c hd q) hc
              have nm5 : m ∉ a :: L :: (fx ++ fc') := fun z => by
                simp only [List.mem_cons, List.mem_append] at z
                rcases z with z | z | z | z
                · exact nma z
                · exact nml z
                · exact nmx z
                · exact nm4 z
              have fr5 : ∀ c z, H3 c = some z → c ∉ a :: L :: (fx ++ fy) → c ≠ m → H4 c = some z := fun c z e hc hcm => fr4 c z e (fun q => hc (by simp [q])) hcm
              have sub5 : ∀ c ∈ a :: L :: (fx ++ fc'), c ∈ a :: L :: (fx ++ fy) ∨ H3 c = none := fun c hc => by
                simp only [List.mem_cons, List.mem_append] at hc ⊢
                rcases hc with z | z | z | z
                · exact .inl (.inl z)
                · exact .inl (.inr (.inl z))
                · exact .inl (.inr (.inr (.inl z)))


                · rcases sub4 c z with q | q
                  · exact .inl (.inr (.inr (.inr q)))
                  · exact .inr q
              cases ox with
              | none =>
                cases e1
                exact k3 H4 (a :: L :: (fx ++ fc')) ⟨dx, p, t, L, tx, ty, fx, fc', rfl, ea4, hp4, ht4, hL4, ho4, hc4, na1, nac, nl1, nlc, fun c h1 h2 => dj c h2 h1⟩ hm4 nm5 fr5 sub5
              | some an =>
                intro v hv
                obtain ⟨pv', rfl, hpv⟩ := hv.tup T
                have hW : SqT K H4 A.k_WAITS Ans.waits.vals := T.t_WAITS H4
                refine ⟨_, rfl, _, _, an.dp hpv, Ans.waits.dp hW, an.shaped, Ans.waits.shaped, _, rfl, ?_⟩
                rw [eqv_waits]
                cases an with
                | waits =>
                  cases e1
                  exact iteT ⟨_, rfl, k3 H4 (a :: L :: (fx ++ fc')) ⟨dx, p, t, L, tx, ty, fx, fc', rfl, ea4, hp4, ht4, hL4, ho4, hc4, na1, nac, nl1, nlc, fun c h1 h2 => dj c h2 h1⟩ hm4 nm5 fr5 sub5 _ hv⟩
                | fin =>
                  simp only at e1
                  refine iteF ⟨_, rfl, a, dx, _, rfl, ea4, rfl, _, rfl, _, rfl, a, dx, p, t, L, tx, ty, ns, told, 1, i, j, _, .fin, rfl, by decide, hv, ea4, hp4, ht4, hL4, hl8, hf, fun p' r dr C fs H5 hp5 nr5 ha5 kp5 hr5 one => ?_⟩
                  obtain ⟨dm4, em4⟩ := hm4
                  have nar : a ≠ r := ne_of_none ea4 nr5
                  have nmr : m ≠ r := ne_of_none em4 nr5
                  have ho5 := ho4.kept (N := fun c => c = a) (fun c o e n => kp5 c o e n) (fun c o e z => by subst e; rw [ea4] at z; exact ins_no (Option.some.inj z).symm) (fun c hc z => na1 (z ▸ hc))
                  have nro : r ∉ fx := fun z => by
                    rcases ho4.soft r z with ⟨_, _, _, q⟩ | ⟨_, q⟩
                    · rw [nr5] at q; cases q
                    · rw [nr5] at q; cases q
                  obtain ⟨fr, hr6, sub6⟩ := oneIs_at one hr5 hp5 ho5 nro
                  have z6 := oneBox_ok (ns := leftOf ns 1) (told := told) rfl okx kx
                  refine ⟨n1, Nat.lt_succ_self _, _, _, _, a :: fr, .eightR (oneBox (leftOf ns 1) told x), l2, s1 + (l1 - l2), rfl, ⟨dx, p, t, L, told, r, fr, rfl, ha5, hr6, ?_⟩, ⟨z6.1, z6.2.2⟩, (by show _ + 2 ≤ d + 2; have := z6.2.1; omega), rfl, ⟨dm4, kp5 _ _ em4 nma⟩, ?_, e1, ?_⟩
                  · intro z
                    rcases sub6 a z with q | q
                    · exact nar q
                    · exact na1 q
                  · intro z
                    rcases List.mem_cons.mp z with q | q
                    · exact nma q
                    · rcases sub6 m q with q | q
                      · exact nmr q
                      · exact nmx q
                  · refine k3.step (fun c z e hc hcm => ?_) (fun c hc => ?_) (by omega)
                    · exact kp5 c z (fr5 c z e hc hcm) (fun q => hc (q ▸ List.mem_cons_self))
                    · rcases List.mem_cons.mp hc with rfl | hc
                      · exact .inl List.mem_cons_self
                      · rcases sub6 c hc with rfl | q
                        · cases q : H3 c with
                          | none => exact .inr rfl
                          | some z =>
                            rcases Decidable.em (c ∈ a :: L :: (fx ++ fy)) with q1 | q1
                            · exact .inl q1
                            · have := fr5 c z q q1 nmr.symm
                              rw [nr5] at this
                              cases this
                        · exact .inl (by simp [q])
                | part q =>
                  simp only at e1
                  split at e1
                  case isFalse => cases e1
                  rename_i fq
                  refine iteF ⟨_, rfl, a, dx, _, rfl, ea4, rfl, _, rfl, _, rfl, a, dx, p, t, L, tx, ty, ns, told, 1, i, j, _, .part q, rfl, by decide, hv, ea4, hp4, ht4, hL4, hl8, hf, fq, fun p' H5 ha5 hp5 hL5 kp5 => ?_⟩
                  obtain ⟨dm4, em4⟩ := hm4
                  have frN5 : ∀ c o, H4 c = some o → ¬ (c = a ∨ c = L) → H5 c = some o := fun c o e n => kp5 c o e (fun z => n (.inl z)) (fun z => n (.inr z))
                  have soft5 : ∀ c o, (c = a ∨ c = L) → H4 c = some o → (∀ ys, o ≠ .tup ys) ∧ ∀ ob u, o ≠ .frz ob u := fun c o z e => by
                    rcases z with rfl | rfl
                    · exact Soft.no (.inl ⟨_, _, _, ea4⟩) e
                    · exact Soft.no (.inr ⟨_, hL4⟩) e
                  have hc5 := hc4.kept frN5 soft5 (fun c hc z => by
                    rcases z with rfl | rfl
                    · exact nac hc
                    · exact nlc hc)
                  have ho5 := ho4.kept frN5 soft5 (fun c hc z => by
                    rcases z with rfl | rfl
                    · exact na1 hc
                    · exact nl1 hc)
                  have ht5 : SqT K H5 t [.ref tx, .ref ty] := sqT_but ht4 frN5 soft5
                  refine ⟨n1, Nat.lt_succ_self _, _, _, _, a :: L :: (fx ++ fc'), .eight (withSecond ns q) i (j + 1) told x x', l2, s1 + (l1 - l2), rfl, ⟨dx, p', t, L, tx, ty, fx, fc', rfl, ha5, hp5, ht5, hL5, ho5, hc5, na1, nac, nl1, nlc, fun c h1 h2 => dj c h2 h1⟩, ⟨rfl, okx, okc', kx, kc' ▸ ky, hi, by omega⟩, (by show max _ _ + 3 ≤ d + 2; omega), rfl, ⟨dm4, kp5 _ _ em4 nma nml⟩, nm5, e1, ?_⟩
                  exact k3.step (fun c z e hc hcm => kp5 c z (fr5 c z e hc hcm) (fun q => hc (by simp [q])) (fun q => hc (by simp [q]))) sub5 (by omega)
theorem mok_no {k : Nat} {C : Addr} {m qual : Str} {ps : List Str} {sp : Sp} {st : Stmt} {CX : CXT} (c : Cls K C) (D : ∃ f fd, Fun K m qual st f fd ∧ Meth K C m f ∧ Binds K fd ps []) (no : ∀ vs H Q E, ¬ sp vs H Q E) : MOk P w K mg base CX k C m ps sp :=
  MOk.of c D fun f fd F => ⟨(fun vs H Q E h => (no vs H Q E h).elim), (fun _ _ _ _ _ _ _ _ _ _ _ _ _ h => (no _ _ _ _ h).elim)⟩
theorem no_four {vs : List V} {H : Hp} {Q : VK} {E : XK} : ¬ spB A K 2 0 vs H Q E := by
  rintro ⟨a, m, fp, B, l, s, n, o, B', l', rfl, hB, ok, hw, hk, _⟩
  cases B with
  | four ns st told x => exact absurd hw (by show ¬ x.wt + 1 ≤ 0; omega)
  | fourR t b u => exact absurd hw (by show ¬ 1 ≤ 0; omega)
  | leaf c => cases hk
  | fb t b u => cases hk
  | eight ns i j told x y => cases hk
  | eightR r => cases hk
theorem no_eight {d : Nat} (hd : d ≤ 1) {vs : List V} {H : Hp} {Q : VK} {E : XK} : ¬ spB A K 3 d vs H Q E := by
  rintro ⟨a, m, fp, B, l, s, n, o, B', l', rfl, hB, ok, hw, hk, _⟩
  cases B with
  | four ns st told x => cases hk
  | fourR t b u => cases hk
  | leaf c => cases hk
  | fb t b u => cases hk
  | eight ns i j told x y => exact absurd hw (by show ¬ max x.wt y.wt + 3 ≤ d; omega)
  | eightR r => exact absurd hw (by show ¬ r.wt + 2 ≤ d; omega)
/-- fours and eights, no heavier than d -/
theorem ok_asks (T : CT K mg A) (D : DT K mg A) : ∀ d : Nat, MOk P w K mg base (L2.CX P w) (6 + d) A.c_FourBox "ask" ["self", "meter"] (spB A K 2 d) ∧ MOk P w K mg base (L2.CX P w) (6 + d) A.c_EightBox "ask" ["self", "meter"] (spB A K 3 d)
  | 0 => ⟨mok_no T.cl_FourBox D.FourBox_ask fun _ _ _ _ => no_four, mok_no T.cl_EightBox D.EightBox_ask fun _ _ _ _ => no_eight (by omega)⟩
  | 1 => by
    have h := ok_asks T D 0
    exact ⟨ok_ask_four T D h.1 h.2, mok_no T.cl_EightBox D.EightBox_ask fun _ _ _ _ => no_eight (by omega)⟩
  | d + 2 => by
    have h := ok_asks T D (d + 1)
    exact ⟨ok_ask_four T D h.1 h.2, ok_ask_eight T D h.1 h.2⟩
end
/-! ### trees, and the boxes that are made of them -/
inductive Tree where
  | leaf (f : Leaf)
  | four (ns : List Int) (x : Tree)
  | eight (ns : List Int) (x y : Tree)
  | power (x : Tree) (n : Nat)
def Tree.ht : Tree → Nat
  | .leaf _ => 0
  | .four _ x => x.ht + 1
  | .eight _ x y => max x.ht y.ht + 1
  | .power x _ => x.ht + 1
def Tree.At (K : PySem.W.Frag) (H : Hp) : Tree → Addr → Prop
  | .leaf f, v => f.At K H v
  | .four ns x, v => ∃ p tx, SqT K H v [.str "four", .ref p, .ref tx] ∧ SqT K H p (ns.map V.int) ∧ x.At K H tx
  | .eight ns x y, v => ∃ p tx ty, SqT K H v [.str "eight", .ref p, .ref tx, .ref ty] ∧ SqT K H p (ns.map V.int) ∧ x.At K H tx ∧ y.At K H ty
  | .power x n, v => ∃ tx, SqT K H v [.str "power", .ref tx, .int n] ∧ x.At K H tx
/-- some two columns are not made of one another -/
def Crossed (ns : List Int) : Prop := ∃ i k : Nat, k < i ∧ i < ns.length / 2 ∧ ns.getD i 0 * ns.getD (k + ns.length / 2) 0 ≠ ns.getD k 0 * ns.getD (i + ns.length / 2) 0
def Tree.Good : Tree → Prop
  | .leaf f => f.Good
  | .four ns x => ns.length = 4 ∧ (∀ z ∈ ns, tame z) ∧ Crossed ns ∧ x.Good
  | .eight ns x y => ns.length = 8 ∧ (∀ z ∈ ns, tame z) ∧ Crossed ns ∧ x.Good ∧ y.Good
  | .power x n => 1 ≤ n ∧ n ≤ 4 ∧ x.Good
def timesN : List Int := [1, 0, 0, 0, 0, 0, 0, 1]
def powB (R : Box → Prop) : Nat → Box → Prop
  | 0, _ => False
  | 1, B => R B
  | n + 2, B => ∃ x y, R x ∧ powB R (n + 1) y ∧ B = .eight timesN 0 0 false x y
/-- the box that a tree begins with -/
def Tree.Starts : Tree → Box → Prop
  | .leaf f, B => ∃ ch, f.Starts ch ∧ B = .leaf ch
  | .four ns x, B => ∃ X, x.Starts X ∧ B = .four ns false false X
  | .eight ns x y, B => ∃ X Y, x.Starts X ∧ y.Starts Y ∧ B = .eight ns 0 0 false X Y
  | .power x n, B => powB x.Starts n B
section
variable {P : Program} {w : World} {K : PySem.W.Frag} {mg : Str → Option Value} {base : Heap} {A : Ad}
theorem Tree.At.same {H H' : Hp} (s : Same H H') : ∀ {t : Tree} {v : Addr}, t.At K H v → t.At K H' v
  | .leaf f, v, h => Leaf.At.same (f := f) h s
  | .four ns x, v, h => by
    obtain ⟨p, tx, h1, h2, h3⟩ := h
    exact ⟨p, tx, sqT_same h1 s, sqT_same h2 s, Tree.At.same s h3⟩
  | .eight ns x y, v, h => by
    obtain ⟨p, tx, ty, h1, h2, h3, h4⟩ := h
    exact ⟨p, tx, ty, sqT_same h1 s, sqT_same h2 s, Tree.At.same s h3, Tree.At.same s h4⟩
  | .power x n, v, h => by
    obtain ⟨tx, h1, h2⟩ := h
    exact ⟨tx, sqT_same h1 s, Tree.At.same s h2⟩
theorem powB_kind {R : Box → Prop} (h : ∀ B, R B → B.kind ≠ 1) : ∀ {n : Nat} {B : Box}, powB R n B → B.kind ≠ 1
  | 0, B, z => z.elim
  | 1, B, z => h B z
  | n + 2, B, z => by
    obtain ⟨x, y, _, _, rfl⟩ := z
    show 3 ≠ 1
    decide
theorem Tree.Starts.kind : ∀ {t : Tree} {B : Box}, t.Starts B → B.kind ≠ 1
  | .leaf f, B, h => by obtain ⟨ch, _, rfl⟩ := h; show 0 ≠ 1; decide
  | .four ns x, B, h => by obtain ⟨X, _, rfl⟩ := h; show 2 ≠ 1; decide
  | .eight ns x y, B, h => by obtain ⟨X, Y, _, _, rfl⟩ := h; show 3 ≠ 1; decide
  | .power x n, B, h => powB_kind (fun B z => Tree.Starts.kind z) h
/-- a box was made: new, and of the right beginning -/
def Made (A : Ad) (K : PySem.W.Frag) (R : Box → Prop) (H : Hp) (Q : VK) : Prop := ∀ (a : Addr) (fp : List Addr) (B : Box) (H' : Hp), BoxAt A K H' B a fp → R B → B.Ok → Same H H' → (∀ c ∈ fp, H c = none) → Q (.ref a) H'
def sp_box_of (A : Ad) (K : PySem.W.Frag) (d : Nat) : Sp := fun vs H Q _ => ∃ (v : Addr) (t : Tree), vs = [.ref v] ∧ t.At K H v ∧ t.Good ∧ t.ht ≤ d ∧ Made A K t.Starts H Q
def sp_power_box (A : Ad) (K : PySem.W.Frag) (d N : Nat) : Sp := fun vs H Q _ => ∃ (v : Addr) (t : Tree) (n : Nat), vs = [.ref v, .int n] ∧ t.At K H v ∧ t.Good ∧ t.ht ≤ d ∧ 1 ≤ n ∧ n ≤ N ∧ Made A K (powB t.Starts n) H Q
theorem cok_no {k : Nat} {x : Str} {st : Stmt} {ps : List Str} {sp : Sp} (D : ∃ f fd, DefAt K mg x st ps f fd) (no : ∀ vs H Q E, ¬ sp vs H Q E) : COk P w K mg base CX0 k x ps sp := by
  obtain ⟨f, fd, F⟩ := D
  exact .of F ⟨(fun _ _ _ _ h => (no _ _ _ _ h).elim), (fun _ _ _ _ _ _ _ _ _ _ _ _ _ h => (no _ _ _ _ h).elim)⟩
/-- an eight is made of two new boxes -/
theorem eight_made {H H1 H2 : Hp} {Q : VK} {p tx ty : Addr} {fx fy : List Addr} {X Y : Box} {ns : List Int} (T : CT K mg A) (hx : BoxAt A K H1 X tx fx) (hy : BoxAt A K H2 Y ty fy) (okX : X.Ok) (okY : Y.Ok) (kX : X.kind ≠ 1) (kY : Y.kind ≠ 1) (hl : ns.length = 8)
    (s1 : Same H H1) (s2 : Same H1 H2) (nx : ∀ c ∈ fx, H c = none) (ny : ∀ c ∈ fy, H1 c = none) (hp : SqT K H2 p (ns.map V.int))
    (k : ∀ (a : Addr) (fp : List Addr) (H' : Hp), BoxAt A K H' (.eight ns 0 0 false X Y) a fp → Box.Ok (.eight ns 0 0 false X Y) → Same H H' → (∀ c ∈ fp, H c = none) → Q (.ref a) H') {x dx : Addr} (nx2 : H2 x = none) (nd2 : H2 dx = none) (ne : dx ≠ x) :
    sp_EightBox_init A [.ref x, .ref p, .ref tx, .ref ty] (upd (upd H2 dx (.own x)) x (.ins A.c_EightBox dx [])) (fun v H' => v = .non ∧ Q (.ref x) H') E0 := by
  refine ⟨x, dx, p, tx, ty, rfl, upd_same, fun q l H' nq nl nlq ha hq hL kp => ⟨rfl, ?_⟩⟩
  have s3 : Same H2 H' := fun c o e => kp c o (by rw [upd_ne (ne_of_none e nx2), upd_ne (ne_of_none e nd2)]; exact e) (ne_of_none e nx2)
  have nlx : l ≠ x := fun z => by rw [z, upd_same] at nl; cases nl
  have nld : l ≠ dx := fun z => by rw [z, upd_ne ne, upd_same] at nl; cases nl
  have nl2 : H2 l = none := by rw [upd_ne nlx, upd_ne nld] at nl; exact nl
  have some_of : ∀ {H0 : Hp} {B : Box} {b : Addr} {f : List Addr} {c : Addr}, BoxAt A K H0 B b f → c ∈ f → ∃ o, H0 c = some o := fun h hc => by
    rcases h.soft _ hc with ⟨_, _, _, q⟩ | ⟨_, q⟩
    · exact ⟨_, q⟩
    · exact ⟨_, q⟩
  have hx2 := hx.same s2
  have out : ∀ {B : Box} {b : Addr} {f : List Addr} {c : Addr}, BoxAt A K H2 B b f → H2 c = none → c ∉ f := fun h e hc => by
    obtain ⟨o, q⟩ := some_of h hc
    rw [e] at q
    cases q
  refine k x (x :: l :: (fx ++ fy)) H' ⟨dx, p, q, l, tx, ty, fx, fy, rfl, ha, sqT_same hp s3, SqT.of hq, hL, hx2.same s3, hy.same s3, out hx2 nx2, out hy nx2, out hx2 nl2, out hy nl2, fun c h1 h2 => ?_⟩ ⟨hl, okX, okY, kX, kY, by decide, by decide⟩ ((s1.trans s2).trans s3) (fun c hc => ?_)
  · obtain ⟨o, q⟩ := some_of hx h1
    rw [ny c h2] at q
    cases q
  · simp only [List.mem_cons, List.mem_append] at hc
    rcases hc with rfl | rfl | hc | hc
    · exact (s1.trans s2).free nx2
    · exact (s1.trans s2).free nl2
    · exact nx c hc
    · exact s1.free (ny c hc)
theorem ok_power_box {d N k : Nat} (T : CT K mg A) (D : DT K mg A) (hk : 5 ≤ k) (G_box_of : COk P w K mg base CX0 k "box_of" ["tree"] (sp_box_of A K d)) (G_power_box : COk P w K mg base CX0 (k + N) "power_box" ["tree", "times"] (sp_power_box A K d N)) :
    COk P w K mg base CX0 (k + (N + 1)) "power_box" ["tree", "times"] (sp_power_box A K d (N + 1)) := by
  have I_EightBox := ok_EightBox_init (P := P) (w := w) (base := base) T D
  refine COk.by D.power_box fun f fd F => ?_
  refine F.ok (k := k + N) sc_power_box (fun vs H Q E h => ?_) (fun cdv Ar outer s H vs Q E hr h => ?_)
  · obtain ⟨v, t, n, rfl, _⟩ := h
    rfl
  · obtain ⟨v, t, n, rfl, ht, hg, hd, h1, hN, k'⟩ := h
    refine ⟨_, (pss_cons (ps_if (pt_cmpR op_eq (pv 1) pe_int (nomark _))
      (pss_one (ps_ret (pe_c G_box_of (hr.mono (by first | decide | omega)) (pa_cons (pv 0) pa_nil)))) pss_nil)
    (pss_one (ps_ret (pe_mk I_EightBox (hr.mono (by first | decide | omega)) (pa_cons (pe_glob (v := .ref A.k_TIMES) (by rfl) T.g_TIMES rfl) (pa_cons (pe_c G_box_of (hr.mono (by first | decide | omega)) (pa_cons (pv 0) pa_nil)) (pa_cons (pe_c G_power_box (hr.mono (by first | decide | omega)) (pa_cons (pv 0) (pa_cons (pe_op op_sub (pv 1) pe_int) pa_nil))) pa_nil))))))), ?_⟩
    refine ⟨_, rfl, rfl, _, rfl, ite2 (fun c => ?_) (fun c => ?_)⟩
    · have e : n = 1 := by
        have := V.int.inj (of_decide_eq_true c)
        omega
      subst e
      exact ⟨_, rfl, v, t, rfl, ht, hg, hd, k'⟩
    · have e : n ≠ 1 := fun z => c (decide_eq_true (by rw [z]; rfl))
      obtain ⟨n, rfl⟩ : ∃ j, n = j + 2 := ⟨n - 2, by omega⟩
      refine ⟨_, rfl, v, t, rfl, ht, hg, hd, fun tx fx X H1 hx sX okX s1 nx => ?_⟩
      refine ⟨_, rfl, _, rfl, _, _, rfl, rfl, ?_⟩
      have en : (((n + 2 : Nat) : Int) - 1) = ((n + 1 : Nat) : Int) := by omega
      refine cast (congrArg (fun z => sp_power_box A K d N [V.ref v, V.int z] H1 _ E0) en.symm) ?_
      refine ⟨v, t, n + 1, rfl, ht.same s1, hg, hd, by omega, by omega, fun ty fy Y H2 hy sY okY s2 ny => ?_⟩
      intro x dx nx2 nd2 ne
      exact eight_made T hx hy okX okY sX.kind (powB_kind (fun B z => Tree.Starts.kind z) sY) rfl s1 s2 nx ny (T.t_TIMES H2) (fun a fp H' hB ok s n' => k' a fp _ H' hB ⟨X, Y, sX, sY, rfl⟩ ok s n') nx2 nd2 ne
theorem ok_power_all {d k : Nat} (T : CT K mg A) (D : DT K mg A) (hk : 5 ≤ k) (G : COk P w K mg base CX0 k "box_of" ["tree"] (sp_box_of A K d)) : ∀ N : Nat, COk P w K mg base CX0 (k + N) "power_box" ["tree", "times"] (sp_power_box A K d N)
  | 0 => cok_no D.power_box fun vs H Q E h => by
    obtain ⟨v, t, n, _, _, _, _, h1, h2, _⟩ := h
    omega
  | N + 1 => ok_power_box T D hk G (ok_power_all T D hk G N)
theorem ok_box_of_step {d k : Nat} (T : CT K mg A) (D : DT K mg A) (hk : 5 ≤ k) (hd : ∀ t : Tree, t.ht < d + 1 → t.ht ≤ d) (G_box_of : COk P w K mg base CX0 k "box_of" ["tree"] (sp_box_of A K d)) : COk P w K mg base CX0 (k + 5) "box_of" ["tree"] (sp_box_of A K (d + 1)) := by
  have G_leaf_of := ok_leaf_of (P := P) (w := w) (base := base) T D
  have G_power_box := ok_power_all (P := P) (w := w) (base := base) T D hk G_box_of 4
  have I_EightBox := ok_EightBox_init (P := P) (w := w) (base := base) T D
  have I_FourBox := ok_FourBox_init (P := P) (w := w) (base := base) T D
  refine COk.by D.box_of fun f fd F => ?_
  refine F.ok (k := k + 4) sc_box_of (fun vs H Q E h => ?_) (fun cdv Ar outer s H vs Q E hr h => ?_)
  · obtain ⟨v, t, rfl, _⟩ := h
    rfl
  · obtain ⟨v, t, rfl, ht, hg, hh, k'⟩ := h
    refine ⟨_, (pss_cons (ps_set (i := 1) sc_box_of.nd rfl (Or.inl rfl) (pe_ix ix_tup (pv 0) pe_int (fun _ _ => rfl)))
    (pss_cons (ps_if (pt_cmpR op_eq (pv 1) pe_str (nomark _))
      (pss_one (ps_ret (pe_mk I_FourBox (hr.mono (by first | decide | omega)) (pa_cons (pe_ix ix_tup (pv 0) pe_int (fun _ _ => rfl)) (pa_cons (pe_c G_box_of (hr.mono (by first | decide | omega)) (pa_cons (pe_ix ix_tup (pv 0) pe_int (fun _ _ => rfl)) pa_nil)) (pa_cons pe_bl (pa_cons pe_bl pa_nil))))))) pss_nil)
    (pss_cons (ps_if (pt_cmpR op_eq (pv 1) pe_str (nomark _))
      (pss_one (ps_ret (pe_mk I_EightBox (hr.mono (by first | decide | omega)) (pa_cons (pe_ix ix_tup (pv 0) pe_int (fun _ _ => rfl)) (pa_cons (pe_c G_box_of (hr.mono (by first | decide | omega)) (pa_cons (pe_ix ix_tup (pv 0) pe_int (fun _ _ => rfl)) pa_nil)) (pa_cons (pe_c G_box_of (hr.mono (by first | decide | omega)) (pa_cons (pe_ix ix_tup (pv 0) pe_int (fun _ _ => rfl)) pa_nil)) pa_nil)))))) pss_nil)
    (pss_cons (ps_if (pt_cmpR op_eq (pv 1) pe_str (nomark _))
      (pss_one (ps_ret (pe_c G_power_box (hr.mono (by first | decide | omega)) (pa_cons (pe_ix ix_tup (pv 0) pe_int (fun _ _ => rfl)) (pa_cons (pe_ix ix_tup (pv 0) pe_int (fun _ _ => rfl)) pa_nil))))) pss_nil)
    (pss_one (ps_ret (pe_c G_leaf_of (hr.mono (by first | decide | omega)) (pa_cons (pv 0) pa_nil)))))))), ?_⟩
    cases t with
    | leaf f =>
      have fin : Q = Q → sp_leaf_of A K [.ref v] H Q E0 := fun _ => ⟨v, f, rfl, ht, hg, fun a c ch H' hl st ok s na nc ne => k' a [a, c] (.leaf ch) H' ⟨c, rfl, hl, ne⟩ ⟨ch, st, rfl⟩ ok s (fun z hz => by
        simp only [List.mem_cons, List.not_mem_nil, or_false] at hz
        rcases hz with rfl | rfl
        · exact na
        · exact nc)⟩
      cases f with
      | frac t b => exact ⟨_, rfl, v, _, 0, _, rfl, rfl, ht, atI_nat (j := 0) rfl, _, rfl, rfl, _, rfl, iteF ⟨_, rfl, rfl, _, rfl, iteF ⟨_, rfl, rfl, _, rfl, iteF ⟨_, rfl, fin rfl⟩⟩⟩⟩
      | root t s b => exact ⟨_, rfl, v, _, 0, _, rfl, rfl, ht, atI_nat (j := 0) rfl, _, rfl, rfl, _, rfl, iteF ⟨_, rfl, rfl, _, rfl, iteF ⟨_, rfl, rfl, _, rfl, iteF ⟨_, rfl, fin rfl⟩⟩⟩⟩
      | ruled ps ring steps =>
        obtain ⟨p, q, u, hv, h3⟩ := id ht
        exact ⟨_, rfl, v, _, 0, _, rfl, rfl, hv, atI_nat (j := 0) rfl, _, rfl, rfl, _, rfl, iteF ⟨_, rfl, rfl, _, rfl, iteF ⟨_, rfl, rfl, _, rfl, iteF ⟨_, rfl, fin rfl⟩⟩⟩⟩
    | four ns x =>
      obtain ⟨p, tx, hv, hp, hx⟩ := ht
      obtain ⟨hl, ht', hc, gx⟩ := hg
      refine ⟨_, rfl, v, _, 0, _, rfl, rfl, hv, atI_nat (j := 0) rfl, _, rfl, rfl, _, rfl, iteT ⟨_, rfl, v, _, 1, _, rfl, rfl, hv, atI_nat (j := 1) rfl, _, rfl, v, _, 2, _, rfl, rfl, hv, atI_nat (j := 2) rfl, tx, x, rfl, hx, gx, Nat.le_of_succ_le_succ hh, fun bx fx X H1 hbx sX okX s1 nx => ?_⟩⟩
      intro r dr nr nd ne
      refine ⟨r, dr, _, rfl, rfl, upd_same, rfl, ?_⟩
      rw [upd_upd]
      have s2 := made_same (o := .own r) (o' := .ins A.c_FourBox dr (foF p bx false false .non)) nr nd
      have nrx : r ∉ fx := fun z => by
        rcases hbx.soft r z with ⟨_, _, _, q⟩ | ⟨_, q⟩
        · rw [nr] at q; cases q
        · rw [nr] at q; cases q
      refine k' r (r :: fx) (.four ns false false X) _ ⟨dr, p, bx, fx, rfl, upd_same, sqT_same hp (s1.trans s2), hbx.same s2, nrx⟩ ⟨X, sX, rfl⟩ ⟨hl, okX, sX.kind⟩ (s1.trans s2) (fun c hc => ?_)
      rcases List.mem_cons.mp hc with rfl | hc
      · exact s1.free nr
      · exact nx c hc
    | eight ns x y =>
      obtain ⟨p, tx, ty, hv, hp, hx, hy⟩ := ht
      obtain ⟨hl, ht', hc, gx, gy⟩ := hg
      have hm : max x.ht y.ht + 1 ≤ d + 1 := hh
      refine ⟨_, rfl, v, _, 0, _, rfl, rfl, hv, atI_nat (j := 0) rfl, _, rfl, rfl, _, rfl, iteF ⟨_, rfl, rfl, _, rfl, iteT ⟨_, rfl, v, _, 1, _, rfl, rfl, hv, atI_nat (j := 1) rfl, _, rfl, v, _, 2, _, rfl, rfl, hv, atI_nat (j := 2) rfl, tx, x, rfl, hx, gx, by omega, fun bx fx X H1 hbx sX okX s1 nx => ?_⟩⟩⟩
      have hv1 := sqT_same hv s1
      refine ⟨_, rfl, v, _, 3, _, rfl, rfl, hv1, atI_nat (j := 3) rfl, ty, y, rfl, hy.same s1, gy, by omega, fun byy fy Y H2 hby sY okY s2 ny => ?_⟩
      intro r dr nr nd ne
      exact eight_made T hbx hby okX okY sX.kind sY.kind hl s1 s2 nx ny (sqT_same hp (s1.trans s2)) (fun a fp H' hB ok s n' => k' a fp _ H' hB ⟨X, Y, sX, sY, rfl⟩ ok s n') nr nd ne
    | power x n =>
      obtain ⟨tx, hv, hx⟩ := ht
      obtain ⟨h1, h4, gx⟩ := hg
      exact ⟨_, rfl, v, _, 0, _, rfl, rfl, hv, atI_nat (j := 0) rfl, _, rfl, rfl, _, rfl, iteF ⟨_, rfl, rfl, _, rfl, iteF ⟨_, rfl, rfl, _, rfl, iteT ⟨_, rfl, v, _, 1, _, rfl, rfl, hv, atI_nat (j := 1) rfl, _, rfl, v, _, 2, _, rfl, rfl, hv, atI_nat (j := 2) rfl, tx, x, n, rfl, hx, gx, Nat.le_of_succ_le_succ hh, h1, h4, k'⟩⟩⟩⟩
end
/-! ### readings of trees -/
section
variable {P : Program} {w : World} {K : PySem.W.Frag} {mg : Str → Option Value} {base : Heap} {A : Ad}
theorem ok_box_of_0 (T : CT K mg A) (D : DT K mg A) : COk P w K mg base CX0 6 "box_of" ["tree"] (sp_box_of A K 0) := by
  obtain ⟨f, fd, F, a, b, c⟩ := ok_box_of_leaf (P := P) (w := w) (base := base) T D
  refine ⟨f, fd, F.imp fun vs H Q E h => ?_, a, b, c⟩
  obtain ⟨v, t, rfl, ht, hg, hh, k'⟩ := h
  cases t with
  | leaf f => exact ⟨v, f, rfl, ht, hg, fun a c ch H' hl st ok s na nc ne => k' a [a, c] (.leaf ch) H' ⟨c, rfl, hl, ne⟩ ⟨ch, st, rfl⟩ ok s (fun z hz => by
        simp only [List.mem_cons, List.not_mem_nil, or_false] at hz
        rcases hz with rfl | rfl
        · exact na
        · exact nc)⟩
  | four ns x => exact absurd hh (by show ¬ x.ht + 1 ≤ 0; omega)
  | eight ns x y => exact absurd hh (by show ¬ max x.ht y.ht + 1 ≤ 0; omega)
  | power x n => exact absurd hh (by show ¬ x.ht + 1 ≤ 0; omega)
theorem ok_box_of_all (T : CT K mg A) (D : DT K mg A) : ∀ d : Nat, COk P w K mg base CX0 (6 + 5 * d) "box_of" ["tree"] (sp_box_of A K d)
  | 0 => ok_box_of_0 T D
  | d + 1 => (ok_box_of_step T D (by omega) (fun t h => Nat.le_of_lt_succ h) (ok_box_of_all T D d)).mono (by omega)
/-- a reading at r: its box, its meter -/
structure ReadB (A : Ad) (K : PySem.W.Frag) (H : Hp) (r a m : Addr) (fp : List Addr) (B : Box) (l s : Int) : Prop where
  rd : ∃ rx, H r = some (.ins A.c_Reading rx (reF a m))
  bx : BoxAt A K H B a fp
  mt : MeterAt A H m l s
  nr : r ∉ fp
  nm : m ∉ fp
  rm : r ≠ m
  ok : B.Ok
  nk : B.kind ≠ 1
theorem ReadB.kept {H H' : Hp} {r a m : Addr} {fp : List Addr} {B : Box} {l s : Int} {N : Addr → Prop} (R : ReadB A K H r a m fp B l s) (k : ∀ c o, H c = some o → ¬ N c → H' c = some o) (hN : ∀ c o, N c → H c = some o → (∀ ys, o ≠ .tup ys) ∧ ∀ ob u, o ≠ .frz ob u)
    (n1 : ¬ N r) (n2 : ¬ N m) (n3 : ∀ c ∈ fp, ¬ N c) : ReadB A K H' r a m fp B l s := by
  obtain ⟨⟨rx, e⟩, hB, ⟨dm, em⟩, nr, nm, rm, ok, nk⟩ := R
  exact ⟨⟨rx, k _ _ e n1⟩, hB.kept k hN n3, ⟨dm, k _ _ em n2⟩, nr, nm, rm, ok, nk⟩
theorem ReadB.same {H H' : Hp} {r a m : Addr} {fp : List Addr} {B : Box} {l s : Int} (R : ReadB A K H r a m fp B l s) (k : Same H H') : ReadB A K H' r a m fp B l s :=
  R.kept (N := fun _ => False) (fun c o e _ => k c o e) (fun _ _ z => z.elim) (fun z => z) (fun z => z) (fun _ _ z => z)
/-- another list is written -/
theorem ReadB.put {H : Hp} {r a m d : Addr} {fp : List Addr} {B : Box} {l s : Int} {xs ys : List V} (R : ReadB A K H r a m fp B l s) (hd : H d = some (.lst xs)) (nd : d ∉ fp) : ReadB A K (upd H d (.lst ys)) r a m fp B l s := by
  obtain ⟨rx, e⟩ := R.rd
  obtain ⟨dm, em⟩ := R.mt
  refine R.kept (N := fun c => c = d) (fun c o e n => by rw [upd_ne n]; exact e) (fun c o z e => ?_) (fun z => ?_) (fun z => ?_) (fun c hc z => nd (z ▸ hc))
  · subst z
    exact Soft.no (.inr ⟨_, hd⟩) e
  · rw [z, hd] at e; cases e
  · rw [z, hd] at em; cases em
/-- one asking of a reading -/
def sp_partB (A : Ad) (K : PySem.W.Frag) (d : Nat) : Sp := fun vs H Q E => ∃ (r a m : Addr) (fp : List Addr) (B : Box) (l s q : Int) (n : Nat) (o : Option Ans) (B' : Box) (l' : Int), vs = [.ref r, .int q] ∧ ReadB A K H r a m fp B l s ∧ B.wt ≤ d ∧ askF n B q = some (o, B', l') ∧
  ∀ H' fp', ReadB A K H' r a m fp' B' l' (s + (q - l')) → (∀ c z, H c = some z → c ∉ fp → c ≠ m → H' c = some z) → (∀ c ∈ fp', c ∈ fp ∨ H c = none) →
    match o with
    | none => E (.ref A.c_NoValue) none H'
    | some an => ∀ v, an.At A H' v → Q v H'
theorem ok_partB (T : CT K mg A) (D : DT K mg A) (d : Nat) : MOk P w K mg base (L2.CX P w) (6 + d + 1) A.c_Reading "part" ["self", "most"] (sp_partB A K d) := by
  have M_allow := ok_Meter_allow (P := P) (w := w) (base := base) T D
  have M_leaf := ok_ask_leaf (P := P) (w := w) (base := base) T D d
  obtain ⟨M_four, M_eight⟩ := ok_asks (P := P) (w := w) (base := base) T D d
  refine MOk.of T.cl_Reading D.Reading_part fun f fd F => ?_
  refine F.okX (k := 6 + d) sc_Reading_part (fun vs H Q E h => ?_) (fun cdv Ar outer s H vs Q E hr h => ?_)
  · obtain ⟨r, a, m, fp, B, l, s, q, n, o, B', l', rfl, _⟩ := h
    rfl
  · obtain ⟨r, a, m, fp, B, l, sp, q, n, o, B', l', rfl, R, hw, e, k⟩ := h
    refine ⟨_, (pss_cons (ps_expr (pe_m M_allow (hr.mono (by first | decide | omega)) (pe_fld (pv 0) rfl) (pa_cons (pv 1) pa_nil)))
    (pss_one (ps_ret ((pe_alt (pe_m M_leaf (hr.mono (by first | decide | omega)) (pe_fld (pv 0) rfl) (pa_cons (pe_fld (pv 0) rfl) pa_nil)) (pe_alt (pe_mX M_four (hr.mono (by first | decide | omega)) (passes_tk (takes_of rfl rfl rfl rfl)) (pe_fld (pv 0) rfl) (pa_cons (pe_fld (pv 0) rfl) pa_nil)) (pe_mX M_eight (hr.mono (by first | decide | omega)) (passes_tk (takes_of rfl rfl rfl rfl)) (pe_fld (pv 0) rfl) (pa_cons (pe_fld (pv 0) rfl) pa_nil)))))))), ?_⟩
    have cl := T.cl_Reading
    obtain ⟨⟨rx, er⟩, hB, ⟨dm, em⟩, nr, nm, rm, ok, nk⟩ := R
    refine ⟨_, rfl, r, _, rx, _, _, rfl, er, cl, T.n_Reading_meter, rfl, m, dm, _, rfl, em, rfl, _, rfl, m, dm, l, sp, q, rfl, em, ?_⟩
    have fr1 : ∀ c o, H c = some o → ¬ c = m → (upd H m (.ins A.c_Meter dm (meF q sp))) c = some o := fun c o e n => by rw [upd_ne n]; exact e
    have hB1 := hB.kept (N := fun c => c = m) fr1 (fun c o z e => by subst z; rw [em] at e; exact ins_no (Option.some.inj e).symm) (fun c hc z => nm (z ▸ hc))
    have er1 := fr1 _ _ er rm
    refine ask_any (tx := a) (m := m) (fx := fp) (x := B) (l := q) (s := sp) (n := n) (fun R h => ⟨_, rfl, r, _, rx, _, _, rfl, er1, cl, T.n_Reading_box, rfl, h⟩) (fun R h => ⟨_, rfl, r, _, rx, _, _, rfl, er1, cl, T.n_Reading_meter, rfl, h⟩) hB1 ok hw nk ⟨dm, upd_same⟩ nm e fun H4 fp' hB4 hm4 nm4 fr4 sub4 => ?_
    obtain ⟨ok', _, kk'⟩ := askF_ok ok e
    have sub5 : ∀ c ∈ fp', c ∈ fp ∨ H c = none := fun c hc => by
      rcases sub4 c hc with z | z
      · exact .inl z
      · have ncm : c ≠ m := fun q => nm4 (q ▸ hc)
        rw [upd_ne ncm] at z
        exact .inr z
    refine k H4 fp' ⟨⟨rx, fr4 _ _ er1 nr rm⟩, hB4, hm4, fun z => ?_, nm4, rm, ok', by rw [kk']; exact nk⟩ (fun c z e hc hcm => fr4 c z (fr1 c z e hcm) hc hcm) sub5
    rcases sub5 r z with z | z
    · exact nr z
    · rw [er] at z; cases z
theorem ok_tookB (T : CT K mg A) (D : DT K mg A) : MOk P w K mg base CX0 1 A.c_Reading "took" ["self"] (fun vs H Q _ => ∃ r a m fp B l s, vs = [.ref r] ∧ ReadB A K H r a m fp B l s ∧ Q (.int s) H) := by
  obtain ⟨cl, f, fd, F, M, B⟩ := ok_Reading_took (P := P) (w := w) (base := base) T D
  refine ⟨cl, f, fd, F.imp fun vs H Q E h => ?_, M, B⟩
  obtain ⟨r, a, m, fp, B, l, s, rfl, ⟨⟨rx, e⟩, _, ⟨dm, e3⟩, _⟩, q⟩ := h
  exact ⟨r, rx, a, m, dm, l, s, rfl, e, e3, q⟩
end
/-! ### checks of fours, eights and powers -/
section
variable {P : Program} {w : World} {K : PySem.W.Frag} {mg : Str → Option Value} {base : Heap} {A : Ad}
def sp_check_line (K : PySem.W.Frag) : Sp := fun vs H Q _ => ∃ (p : Addr) (ns : List Int), vs = [.ref p] ∧ SqT K H p (ns.map V.int) ∧ (∃ h, ns.length = 2 * h ∧ 0 < h ∧ h ≤ 4) ∧ (∀ z ∈ ns, tame z) ∧ Crossed ns ∧ ∀ H', Same H H' → Q .non H'
theorem ok_check_line (T : CT K mg A) (D : DT K mg A) : COk P w K mg base CX0 2 "check_line" ["numbers"] (sp_check_line K) := by
  have G_require : COk P w K mg base CX0 1 "require" ["holds", "why"] sp_require := ok_require D
  refine COk.by D.check_line fun f fd F => ?_
  refine F.ok sc_check_line (fun vs H Q E h => ?_) (fun cdv Ar outer s H vs Q E hr h => ?_)
  · obtain ⟨p, ns, rfl, _⟩ := h
    rfl
  · obtain ⟨p, ns, rfl, hp, ⟨h, hl, h0, h4⟩, hf, hc, k⟩ := h
    refine ⟨_, (pss_cons (ps_set (i := 1) sc_check_line.nd rfl (Or.inl rfl) (pe_op op_fdiv (pe_callB call_len_seq (by rfl) T.b_len (by decide +kernel) (pa_cons (pv 0) pa_nil)) pe_int))
    (pss_cons (ps_asg (pe_tup (pa_cons (pe_slice sl_tupA (pv 0) po_none (po_some (pv 1))) (pa_cons (pe_slice sl_tupA (pv 0) (po_some (pv 1)) po_none) pa_nil))) (pg_tup rfl (pgs_cons (pg_name (i := 2) sc_check_line.nd rfl (Or.inr rfl)) (pgs_cons (pg_name (i := 3) sc_check_line.nd rfl (Or.inr rfl)) pgs_nil))))
    (pss_cons (ps_setLc2 (i := 4) (own := [("i", 5), ("k", 6)]) (vs1 := [6]) (g := gName 5) (g1 := gName 6) (tt := tYes) (tt1 := tYes) rfl sc_check_line.nd rfl rfl (sw_true rfl rfl rfl (by decide +kernel)) (pi_range1 rfl T.b_range (pa_cons (pv 1) pa_nil)) (blkOk_by (own := [("i", 5), ("k", 6)]) (N := ["numbers", "half", "above", "below", "crossed", "i", "k"]) (sc := defScope s_check_line) (by decide +kernel)) (by decide) (fun _ _ _ _ _ => (pg_name (i := 5) sc_check_line.nd rfl (Or.inl rfl))) (fun _ _ _ _ _ => pts_nil) (fun _ _ _ _ _ => (pi_range1 rfl T.b_range (pa_cons (pv 5) pa_nil))) (fun _ _ _ _ _ => (pg_name (i := 6) sc_check_line.nd rfl (Or.inl rfl))) (fun _ _ _ _ _ => pts_nil) (fun _ _ _ _ _ => (pe_cmpR op_ne (pe_op op_mul (pe_ix (show IxR _ (rIxT K) from ix_tup) (pv 2) (pv 5) (fun _ _ => rfl)) (pe_ix (show IxR _ (rIxT K) from ix_tup) (pv 3) (pv 6) (fun _ _ => rfl))) (pe_op op_mul (pe_ix (show IxR _ (rIxT K) from ix_tup) (pv 2) (pv 6) (fun _ _ => rfl)) (pe_ix (show IxR _ (rIxT K) from ix_tup) (pv 3) (pv 5) (fun _ _ => rfl))) (nomark _))))
    (pss_one (ps_expr (pe_c G_require (hr.mono (by first | decide | omega)) (pa_cons (pe_callB (cr_any rfl) (by rfl) T.b_any (by decide +kernel) (pa_cons (pv 4) pa_nil)) (pa_cons pe_str pa_nil)))))))), ?_⟩
    have e1 : (((ns.map V.int).length : Nat) : Int) / 2 = ((h : Nat) : Int) := by rw [List.length_map, hl]; omega
    have nf : ¬ (HT.sIx (ns.map V.int).length 0 none = 0 ∧ HT.sIx (ns.map V.int).length (ns.map V.int).length (some (h : Int)) = (ns.map V.int).length) := fun z => by
      have := z.2
      rw [HT.sIx_nat, List.length_map] at this
      omega
    have c1 : cutV (ns.map V.int) none (some (h : Int)) = (ns.take h).map V.int := by
      rw [cut_takeB, List.map_take]
    have c2 : cutV (ns.map V.int) (some (h : Int)) none = (ns.drop h).map V.int := by
      rw [cut_dropB, List.map_drop]
    have lt : (ns.take h).length = h := by rw [List.length_take]; omega
    have ld : (ns.drop h).length = h := by rw [List.length_drop]; omega
    refine ⟨_, rfl, p, _, rfl, .inr hp, _, _, rfl, rfl, ⟨by decide, by decide⟩, ?_⟩
    show tSeq _ _ _ [some (V.ref p), some (V.int ((((ns.map V.int).length : Nat) : Int) / 2)), none, none, none, none, none] H
    rw [e1]
    refine ⟨_, rfl, _, rfl, _, rfl, p, _, rfl, hp, fun z => absurd z nf, fun _ u nu => ?_⟩
    have s1 := same_upd (o := .tup (cutV (ns.map V.int) none (some (h : Int)))) nu
    have hu : SqT K (upd H u (.tup (cutV (ns.map V.int) none (some (h : Int))))) u ((ns.take h).map V.int) := by rw [← c1]; exact SqT.of upd_same
    generalize upd H u (.tup (cutV (ns.map V.int) none (some (h : Int)))) = H1 at s1 hu ⊢
    have hp1 := sqT_same hp s1
    refine ⟨_, rfl, _, rfl, _, rfl, p, _, rfl, hp1, fun z => absurd z (not_whole h0 (by rw [List.length_map]; omega)), fun _ v nv => ?_⟩
    have s2 := same_upd (o := .tup (cutV (ns.map V.int) (some (h : Int)) none)) nv
    have hv : SqT K (upd H1 v (.tup (cutV (ns.map V.int) (some (h : Int)) none))) v ((ns.drop h).map V.int) := by rw [← c2]; exact SqT.of upd_same
    generalize upd H1 v (.tup (cutV (ns.map V.int) (some (h : Int)) none)) = H2 at s2 hv ⊢
    have hu2 := sqT_same hu s2
    refine ⟨(by show 2 ≤ sizeLine; decide), fun q3 nq3 => ?_⟩
    have s3 := same_upd (o := .tup [V.ref u, .ref v]) nq3
    refine ⟨q3, _, rfl, SqT.of upd_same, rfl, _, _, rfl, _, _, rfl, rfl, ?_⟩
    have hu3 := sqT_same hu2 s3
    have hv3 := sqT_same hv s3
    generalize upd H2 q3 (.tup [V.ref u, .ref v]) = H3 at s3 hu3 hv3 ⊢
    have gt : ∀ j : Nat, j < h → ((ns.take h).map V.int)[j]? = some (.int (ns.getD j 0)) := fun j hj => by
      rw [List.getElem?_map, List.getElem?_take_of_lt hj, List.getD_eq_getElem?_getD, List.getElem?_eq_getElem (show j < ns.length by omega)]
      rfl
    have gd : ∀ j : Nat, j < h → ((ns.drop h).map V.int)[j]? = some (.int (ns.getD (j + h) 0)) := fun j hj => by
      rw [List.getElem?_map, List.getElem?_drop, List.getD_eq_getElem?_getD, Nat.add_comm h j, List.getElem?_eq_getElem (show j + h < ns.length by omega)]
      rfl
    have tm : ∀ j : Nat, j < ns.length → tame (ns.getD j 0) := fun j hj => hf _ (by
      rw [List.getD_eq_getElem?_getD, List.getElem?_eq_getElem hj]
      exact List.getElem_mem hj)
    have cm : ∀ a b : Int, tame a → CMul a b := fun a b ha => .inl (by
      have : (2 : Int) ^ 64 = 18446744073709551616 := by decide
      obtain ⟨h1, h2⟩ := ha
      omega)
    have hX : ∃ i k : Nat, k < i ∧ i < h ∧ ns.getD i 0 * ns.getD (k + h) 0 ≠ ns.getD k 0 * ns.getD (i + h) 0 := by
      obtain ⟨i, k, h1, h2, h3⟩ := hc
      rw [show ns.length / 2 = h by omega] at h2 h3
      exact ⟨i, k, h1, h2, h3⟩
    have fin : ∀ (D0 : Addr) (bs : List Bool) (H' : Hp), H' D0 = some (.lst (bs.map V.bl)) → Same H3 H' → true ∈ bs → tDrop (tCall sp_require [] E0 (tCons (tCB (rAny K) (tCons (tVar 4) tNil)) (tCons (tC (.str "the numbers above and below the line are told by one another")) tNil))) { nx := fun _ H' => Q .non H', rt := Q } [some (V.ref p), some (V.int h), some (V.ref u), some (V.ref v), some (V.ref D0), none, none] H' := fun D0 bs H' hD s4 hb => by
      refine ⟨_, rfl, D0, bs, rfl, SqL.of hD, _, _, rfl, ?_, k H' (((s1.trans s2).trans s3).trans s4)⟩
      rw [List.any_eq_true]
      exact ⟨true, hb, rfl⟩
    refine ⟨_, rfl, (h : Int), rfl, by omega, by omega, fun D0 nD => ?_⟩
    refine ⟨fun i m H' => m = h - i ∧ i ≤ h ∧ Same H3 H' ∧ ∃ bs : List Bool, H' D0 = some (.lst (bs.map V.bl)) ∧ bs.length ≤ 4 * i ∧ ∀ i' k' : Nat, k' < i' → i' < i → ns.getD i' 0 * ns.getD (k' + h) 0 ≠ ns.getD k' 0 * ns.getD (i' + h) 0 → true ∈ bs,
      ⟨h, by omega, Nat.zero_le _, same_upd nD, [], upd_same, Nat.zero_le _, fun i' k' _ z _ => absurd z (Nat.not_lt_zero _)⟩, ?_⟩
    rintro i m H' ⟨rfl, hi, s4, bs, hD, hb, hall⟩
    by_cases hlt : i < h
    · refine .inr ⟨hlt, fun H'' => i + 1 ≤ h ∧ Same H3 H'' ∧ ∃ bs : List Bool, H'' D0 = some (.lst (bs.map V.bl)) ∧ bs.length ≤ 4 * (i + 1) ∧ ∀ i' k' : Nat, k' < i' → i' < i + 1 → ns.getD i' 0 * ns.getD (k' + h) 0 ≠ ns.getD k' 0 * ns.getD (i' + h) 0 → true ∈ bs,
        fun H'' z => ⟨h - (i + 1), by omega, rfl, z⟩, fun x H'' y => ?_⟩
      obtain ⟨rfl, rfl⟩ := y
      refine ⟨rfl, ?_⟩
      refine ⟨_, rfl, 0 + (i : Int), rfl, by omega, by omega, ?_⟩
      refine ⟨fun j kk H5 => kk = i - j ∧ j ≤ i ∧ Same H3 H5 ∧ ∃ bs : List Bool, H5 D0 = some (.lst (bs.map V.bl)) ∧ bs.length ≤ 4 * i + j ∧ ∀ i' k' : Nat, k' < i' → (i' < i ∨ (i' = i ∧ k' < j)) → ns.getD i' 0 * ns.getD (k' + h) 0 ≠ ns.getD k' 0 * ns.getD (i' + h) 0 → true ∈ bs,
        ⟨i, by omega, Nat.zero_le _, s4, bs, hD, hb, fun i' k' z1 z2 => hall i' k' z1 (by omega)⟩, ?_⟩
      rintro j kk H5 ⟨rfl, hj, s5, bs5, hD5, hb5, hall5⟩
      have hti : (0 + (i : Int)).toNat = i := by omega
      by_cases hjl : j < i
      · refine .inr ⟨(by show j < (0 + (i : Int)).toNat; omega), fun H6 => j + 1 ≤ i ∧ Same H3 H6 ∧ ∃ bs : List Bool, H6 D0 = some (.lst (bs.map V.bl)) ∧ bs.length ≤ 4 * i + (j + 1) ∧ ∀ i' k' : Nat, k' < i' → (i' < i ∨ (i' = i ∧ k' < j + 1)) → ns.getD i' 0 * ns.getD (k' + h) 0 ≠ ns.getD k' 0 * ns.getD (i' + h) 0 → true ∈ bs,
          fun H6 z => ⟨i - (j + 1), by omega, rfl, z⟩, fun x H6 y => ?_⟩
        obtain ⟨rfl, rfl⟩ := y
        refine ⟨rfl, ?_⟩
        have hu5 := sqT_same hu3 s5
        have hv5 := sqT_same hv3 s5
        have zi : ∀ {xs : List V} {n : Nat} {z : V}, xs[n]? = some z → atI xs (0 + (n : Int)) = some z := fun {xs n z} e => by rw [Int.zero_add]; exact atI_nat e
        refine ⟨_, rfl, _, rfl, u, _, _, _, rfl, rfl, hu5, zi (gt i hlt), _, rfl, _, rfl, v, _, _, _, rfl, rfl, hv5, zi (gd j (by omega)), _, _, rfl, rfl, cm _ _ (tm i (by omega)), ?_⟩
        refine ⟨_, rfl, _, rfl, u, _, _, _, rfl, rfl, hu5, zi (gt j (by omega)), _, rfl, _, rfl, v, _, _, _, rfl, rfl, hv5, zi (gd i hlt), _, _, rfl, rfl, cm _ _ (tm j (by omega)), ?_⟩
        refine ⟨rfl, _, hD5, ?_, by omega, ?_, bs5 ++ [!decide (V.int (ns.getD i 0 * ns.getD (j + h) 0) = V.int (ns.getD j 0 * ns.getD (i + h) 0))], ?_, ?_, ?_⟩
        · rw [List.length_map]
          exact Nat.lt_of_le_of_lt hb5 (Nat.lt_of_lt_of_le (show 4 * i + j < 64 by omega) (by decide))
        · intro c o z
          rw [upd_ne (ne_of_none z nD)]
          exact s5 _ _ z
        · rw [upd_same, List.map_append]
          rfl
        · rw [List.length_append]
          show _ + 1 ≤ _
          omega
        · intro i' k' z1 z2 z3
          rw [List.mem_append]
          rcases z2 with z2 | ⟨rfl, z2⟩
          · exact .inl (hall5 i' k' z1 (.inl z2) z3)
          · by_cases hk : k' < j
            · exact .inl (hall5 i' k' z1 (.inr ⟨rfl, hk⟩) z3)
            · have ek : k' = j := by omega
              subst ek
              right
              rw [List.mem_singleton, decide_eq_false (fun q => z3 (V.int.inj q))]
              rfl
      · refine .inl ⟨(by show (0 + (i : Int)).toNat ≤ j; omega), by omega, s5, bs5, hD5, by omega, fun i' k' z1 z2 z3 => hall5 i' k' z1 ?_ z3⟩
        rcases Nat.lt_or_ge i' i with q | q
        · exact .inl q
        · exact .inr ⟨by omega, by omega⟩
    · have ei : i = h := by omega
      obtain ⟨i0, k0, z1, z2, z3⟩ := hX
      exact .inl ⟨(by show ((h : Int)).toNat ≤ i; omega), fin D0 bs H' hD s4 (hall i0 k0 z1 (by omega) z3)⟩
/-- a good tree, not too deep -/
def sp_chk (K : PySem.W.Frag) (N : Nat) : Sp := fun vs H Q _ => ∃ (v : Addr) (t : Tree) (d : Int), vs = [.ref v, .int d] ∧ t.At K H v ∧ t.Good ∧ d + t.ht ≤ 5 ∧ t.ht ≤ N ∧ ∀ H', Same H H' → Q .non H'
def sp_check_four (K : PySem.W.Frag) (N : Nat) : Sp := fun vs H Q _ => ∃ (a p tx : Addr) (ns : List Int) (x : Tree) (d : Int), vs = [.ref a, .int d] ∧ SqT K H a [.str "four", .ref p, .ref tx] ∧ SqT K H p (ns.map V.int) ∧ ns.length = 4 ∧ (∀ z ∈ ns, tame z) ∧ Crossed ns ∧ x.At K H tx ∧ x.Good ∧ d + 1 + x.ht ≤ 5 ∧ x.ht ≤ N ∧ ∀ H', Same H H' → Q .non H'
theorem ok_check_four {k N : Nat} (T : CT K mg A) (D : DT K mg A) (hk : 2 ≤ k) (G_check_at_depth : COk P w K mg base CX0 k "check_at_depth" ["tree", "depth"] (sp_chk K N)) : COk P w K mg base CX0 (k + 1) "check_four" ["tree", "depth"] (sp_check_four K N) := by
  have G_check_row := ok_check_row (P := P) (w := w) (base := base) T D
  have G_check_line := ok_check_line (P := P) (w := w) (base := base) T D
  refine COk.by D.check_four fun f fd F => ?_
  refine F.ok (k := k) sc_check_four (fun vs H Q E h => ?_) (fun cdv Ar outer s H vs Q E hr h => ?_)
  · obtain ⟨a, p, tx, ns, x, d, rfl, _⟩ := h
    rfl
  · obtain ⟨a, p, tx, ns, x, d, rfl, ha, hp, hl, ht, hc, hx, gx, hd, hn, q⟩ := h
    refine ⟨_, (pss_cons (ps_expr (pe_c G_check_row (hr.mono (by first | decide | omega)) (pa_cons (pe_ix ix_tup (pv 0) pe_int (fun _ _ => rfl)) (pa_cons pe_int (pa_cons pe_int pa_nil)))))
    (pss_cons (ps_expr (pe_c G_check_line (hr.mono (by first | decide | omega)) (pa_cons (pe_ix ix_tup (pv 0) pe_int (fun _ _ => rfl)) pa_nil)))
    (pss_one (ps_expr (pe_c G_check_at_depth (hr.mono (by first | decide | omega)) (pa_cons (pe_ix ix_tup (pv 0) pe_int (fun _ _ => rfl)) (pa_cons (pe_op op_add (pv 1) pe_int) pa_nil))))))), ?_⟩
    refine ⟨_, rfl, a, _, 1, _, rfl, rfl, ha, atI_nat (j := 1) rfl, p, ns, 4, 4, rfl, hp, by omega, by omega, ht, ?_⟩
    refine ⟨_, rfl, a, _, 1, _, rfl, rfl, ha, atI_nat (j := 1) rfl, p, ns, rfl, hp, ⟨2, hl, by decide, by decide⟩, ht, hc, fun H1 s1 => ?_⟩
    exact ⟨_, rfl, a, _, 2, _, rfl, rfl, sqT_same ha s1, atI_nat (j := 2) rfl, _, rfl, _, _, rfl, rfl, tx, x, d + 1, rfl, hx.same s1, gx, hd, hn, fun H2 s2 => q H2 (s1.trans s2)⟩
def sp_check_eight (K : PySem.W.Frag) (N : Nat) : Sp := fun vs H Q _ => ∃ (a p tx ty : Addr) (ns : List Int) (x y : Tree) (d : Int), vs = [.ref a, .int d] ∧ SqT K H a [.str "eight", .ref p, .ref tx, .ref ty] ∧ SqT K H p (ns.map V.int) ∧ ns.length = 8 ∧ (∀ z ∈ ns, tame z) ∧ Crossed ns ∧ x.At K H tx ∧ y.At K H ty ∧ x.Good ∧ y.Good ∧ d + 1 + x.ht ≤ 5 ∧ d + 1 + y.ht ≤ 5 ∧ x.ht ≤ N ∧ y.ht ≤ N ∧ ∀ H', Same H H' → Q .non H'
theorem ok_check_eight {k N : Nat} (T : CT K mg A) (D : DT K mg A) (hk : 2 ≤ k) (G_check_at_depth : COk P w K mg base CX0 k "check_at_depth" ["tree", "depth"] (sp_chk K N)) : COk P w K mg base CX0 (k + 1) "check_eight" ["tree", "depth"] (sp_check_eight K N) := by
  have G_check_row := ok_check_row (P := P) (w := w) (base := base) T D
  have G_check_line := ok_check_line (P := P) (w := w) (base := base) T D
  refine COk.by D.check_eight fun f fd F => ?_
  refine F.ok (k := k) sc_check_eight (fun vs H Q E h => ?_) (fun cdv Ar outer s H vs Q E hr h => ?_)
  · obtain ⟨a, p, tx, ty, ns, x, y, d, rfl, _⟩ := h
    rfl
  · obtain ⟨a, p, tx, ty, ns, x, y, d, rfl, ha, hp, hl, ht, hc, hx, hy, gx, gy, hd, hd2, hn, hn2, q⟩ := h
    refine ⟨_, (pss_cons (ps_expr (pe_c G_check_row (hr.mono (by first | decide | omega)) (pa_cons (pe_ix ix_tup (pv 0) pe_int (fun _ _ => rfl)) (pa_cons pe_int (pa_cons pe_int pa_nil)))))
    (pss_cons (ps_expr (pe_c G_check_line (hr.mono (by first | decide | omega)) (pa_cons (pe_ix ix_tup (pv 0) pe_int (fun _ _ => rfl)) pa_nil)))
    (pss_cons (ps_expr (pe_c G_check_at_depth (hr.mono (by first | decide | omega)) (pa_cons (pe_ix ix_tup (pv 0) pe_int (fun _ _ => rfl)) (pa_cons (pe_op op_add (pv 1) pe_int) pa_nil))))
    (pss_one (ps_expr (pe_c G_check_at_depth (hr.mono (by first | decide | omega)) (pa_cons (pe_ix ix_tup (pv 0) pe_int (fun _ _ => rfl)) (pa_cons (pe_op op_add (pv 1) pe_int) pa_nil)))))))), ?_⟩
    refine ⟨_, rfl, a, _, 1, _, rfl, rfl, ha, atI_nat (j := 1) rfl, p, ns, 8, 8, rfl, hp, by omega, by omega, ht, ?_⟩
    refine ⟨_, rfl, a, _, 1, _, rfl, rfl, ha, atI_nat (j := 1) rfl, p, ns, rfl, hp, ⟨4, hl, by decide, by decide⟩, ht, hc, fun H1 s1 => ?_⟩
    refine ⟨_, rfl, a, _, 2, _, rfl, rfl, sqT_same ha s1, atI_nat (j := 2) rfl, _, rfl, _, _, rfl, rfl, tx, x, d + 1, rfl, hx.same s1, gx, hd, hn, fun H2 s2 => ?_⟩
    exact ⟨_, rfl, a, _, 3, _, rfl, rfl, sqT_same ha (s1.trans s2), atI_nat (j := 3) rfl, _, rfl, _, _, rfl, rfl, ty, y, d + 1, rfl, hy.same (s1.trans s2), gy, hd2, hn2, fun H3 s3 => q H3 ((s1.trans s2).trans s3)⟩
def sp_check_power (K : PySem.W.Frag) (N : Nat) : Sp := fun vs H Q _ => ∃ (a tx : Addr) (x : Tree) (n : Nat) (d : Int), vs = [.ref a, .int d] ∧ SqT K H a [.str "power", .ref tx, .int n] ∧ 1 ≤ n ∧ n ≤ 4 ∧ x.At K H tx ∧ x.Good ∧ d + 1 + x.ht ≤ 5 ∧ x.ht ≤ N ∧ ∀ H', Same H H' → Q .non H'
theorem ok_check_power {k N : Nat} (T : CT K mg A) (D : DT K mg A) (hk : 2 ≤ k) (G_check_at_depth : COk P w K mg base CX0 k "check_at_depth" ["tree", "depth"] (sp_chk K N)) : COk P w K mg base CX0 (k + 1) "check_power" ["tree", "depth"] (sp_check_power K N) := by
  have G_check_row := ok_check_row (P := P) (w := w) (base := base) T D
  have G_require : COk P w K mg base CX0 1 "require" ["holds", "why"] sp_require := ok_require D
  obtain ⟨tP, gi_MOST_POWER⟩ := T.i_MOST_POWER
  refine COk.by D.check_power fun f fd F => ?_
  refine F.ok (k := k) sc_check_power (fun vs H Q E h => ?_) (fun cdv Ar outer s H vs Q E hr h => ?_)
  · obtain ⟨a, tx, x, n, d, rfl, _⟩ := h
    rfl
  · obtain ⟨a, tx, x, n, d, rfl, ha, h1, h4, hx, gx, hd, hn, q⟩ := h
    refine ⟨_, (pss_cons (ps_expr (pe_c G_check_row (hr.mono (by first | decide | omega)) (pa_cons (pe_slice sl_tup (pv 0) (po_some pe_int) po_none) (pa_cons pe_int (pa_cons pe_int pa_nil)))))
    (pss_cons (ps_expr (pe_c G_require (hr.mono (by first | decide | omega)) (pa_cons (pe_chain op_le op_le pe_int (pe_ix ix_tup (pv 0) pe_int (fun _ _ => rfl)) (pe_glob (v := .int 4) (by rfl) gi_MOST_POWER ⟨_, rfl⟩)) (pa_cons pe_str pa_nil))))
    (pss_one (ps_expr (pe_c G_check_at_depth (hr.mono (by first | decide | omega)) (pa_cons (pe_ix ix_tup (pv 0) pe_int (fun _ _ => rfl)) (pa_cons (pe_op op_add (pv 1) pe_int) pa_nil))))))), ?_⟩
    refine ⟨_, rfl, _, rfl, a, _, rfl, ha, not_whole (k := 2) (by decide) (by show 2 ≤ 3; decide), fun u nu => ?_⟩
    have s1 := same_upd (o := .tup (cutV [.str "power", .ref tx, .int n] (some 2) none)) nu
    have hu : SqT K (upd H u (.tup (cutV [.str "power", .ref tx, .int n] (some 2) none))) u ([(n : Int)].map V.int) := by
      rw [cutV2]
      exact SqT.of upd_same
    refine ⟨u, [(n : Int)], 1, 1, rfl, hu, Int.le_refl _, Int.le_refl _, fun z hz => ?_, ?_⟩
    · rw [List.mem_singleton] at hz
      subst hz
      exact ⟨by omega, by omega⟩
    have ha1 := sqT_same ha s1
    refine ⟨_, rfl, a, _, 2, _, rfl, rfl, ha1, atI_nat (j := 2) rfl, _, _, rfl, rfl, true, (congrArg V.bl (decide_eq_true (show (1 : Int) ≤ (n : Int) by omega))), iteT ⟨_, _, rfl, rfl, _, _, rfl, decide_eq_true (by omega), ?_⟩⟩
    exact ⟨_, rfl, a, _, 1, _, rfl, rfl, ha1, atI_nat (j := 1) rfl, _, rfl, _, _, rfl, rfl, tx, x, d + 1, rfl, hx.same s1, gx, hd, hn, fun H2 s2 => q H2 (s1.trans s2)⟩
theorem chk_leaf {H : Hp} {Q : VK} {v : Addr} {f : Leaf} {d : Int} {sO sE sP : Sp} (ht : f.At K H v) (hg : f.Good) (hd : d ≤ 5) (q : ∀ H', Same H H' → Q .non H') : sp_check_at K (sp_check_fraction K) (sp_check_root K) (sp_check_ruled K) sO sE sP [.ref v, .int d] H Q E0 := by
  cases f with
  | frac t b => exact ⟨v, "fraction", [.int t, .int b], d, rfl, hd, ht, .inl ⟨rfl, rfl, v, t, b, d, rfl, ht, hg.1, hg.2.1, hg.2.2, fun H' s' => q H' s'⟩⟩
  | root t s b => exact ⟨v, "root", [.int t, .int s, .int b], d, rfl, hd, ht, .inr (.inl ⟨rfl, rfl, v, t, s, b, d, rfl, ht, hg.1, hg.2.1, hg.2.2.1, hg.2.2.2.1, hg.2.2.2.2, fun H' s' => q H' s'⟩)⟩
  | ruled ps ring steps =>
    obtain ⟨p, q', u, hv, hp, hq, hu⟩ := id ht
    exact ⟨v, "ruled", [.ref p, .ref q', .ref u], d, rfl, hd, hv, .inr (.inr (.inl ⟨rfl, rfl, v, p, q', u, ps, ring, steps, d, rfl, hv, hp, hq, hu, hg, fun H' s' => q H' s'⟩))⟩
theorem COk.imp {k : Nat} {x : Str} {ps : List Str} {sp sp' : Sp} (h : COk P w K mg base CX0 k x ps sp) (i : ∀ vs H Q E, sp' vs H Q E → sp vs H Q E) : COk P w K mg base CX0 k x ps sp' := by
  obtain ⟨f, fd, F, a, b, c⟩ := h
  exact ⟨f, fd, F.imp i, a, b, c⟩
theorem ok_chk (T : CT K mg A) (TT : TB K w mg A) (D : DT K mg A) : ∀ N : Nat, COk P w K mg base CX0 (4 + 2 * N) "check_at_depth" ["tree", "depth"] (sp_chk K N)
  | 0 => by
    refine (ok_check_at_depth (P := P) (w := w) (base := base) (k := 3) T TT D (by decide) (ok_check_fraction T D) (ok_check_root T D) (ok_check_ruled T D) (ok_no D.check_four) (ok_no D.check_eight) (ok_no D.check_power)).imp fun vs H Q E h => ?_
    obtain ⟨v, t, d, rfl, ht, hg, hd, hn, q⟩ := h
    cases t with
    | leaf f => exact chk_leaf ht hg (by have : d + 0 ≤ 5 := hd; omega) q
    | four ns x => exact absurd hn (by show ¬ x.ht + 1 ≤ 0; omega)
    | eight ns x y => exact absurd hn (by show ¬ max x.ht y.ht + 1 ≤ 0; omega)
    | power x n => exact absurd hn (by show ¬ x.ht + 1 ≤ 0; omega)
  | N + 1 => by
    have G := ok_chk T TT D N
    refine ((ok_check_at_depth (P := P) (w := w) (base := base) (k := 4 + 2 * N + 1) T TT D (by omega) ((ok_check_fraction T D).mono (by omega)) ((ok_check_root T D).mono (by omega)) ((ok_check_ruled T D).mono (by omega)) (ok_check_four T D (by omega) G) (ok_check_eight T D (by omega) G) (ok_check_power T D (by omega) G)).mono (by omega)).imp fun vs H Q E h => ?_
    obtain ⟨v, t, d, rfl, ht, hg, hd, hn, q⟩ := h
    cases t with
    | leaf f => exact chk_leaf ht hg (by have : d + 0 ≤ 5 := hd; omega) q
    | four ns x =>
      obtain ⟨p, tx, hv, hp, hx⟩ := ht
      obtain ⟨hl, ht', hc, gx⟩ := hg
      have h1 : d + ((x.ht + 1 : Nat) : Int) ≤ 5 := hd
      exact ⟨v, "four", [.ref p, .ref tx], d, rfl, by omega, hv, .inr (.inr (.inr (.inl ⟨rfl, rfl, v, p, tx, ns, x, d, rfl, hv, hp, hl, ht', hc, hx, gx, by omega, Nat.le_of_succ_le_succ hn, q⟩)))⟩
    | eight ns x y =>
      obtain ⟨p, tx, ty, hv, hp, hx, hy⟩ := ht
      obtain ⟨hl, ht', hc, gx, gy⟩ := hg
      have h1 : d + ((max x.ht y.ht + 1 : Nat) : Int) ≤ 5 := hd
      have h2 : max x.ht y.ht + 1 ≤ N + 1 := hn
      exact ⟨v, "eight", [.ref p, .ref tx, .ref ty], d, rfl, by omega, hv, .inr (.inr (.inr (.inr (.inl ⟨rfl, rfl, v, p, tx, ty, ns, x, y, d, rfl, hv, hp, hl, ht', hc, hx, hy, gx, gy, by omega, by omega, by omega, by omega, q⟩))))⟩
    | power x n =>
      obtain ⟨tx, hv, hx⟩ := ht
      obtain ⟨g1, g4, gx⟩ := hg
      have h1 : d + ((x.ht + 1 : Nat) : Int) ≤ 5 := hd
      exact ⟨v, "power", [.ref tx, .int n], d, rfl, by omega, hv, .inr (.inr (.inr (.inr (.inr ⟨rfl, rfl, v, tx, x, n, d, rfl, hv, g1, g4, hx, gx, by omega, Nat.le_of_succ_le_succ hn, q⟩))))⟩
/-- a reader of any good tree, up to five deep -/
def sp_readerB (A : Ad) (K : PySem.W.Frag) : Sp := fun vs H Q _ => ∃ (v : Addr) (t : Tree), vs = [.ref v] ∧ t.At K H v ∧ t.Good ∧ t.ht ≤ 4 ∧
  ∀ r a m fp B H', ReadB A K H' r a m fp B 0 0 → t.Starts B → Same H H' → H r = none → H m = none → (∀ c ∈ fp, H c = none) → Q (.ref r) H'
theorem ok_readerB (T : CT K mg A) (TT : TB K w mg A) (D : DT K mg A) : COk P w K mg base CX0 27 "reader" ["tree"] (sp_readerB A K) := by
  have G_box_of := ok_box_of_all (P := P) (w := w) (base := base) T D 4
  have I_Reading := ok_Reading_init (P := P) (w := w) (base := base) T D
  have G_check_tree := ok_check_tree D (ok_chk (P := P) (w := w) (base := base) T TT D 4)
  refine COk.by D.reader fun f fd F => ?_
  refine F.ok (k := 26) sc_reader (fun vs H Q E h => ?_) (fun cdv Ar outer s H vs Q E hr h => ?_)
  · obtain ⟨v, t, rfl, _⟩ := h
    rfl
  · obtain ⟨v, t, rfl, ht, hg, hh, k⟩ := h
    refine ⟨_, (pss_cons (ps_expr (pe_c G_check_tree (hr.mono (by first | decide | omega)) (pa_cons (pv 0) pa_nil)))
    (pss_one (ps_ret (pe_mk I_Reading (hr.mono (by first | decide | omega)) (pa_cons (pe_c G_box_of (hr.mono (by first | decide | omega)) (pa_cons (pv 0) pa_nil)) pa_nil))))), ?_⟩
    refine ⟨_, rfl, _, rfl, v, t, 1, rfl, ht, hg, by omega, hh, fun H1 s1 => ?_⟩
    refine ⟨_, rfl, v, t, rfl, ht.same s1, hg, hh, fun a fp B H2 hB sB ok s2 nf => ?_⟩
    intro x dx nx nd ne
    refine ⟨x, dx, a, rfl, upd_same, fun m H3 nm hx hm kp => ⟨rfl, ?_⟩⟩
    have s3 : Same H2 H3 := fun b o e => kp b o (by rw [upd_ne (ne_of_none e nx), upd_ne (ne_of_none e nd)]; exact e) (ne_of_none e nx)
    have nm2 : H2 m = none := by
      cases q : H2 m with
      | none => rfl
      | some o =>
        have hmx : m ≠ x := fun z => by rw [z, upd_same] at nm; cases nm
        have hmd : m ≠ dx := fun z => by rw [z, upd_ne ne, upd_same] at nm; cases nm
        rw [upd_ne hmx, upd_ne hmd, q] at nm
        cases nm
    have hxm : x ≠ m := fun z => by rw [← z, upd_same] at nm; cases nm
    have out : ∀ c, H2 c = none → c ∉ fp := fun c e hc => by
      rcases hB.soft c hc with ⟨_, _, _, q⟩ | ⟨_, q⟩
      · rw [e] at q; cases q
      · rw [e] at q; cases q
    exact k x a m fp B H3 ⟨⟨dx, hx⟩, hB.same s3, hm, out x nx, out m nm2, hxm, ok, sB.kind⟩ sB ((s1.trans s2).trans s3) ((s1.trans s2).free nx) ((s1.trans s2).free nm2) (fun c hc => s1.free (nf c hc))
end
/-! ### calls of defs that may raise -/
section
variable {X : Cx} {k : Nat} {x m : Str} {ps : List Str} {sp : Sp} {o e : Expr} {es : List Expr} {ta : TE} {t : TA} {p pos apos : Pos} {C : Addr}
theorem pe_cX {E : XK} (C : COk X.prog X.w X.K X.mg X.base (L2.CX X.prog X.w) k x ps sp) (hr : Room k X.A) (hx : Passes (L2.CX X.prog X.w) X E) (ha : PA X (e :: es) t) (hg : Gl X x := by rfl)
    (hdb : (x == ("__debug__" : Str)) = false := by decide) (he : starEach (e :: es) X.env = (false, eval e X.env) :: starEach es X.env := by rfl) (hpl : (backTo pos (starEach es X.env)).any (·.1) = false := by rfl) :
    PE X (.Call (.Name x p) (e :: es) [] pos) (tCall sp [] E t) := by
  obtain ⟨f, fd, F, a, b, c⟩ := C
  exact pe_call F hr hg a b c .nil hx ha hdb he hpl
def tCallS (sp : Sp) (E : L2.St → XK) (t : TA) : TE := fun σ H Q => t σ H fun vs H2 => sp vs H2 Q (E σ)
open PySem.Spec PyProof.Rows in
theorem pe_cS {E : L2.St → XK} (C : COk X.prog X.w X.K X.mg X.base (L2.CX X.prog X.w) k x ps sp) (hr : Room k X.A) (hx : ∀ σ, PassesAt (L2.CX X.prog X.w) X σ (E σ)) (ha : PA X (e :: es) t) (hg : Gl X x := by rfl)
    (hdb : (x == ("__debug__" : Str)) = false := by decide) (he : starEach (e :: es) X.env = (false, eval e X.env) :: starEach es X.env := by rfl) (hpl : (backTo pos (starEach es X.env)).any (·.1) = false := by rfl) :
    PE X (.Call (.Name x p) (e :: es) [] pos) (tCallS sp E t) := by
  obtain ⟨f, fd, F, a, b, c⟩ := C
  refine ⟨fun pins s σ H Q I h => ?_⟩
  refine wpAny_Call_Name_kw (ld_glob I hg a ?_ hdb)
  refine PySem.W.callWith_K (h₀ := X.base) I.ok.mod.kin b (thn (ha.run pos pins s σ H _ I h) fun us s1 ⟨vs, H1, I1, r, q⟩ => ⟨I1.kIn, ?_⟩) he hpl
  exact run_fnS F hr c (hx σ) I1 r q
end
/-! ### the checks refuse what is no tree -/
section
variable {X : Cx} {k i : Nat} {x x' : Str} {ps : List Str} {sp : Sp} {e : Expr} {es : List Expr} {t : TA} {p pos : Pos}
theorem pe_cLX {E : XK} (C : COk X.prog X.w X.K X.mg X.base (L2.CX X.prog X.w) k x' ps sp) (hr : Room k X.A) (hx : Passes (L2.CX X.prog X.w) X E) (hN : X.N[i]? = some x) (hv : Vis X.env.scope x) (ha : PA X (e :: es) t)
    (hdb : (x == ("__debug__" : Str)) = false := by decide) (hcd : (x == ("__classdict__" : Str)) = false := by decide)
    (he : starEach (e :: es) X.env = (false, eval e X.env) :: starEach es X.env := by rfl) (hpl : (backTo pos (starEach es X.env)).any (·.1) = false := by rfl) :
    PE X (.Call (.Name x p) (e :: es) [] pos) (fun σ H Q => (∀ f, X.mg x' = some (.ref f) → σ[i]? = some (some (.ref f))) ∧ t σ H fun vs H1 => sp (vs ++ []) H1 Q E) := by
  obtain ⟨f, fd, F, a, b, c⟩ := C
  exact ⟨fun pins s σ H Q I h => (pe_callL (i := i) F hr hN hv b c .nil hx ha hdb hcd he hpl).run pins s σ H Q I ⟨h.1 f a, h.2⟩⟩
end
section
variable {P : Program} {w : World} {K : PySem.W.Frag} {mg : Str → Option Value} {base : Heap} {A : Ad}
def sp_requireX (A : Ad) : Sp := fun vs H Q E => ∃ b y, vs = [.bl b, y] ∧ (b = true → Q .non H) ∧ (b = false → E (.ref A.c_BadTree) none H)
theorem ok_requireX (T : CT K mg A) (D : DT K mg A) : COk P w K mg base (L2.CX P w) 1 "require" ["holds", "why"] (sp_requireX A) := by
  refine COk.by D.require fun f fd F => ?_
  refine F.okX sc_require (fun vs H Q E h => ?_) (fun cdv Ar outer s H vs Q E hr h => ?_)
  · obtain ⟨b, y, rfl, _⟩ := h
    rfl
  · obtain ⟨b, y, rfl, k1, k2⟩ := h
    refine ⟨_, (pss_one (ps_if (pt_not (pt_val (pv 0)))
      (pss_one (ps_raise rfl (takes_of rfl rfl rfl rfl) (SkE.pmk_own1 PySem.F.excBase_ValueError T.x_BadTree.x T.x_BadTree.g T.x_BadTree.k (raises_own T.x_BadTree.b T.x_BadTree.t) rfl (pv 1)))) pss_nil)), ?_⟩
    cases b with
    | true => exact ⟨_, rfl, true, rfl, iteF (k1 rfl)⟩
    | false => exact ⟨_, rfl, false, rfl, iteT ⟨_, rfl, k2 rfl⟩⟩
def RowOk (ns : List Int) (lo hi : Int) : Prop := lo ≤ ns.length ∧ (ns.length : Int) ≤ hi ∧ ∀ z ∈ ns, tame z
def sp_check_rowX (A : Ad) (K : PySem.W.Frag) : Sp := fun vs H Q E => ∃ (a : Addr) (ns : List Int) (lo hi : Int), vs = [.ref a, .int lo, .int hi] ∧ SqT K H a (ns.map V.int) ∧ (RowOk ns lo hi → Q .non H) ∧ (¬ RowOk ns lo hi → E (.ref A.c_BadTree) none H)
theorem ok_check_rowX (T : CT K mg A) (D : DT K mg A) : COk P w K mg base (L2.CX P w) 2 "check_row" ["row", "fewest", "most"] (sp_check_rowX A K) := by
  have G_require := ok_requireX (P := P) (w := w) (base := base) T D
  have G_is_whole : COk P w K mg base CX0 1 "is_whole" ["number"] sp_is_whole := ok_is_whole T D
  refine COk.by D.check_row fun f fd F => ?_
  refine F.okX sc_check_row (fun vs H Q E h => ?_) (fun cdv Ar outer s H vs Q E hr h => ?_)
  · obtain ⟨a, ns, lo, hi, rfl, _⟩ := h
    rfl
  · obtain ⟨a, ns, lo, hi, rfl, ha, k1, k2⟩ := h
    obtain ⟨tN, gi_MOST_NUMBER⟩ := T.i_MOST_NUMBER
    refine ⟨_, (pss_cons (ps_expr (pe_cX G_require (hr.mono (by first | decide | omega)) (passes_tk (takes_of rfl rfl rfl rfl)) (pa_cons (pe_callB call_isi (by rfl) T.b_isinstance (by decide +kernel) (pa_cons (pv 0) (pa_cons (pe_bltn (v := .ty "tuple") (by rfl) T.b_tuple (by decide +kernel) rfl) pa_nil))) (pa_cons pe_str pa_nil))))
    (pss_cons (ps_expr (pe_cX G_require (hr.mono (by first | decide | omega)) (passes_tk (takes_of rfl rfl rfl rfl)) (pa_cons (pe_chain op_le op_le (pv 1) (pe_callB call_len_seq (by rfl) T.b_len (by decide +kernel) (pa_cons (pv 0) pa_nil)) (pv 2)) (pa_cons pe_str pa_nil))))
    (pss_one (ps_for (passes_of rfl) rfl (pi_tup (pv 0)) (pg_name (i := 3) sc_check_row.nd rfl (Or.inl rfl))
      (pss_cons (ps_expr (pe_cX G_require (hr.mono (by first | decide | omega)) (passes_tk (takes_of rfl rfl rfl rfl)) (pa_cons (pe_c G_is_whole (hr.mono (by first | decide | omega)) (pa_cons (pv 3) pa_nil)) (pa_cons pe_str pa_nil))))
    (pss_one (ps_expr (pe_cX G_require (hr.mono (by first | decide | omega)) (passes_tk (takes_of rfl rfl rfl rfl)) (pa_cons (pe_chain op_le op_le (pe_un un_neg (pe_glob (v := .int 1000000000000) (by rfl) gi_MOST_NUMBER ⟨_, rfl⟩)) (pv 3) (pe_glob (v := .int 1000000000000) (by rfl) gi_MOST_NUMBER ⟨_, rfl⟩)) (pa_cons pe_str pa_nil)))))))))), ?_⟩
    have hl : (ns.map V.int).length = ns.length := List.length_map _
    refine ⟨_, rfl, _, _, _, _, true, rfl, .ty "tuple", tyT ha, kit_ty (by decide +kernel), _, _, rfl, fun _ => ?_, fun z => nomatch z⟩
    refine ⟨_, rfl, _, rfl, a, _, rfl, .inr ha, _, _, rfl, rfl, _, rfl, ?_⟩
    by_cases h1 : lo ≤ ns.length
    · rw [decide_eq_true (by rw [hl]; exact h1)]
      refine iteT ⟨_, rfl, _, _, rfl, rfl, _, _, rfl, fun z => ?_, fun z => k2 fun y => ?_⟩
      · have h2 : (ns.length : Int) ≤ hi := by
          have := of_decide_eq_true z
          rw [hl] at this
          exact this
        refine ⟨_, rfl, a, rfl, ⟨_, ha⟩, for_tup (K := K) (a := a) (xs := ns.map V.int) (fun i σ H2 => ∃ v : Option V, σ = [some (.ref a), some (.int lo), some (.int hi), v] ∧ H2 = H ∧ ∀ z ∈ ns.take i, tame z)
          ⟨none, rfl, rfl, fun z hz => by simp at hz⟩ (fun i σ H2 _ ⟨_, _, e, _⟩ => by rw [e]; exact ha) ?_ ?_⟩
        · rintro i y σ H2 hi' ⟨v, rfl, rfl, hd⟩
          obtain ⟨z, hz, rfl⟩ : ∃ z, ns[i]? = some z ∧ y = V.int z := by
            rw [List.getElem?_map] at hi'
            cases e : ns[i]? with
            | none => rw [e] at hi'; cases hi'
            | some z => rw [e] at hi'; exact ⟨z, rfl, (Option.some.inj hi').symm⟩
          have hm : z ∈ ns := List.mem_of_getElem? hz
          refine ⟨_, rfl, z, rfl, _, _, rfl, fun _ => ?_, fun z => nomatch z⟩
          refine ⟨_, rfl, _, rfl, _, _, rfl, rfl, _, rfl, ?_⟩
          by_cases z1 : (-1000000000000 : Int) ≤ z
          · rw [decide_eq_true (show (-1000000000000 : Int) ≤ z from z1)]
            refine iteT ⟨_, _, rfl, rfl, _, _, rfl, fun y => ⟨_, rfl, rfl, fun x hx => ?_⟩, fun y => k2 fun g => ?_⟩
            · rw [List.take_add_one, hz] at hx
              rcases List.mem_append.mp hx with hx | hx
              · exact hd x hx
              · have : x = z := by simpa using hx
                subst this
                exact ⟨z1, of_decide_eq_true y⟩
            · exact (of_decide_eq_false y) (g.2.2 z hm).2
          · rw [decide_eq_false z1]
            exact iteF ⟨_, _, rfl, (fun z => nomatch z), fun _ => k2 fun g => z1 (g.2.2 z hm).1⟩
        · rintro σ H2 ⟨v, rfl, rfl, hd⟩
          rw [hl, List.take_of_length_le (Nat.le_refl _)] at hd
          exact k1 ⟨h1, h2, hd⟩
      · have := of_decide_eq_false z
        rw [hl] at this
        exact this y.2.1
    · rw [decide_eq_false (by rw [hl]; exact h1)]
      exact iteF ⟨_, _, rfl, (fun z => nomatch z), fun _ => k2 fun g => h1 g.1⟩
/-- what a check of one leaf tells -/
def sp_leafX (A : Ad) (K : PySem.W.Frag) (ok : Leaf → Prop) : Sp := fun vs H Q E => ∃ (a : Addr) (f : Leaf) (d : Int), vs = [.ref a, .int d] ∧ f.At K H a ∧ ok f ∧ (f.Good → ∀ H', Same H H' → Q .non H') ∧ (¬ f.Good → ∀ H', Same H H' → E (.ref A.c_BadTree) none H')
theorem ok_check_fractionX (T : CT K mg A) (D : DT K mg A) : COk P w K mg base (L2.CX P w) 3 "check_fraction" ["tree", "depth"] (sp_leafX A K fun f => ∃ t b, f = .frac t b) := by
  have G_require := ok_requireX (P := P) (w := w) (base := base) T D
  have G_check_row := ok_check_rowX (P := P) (w := w) (base := base) T D
  refine COk.by D.check_fraction fun f fd F => ?_
  refine F.okX sc_check_fraction (fun vs H Q E h => ?_) (fun cdv Ar outer s H vs Q E hr h => ?_)
  · obtain ⟨a, f, d, rfl, _⟩ := h
    rfl
  · obtain ⟨a, f, d, rfl, ha, ⟨t, b, rfl⟩, k1, k2⟩ := h
    refine ⟨_, (pss_cons (ps_expr (pe_cX G_check_row (hr.mono (by first | decide | omega)) (passes_tk (takes_of rfl rfl rfl rfl)) (pa_cons (pe_slice sl_tup (pv 0) (po_some pe_int) po_none) (pa_cons pe_int (pa_cons pe_int pa_nil)))))
    (pss_one (ps_expr (pe_cX G_require (hr.mono (by first | decide | omega)) (passes_tk (takes_of rfl rfl rfl rfl)) (pa_cons (pe_cmpR op_ne (pe_ix ix_tup (pv 0) pe_int (fun _ _ => rfl)) pe_int (nomark _)) (pa_cons pe_str pa_nil)))))), ?_⟩
    have ha' : SqT K H a [.str "fraction", .int t, .int b] := ha
    refine ⟨_, rfl, 1, rfl, a, _, rfl, ha', not_whole (k := 1) (by decide) (by show 1 ≤ 3; decide), fun p np => ?_⟩
    rw [cutV1]
    have sm := same_upd (o := .tup [V.int t, .int b]) np
    refine ⟨p, [t, b], 2, 2, rfl, SqT.of upd_same, fun h => ?_, fun h => k2 (fun g => h ⟨by show (2 : Int) ≤ 2; decide, by show (2 : Int) ≤ 2; decide, fun z hz => ?_⟩) _ sm⟩
    · have ht := h.2.2 t (by simp)
      have hb := h.2.2 b (by simp)
      refine ⟨_, rfl, a, _, 2, _, rfl, rfl, sqT_same ha' sm, atI_nat (j := 2) rfl, rfl, _, _, rfl, fun z => k1 ⟨ht, hb, fun y => ?_⟩ _ sm, fun z => k2 (fun g => ?_) _ sm⟩
      · rw [decide_eq_true (congrArg V.int y)] at z
        cases z
      · rw [decide_eq_false (fun y => g.2.2 (V.int.inj y))] at z
        cases z
    · simp only [List.mem_cons, List.not_mem_nil, or_false] at hz
      rcases hz with rfl | rfl
      · exact g.1
      · exact g.2.1
theorem ok_check_rootX (T : CT K mg A) (D : DT K mg A) : COk P w K mg base (L2.CX P w) 3 "check_root" ["tree", "depth"] (sp_leafX A K fun f => ∃ t s b, f = .root t s b) := by
  have G_require := ok_requireX (P := P) (w := w) (base := base) T D
  have G_check_row := ok_check_rowX (P := P) (w := w) (base := base) T D
  refine COk.by D.check_root fun f fd F => ?_
  refine F.okX sc_check_root (fun vs H Q E h => ?_) (fun cdv Ar outer s H vs Q E hr h => ?_)
  · obtain ⟨a, f, d, rfl, _⟩ := h
    rfl
  · obtain ⟨a, f, d, rfl, ha, ⟨t, sq, b, rfl⟩, k1, k2⟩ := h
    refine ⟨_, (pss_cons (ps_expr (pe_cX G_check_row (hr.mono (by first | decide | omega)) (passes_tk (takes_of rfl rfl rfl rfl)) (pa_cons (pe_slice sl_tup (pv 0) (po_some pe_int) po_none) (pa_cons pe_int (pa_cons pe_int pa_nil)))))
    (pss_cons (ps_expr (pe_cX G_require (hr.mono (by first | decide | omega)) (passes_tk (takes_of rfl rfl rfl rfl)) (pa_cons (pe_cmpR op_ge (pe_ix ix_tup (pv 0) pe_int (fun _ _ => rfl)) pe_int (nomark _)) (pa_cons pe_str pa_nil))))
    (pss_one (ps_expr (pe_cX G_require (hr.mono (by first | decide | omega)) (passes_tk (takes_of rfl rfl rfl rfl)) (pa_cons (pe_cmpR op_ne (pe_ix ix_tup (pv 0) pe_int (fun _ _ => rfl)) pe_int (nomark _)) (pa_cons pe_str pa_nil))))))), ?_⟩
    have ha' : SqT K H a [.str "root", .int t, .int sq, .int b] := ha
    refine ⟨_, rfl, 1, rfl, a, _, rfl, ha', not_whole (k := 1) (by decide) (by show 1 ≤ 4; decide), fun p np => ?_⟩
    rw [cutV1]
    have sm := same_upd (o := .tup [V.int t, .int sq, .int b]) np
    refine ⟨p, [t, sq, b], 3, 3, rfl, SqT.of upd_same, fun h => ?_, fun h => k2 (fun g => h ⟨by show (3 : Int) ≤ 3; decide, by show (3 : Int) ≤ 3; decide, fun z hz => ?_⟩) _ sm⟩
    · have ht := h.2.2 t (by simp)
      have hs := h.2.2 sq (by simp)
      have hb := h.2.2 b (by simp)
      refine ⟨_, rfl, a, _, 2, _, rfl, rfl, sqT_same ha' sm, atI_nat (j := 2) rfl, _, _, rfl, rfl, _, _, rfl, fun z => ?_, fun z => k2 (fun g => of_decide_eq_false z g.2.2.1) _ sm⟩
      have hs0 : 0 ≤ sq := of_decide_eq_true z
      refine ⟨_, rfl, a, _, 3, _, rfl, rfl, sqT_same ha' sm, atI_nat (j := 3) rfl, rfl, _, _, rfl, fun z => k1 ⟨ht, hs, hs0, hb, fun y => ?_⟩ _ sm, fun z => k2 (fun g => ?_) _ sm⟩
      · rw [decide_eq_true (congrArg V.int y)] at z
        cases z
      · rw [decide_eq_false (fun y => g.2.2.2.2 (V.int.inj y))] at z
        cases z
    · simp only [List.mem_cons, List.not_mem_nil, or_false] at hz
      rcases hz with rfl | rfl | rfl
      · exact g.1
      · exact g.2.1
      · exact g.2.2.2.1
theorem all_map {ns : List Int} {p : Int → Bool} : (ns.map p).all id = true ↔ ∀ z ∈ ns, p z = true := by
  rw [List.all_map, List.all_eq_true]
  exact Iff.rfl
theorem ok_check_ruledX (T : CT K mg A) (D : DT K mg A) : COk P w K mg base (L2.CX P w) 3 "check_ruled" ["tree", "depth"] (sp_leafX A K fun f => ∃ ps g t, f = .ruled ps g t) := by
  have G_require := ok_requireX (P := P) (w := w) (base := base) T D
  have G_check_row := ok_check_rowX (P := P) (w := w) (base := base) T D
  obtain ⟨tP, gi_MOST_PARTS⟩ := T.i_MOST_PARTS
  refine COk.by D.check_ruled fun f fd F => ?_
  refine F.okX sc_check_ruled (fun vs H Q E h => ?_) (fun cdv Ar outer s H vs Q E hr h => ?_)
  · obtain ⟨a, f, d, rfl, _⟩ := h
    rfl
  · obtain ⟨a, f, d, rfl, ha, ⟨ps, ring, steps, rfl⟩, k1, k2⟩ := h
    obtain ⟨p, q, u, ha, hp, hq, hu⟩ := ha
    have k1 : RuledGood ps ring steps → ∀ H', Same H H' → Q .non H' := k1
    have k2 : ¬ RuledGood ps ring steps → ∀ H', Same H H' → E (.ref A.c_BadTree) none H' := k2
    refine ⟨_, (pss_cons (ps_asg (pe_slice sl_tup (pv 0) (po_some pe_int) po_none) (pg_tup rfl (pgs_cons (pg_name (i := 2) sc_check_ruled.nd rfl (Or.inl rfl)) (pgs_cons (pg_name (i := 3) sc_check_ruled.nd rfl (Or.inl rfl)) (pgs_cons (pg_name (i := 4) sc_check_ruled.nd rfl (Or.inl rfl)) pgs_nil)))))
    (pss_cons (ps_expr (pe_cX G_check_row (hr.mono (by first | decide | omega)) (passes_tk (takes_of rfl rfl rfl rfl)) (pa_cons (pv 2) (pa_cons pe_int (pa_cons (pe_glob (v := .int 12) (by rfl) gi_MOST_PARTS ⟨_, rfl⟩) pa_nil)))))
    (pss_cons (ps_expr (pe_cX G_check_row (hr.mono (by first | decide | omega)) (passes_tk (takes_of rfl rfl rfl rfl)) (pa_cons (pv 3) (pa_cons pe_int (pa_cons (pe_glob (v := .int 12) (by rfl) gi_MOST_PARTS ⟨_, rfl⟩) pa_nil)))))
    (pss_cons (ps_expr (pe_cX G_check_row (hr.mono (by first | decide | omega)) (passes_tk (takes_of rfl rfl rfl rfl)) (pa_cons (pv 4) (pa_cons (pe_callB call_len_seq (by rfl) T.b_len (by decide +kernel) (pa_cons (pv 3) pa_nil)) (pa_cons (pe_callB call_len_seq (by rfl) T.b_len (by decide +kernel) (pa_cons (pv 3) pa_nil)) pa_nil)))))
    (pss_cons (ps_expr (pe_cX G_require (hr.mono (by first | decide | omega)) (passes_tk (takes_of rfl rfl rfl rfl)) (pa_cons (pe_callB (cr_all rfl) (by rfl) T.b_all (by decide +kernel) (pa_cons (pe_lc (own := [("part", 5)]) (g := gName 5) (tt := tYes) rfl sc_check_ruled.nd (pi_tup (pe_op op_catC (pe_slice sl_tup (pv 2) (po_some pe_int) po_none) (pv 3))) (blkOk_by (own := [("part", 5)]) (N := ["tree", "depth", "parts", "ring", "steps", "part", "step", "ends"]) (sc := defScope s_check_ruled) (by decide +kernel)) (fun _ _ _ _ _ => (pg_name (i := 5) sc_check_ruled.nd rfl (Or.inl rfl))) (fun _ _ _ _ _ => pts_nil) (fun _ _ _ _ _ => (pe_cmpR op_ge (pv 5) pe_int (nomark _)))) pa_nil)) (pa_cons pe_str pa_nil))))
    (pss_cons (ps_expr (pe_cX G_require (hr.mono (by first | decide | omega)) (passes_tk (takes_of rfl rfl rfl rfl)) (pa_cons (pe_callB (cr_all rfl) (by rfl) T.b_all (by decide +kernel) (pa_cons (pe_lc (own := [("step", 6)]) (g := gName 6) (tt := tYes) rfl sc_check_ruled.nd (pi_tup (pv 4)) (blkOk_by (own := [("step", 6)]) (N := ["tree", "depth", "parts", "ring", "steps", "part", "step", "ends"]) (sc := defScope s_check_ruled) (by decide +kernel)) (fun _ _ _ _ _ => (pg_name (i := 6) sc_check_ruled.nd rfl (Or.inl rfl))) (fun _ _ _ _ _ => pts_nil) (fun _ _ _ _ _ => (pe_cmpR op_ge (pv 6) pe_int (nomark _)))) pa_nil)) (pa_cons pe_str pa_nil))))
    (pss_cons (ps_set (i := 7) sc_check_ruled.nd rfl (Or.inl rfl) (pe_cmpR op_eq (pe_callB call_len_seq (by rfl) T.b_len (by decide +kernel) (pa_cons (pv 3) pa_nil)) pe_int (nomark _)))
    (pss_one (ps_expr (pe_cX G_require (hr.mono (by first | decide | omega)) (passes_tk (takes_of rfl rfl rfl rfl)) (pa_cons (pe_or (pe_not (pv 7)) (pe_or (pe_cmpR op_eq (pe_callB call_len_seq (by rfl) T.b_len (by decide +kernel) (pa_cons (pv 2) pa_nil)) pe_int (nomark _)) (pe_one (pe_cmpR op_ge (pe_ix ix_tup (pv 2) (pe_un un_neg pe_int) (fun _ _ => rfl)) pe_int (nomark _))))) (pa_cons pe_str pa_nil)))))))))))), ?_⟩
    refine ⟨_, rfl, 1, rfl, a, _, rfl, ha, not_whole (k := 1) (by decide) (by show 1 ≤ 4; decide), fun z nz => ?_⟩
    rw [cutV1]
    have sm := same_upd (o := .tup [V.ref p, .ref q, .ref u]) nz
    refine ⟨z, _, rfl, SqT.of upd_same, rfl, _, _, rfl, _, _, rfl, _, _, rfl, rfl, ?_⟩
    have hp1 := sqT_same hp sm
    have hq1 := sqT_same hq sm
    have hu1 := sqT_same hu sm
    generalize upd H z (.tup [V.ref p, .ref q, .ref u]) = H1 at *
    have lr : (ring.map V.int).length = ring.length := List.length_map _
    have lp : (ps.map V.int).length = ps.length := List.length_map _
    refine ⟨_, rfl, p, ps, _, _, rfl, hp1, fun h1 => ?_, fun h1 => k2 (fun g => h1 ⟨?_, ?_, g.tp⟩) _ sm⟩
    rotate_left
    · have := List.length_pos_iff.mpr g.p1
      show (1 : Int) ≤ ps.length
      omega
    · have := g.p12
      show (ps.length : Int) ≤ 12
      omega
    refine ⟨_, rfl, q, ring, _, _, rfl, hq1, fun h2 => ?_, fun h2 => k2 (fun g => h2 ⟨?_, ?_, g.tr⟩) _ sm⟩
    rotate_left
    · show (0 : Int) ≤ ring.length
      omega
    · have := g.r12
      show (ring.length : Int) ≤ 12
      omega
    refine ⟨_, rfl, _, rfl, q, _, rfl, .inr hq1, _, rfl, q, _, rfl, .inr hq1, u, steps, _, _, rfl, hu1, fun h3 => ?_, fun h3 => k2 (fun g => h3 ⟨?_, ?_, g.ts⟩) _ sm⟩
    rotate_left
    · have := g.same
      rw [lr]
      omega
    · have := g.same
      rw [lr]
      omega
    obtain ⟨p1', p12', tp⟩ := h1
    obtain ⟨_, r12', tr⟩ := h2
    obtain ⟨s1', s2', ts⟩ := h3
    rw [lr] at s1' s2'
    have p1 : ps ≠ [] := fun e => by
      rw [e] at p1'
      exact absurd (show (1 : Int) ≤ 0 from p1') (by decide)
    have p12 : ps.length ≤ 12 := by
      have : (ps.length : Int) ≤ 12 := p12'
      omega
    have r12 : ring.length ≤ 12 := by
      have : (ring.length : Int) ≤ 12 := r12'
      omega
    have sl : steps.length = ring.length := by omega
    have rok : RuledOk ps ring steps := ⟨p1, p12, r12, sl, tp, tr, ts⟩
    have lp0 : 0 < ps.length := List.length_pos_iff.mpr p1
    obtain ⟨p0, pt, rfl⟩ : ∃ p0 pt, ps = p0 :: pt := by
      cases ps with
      | nil => exact absurd rfl p1
      | cons x y => exact ⟨x, y, rfl⟩
    refine ⟨_, rfl, 1, rfl, p, _, rfl, hp1, not_whole (k := 1) (by decide) (by rw [lp]; exact lp0), fun y ny => ?_⟩
    have ec : cutV ((p0 :: pt).map V.int) (some 1) none = pt.map V.int := cutV1 _ _
    rw [ec]
    have sy := same_upd (o := .tup (pt.map V.int)) ny
    have hpt : SqT K (upd H1 y (.tup (pt.map V.int))) y (pt.map V.int) := SqT.of upd_same
    have hq2 := sqT_same hq1 sy
    refine ⟨_, rfl, y, q, _, _, rfl, rfl, hpt, hq2, ?_, fun c H2 s2 hc => ?_⟩
    · rw [List.length_map, lr]
      rw [List.length_cons] at p12
      exact Nat.le_trans (show pt.length + ring.length ≤ 24 by omega) (by decide)
    rw [← List.map_append] at hc
    have hln : (pt ++ ring).length ≤ 30 := by
      rw [List.length_append]
      rw [List.length_cons] at p12
      omega
    obtain ⟨row, hrow⟩ : ∃ row, row = pt ++ ring := ⟨_, rfl⟩
    rw [← hrow] at hc hln
    have lrow : (row.map V.int).length = row.length := List.length_map _
    refine ⟨c, rfl, ⟨_, hc⟩, fun D0 nD => lc_tup (K := K) (a := c) (xs := row.map V.int) (fun i H' => H' D0 = some (.lst (((row.take i).map fun x => decide (1 ≤ x)).map V.bl)) ∧ Same H2 H') ⟨upd_same, same_upd nD⟩ (fun i H' _ z => sqT_same hc z.2) ?_ ?_⟩
    · rintro i y H' hi ⟨hD, sH⟩
      obtain ⟨x, hx, rfl⟩ : ∃ x, row[i]? = some x ∧ y = V.int x := by
        rw [List.getElem?_map] at hi
        cases e : row[i]? with
        | none => rw [e] at hi; cases hi
        | some z => rw [e] at hi; exact ⟨z, rfl, (Option.some.inj hi).symm⟩
      have hil : i < row.length := (List.getElem?_eq_some_iff.mp hx).1
      refine ⟨rfl, _, rfl, _, _, rfl, rfl, _, hD, ?_, ?_, fun b o e => ?_⟩
      · rw [List.length_map, List.length_map, List.length_take]
        exact Nat.lt_of_le_of_lt (Nat.min_le_left _ _) (Nat.lt_of_lt_of_le (show i < 31 by omega) (by decide))
      · rw [upd_same, List.take_add_one, hx, List.map_append, List.map_append]
        rfl
      · rw [upd_ne (ne_of_none e nD)]
        exact sH b o e
    rintro H3 ⟨hD, s3⟩
    rw [lrow, List.take_of_length_le (Nat.le_refl _)] at hD
    have sA : Same H H3 := ((sm.trans sy).trans s2).trans s3
    refine ⟨D0, _, rfl, SqL.of hD, _, _, rfl, fun a1 => ?_, fun a1 => k2 (fun g => ?_) _ sA⟩
    rotate_left
    · have : (row.map fun x => decide (1 ≤ x)).all id = true := all_map.mpr fun z hz => decide_eq_true (g.one z (by rw [hrow] at hz; exact hz))
      rw [this] at a1
      cases a1
    have one : ∀ z ∈ pt ++ ring, 1 ≤ z := fun z hz => of_decide_eq_true (all_map.mp a1 z (by rw [hrow]; exact hz))
    have hu3 := sqT_same (sqT_same (sqT_same hu1 sy) s2) s3
    have lst : (steps.map V.int).length = steps.length := List.length_map _
    refine ⟨_, rfl, u, rfl, ⟨_, hu3⟩, fun D1 nD1 => lc_tup (K := K) (a := u) (xs := steps.map V.int) (fun i H' => H' D1 = some (.lst (((steps.take i).map fun x => decide (0 ≤ x)).map V.bl)) ∧ Same H3 H') ⟨upd_same, same_upd nD1⟩ (fun i H' _ z => sqT_same hu3 z.2) ?_ ?_⟩
    · rintro i y H' hi ⟨hD, sH⟩
      obtain ⟨x, hx, rfl⟩ : ∃ x, steps[i]? = some x ∧ y = V.int x := by
        rw [List.getElem?_map] at hi
        cases e : steps[i]? with
        | none => rw [e] at hi; cases hi
        | some z => rw [e] at hi; exact ⟨z, rfl, (Option.some.inj hi).symm⟩
      have hil : i < steps.length := (List.getElem?_eq_some_iff.mp hx).1
      refine ⟨rfl, _, rfl, _, _, rfl, rfl, _, hD, ?_, ?_, fun b o e => ?_⟩
      · rw [List.length_map, List.length_map, List.length_take]
        exact Nat.lt_of_le_of_lt (Nat.min_le_left _ _) (Nat.lt_of_lt_of_le (show i < 31 by omega) (by decide))
      · rw [upd_same, List.take_add_one, hx, List.map_append, List.map_append]
        rfl
      · rw [upd_ne (ne_of_none e nD1)]
        exact sH b o e
    rintro H4 ⟨hD1, s4⟩
    rw [lst, List.take_of_length_le (Nat.le_refl _)] at hD1
    have s14 : Same H1 H4 := ((sy.trans s2).trans s3).trans s4
    have sB := sm.trans s14
    refine ⟨D1, _, rfl, SqL.of hD1, _, _, rfl, fun a2 => ?_, fun a2 => k2 (fun g => ?_) _ sB⟩
    rotate_left
    · have : (steps.map fun x => decide (0 ≤ x)).all id = true := all_map.mpr fun z hz => decide_eq_true (g.nn z hz)
      rw [this] at a2
      cases a2
    have nn : ∀ z ∈ steps, 0 ≤ z := fun z hz => of_decide_eq_true (all_map.mp a2 z hz)
    have hq4 := sqT_same hq1 s14
    have hp4 := sqT_same hp1 s14
    refine ⟨_, rfl, q, _, rfl, .inr hq4, rfl, ?_⟩
    refine ⟨_, rfl, _, rfl, _, rfl, ?_⟩
    by_cases cr : ring = []
    · have e1 : decide (V.int (((ring.map V.int).length : Nat) : Int) = V.int 0) = true := by rw [cr]; rfl
      rw [e1]
      refine iteF ⟨_, rfl, p, _, rfl, .inr hp4, rfl, _, rfl, ?_⟩
      by_cases c2 : (p0 :: pt).length = 1
      · have e2 : decide (V.int ((((p0 :: pt).map V.int).length : Nat) : Int) = V.int 1) = true := decide_eq_true (by rw [lp, c2]; rfl)
        rw [e2]
        exact iteT ⟨_, _, rfl, (fun _ => k1 ⟨rok, one, nn, fun _ => .inl c2⟩ _ sB), fun z => nomatch z⟩
      · have e2 : decide (V.int ((((p0 :: pt).map V.int).length : Nat) : Int) = V.int 1) = false := decide_eq_false (fun z => c2 (by have := V.int.inj z; rw [lp] at this; omega))
        rw [e2]
        obtain ⟨z, hz⟩ : ∃ z, (p0 :: pt).getLast? = some z := ⟨_, List.getLast?_eq_some_getLast p1⟩
        refine iteF ⟨_, rfl, 1, rfl, p, _, _, _, rfl, rfl, hp4, at_last hz, _, _, rfl, rfl, _, _, rfl, fun y => k1 ⟨rok, one, nn, fun _ => .inr ⟨z, hz, of_decide_eq_true y⟩⟩ _ sB, fun y => k2 (fun g => ?_) _ sB⟩
        rcases g.last cr with h | ⟨z', hz', z2⟩
        · exact c2 h
        · rw [hz] at hz'
          cases hz'
          exact of_decide_eq_false y z2
    · have e1 : decide (V.int (((ring.map V.int).length : Nat) : Int) = V.int 0) = false := by rw [len_eq_nil]; exact decide_eq_false cr
      rw [e1]
      exact iteT ⟨_, _, rfl, (fun _ => k1 ⟨rok, one, nn, fun z => absurd z cr⟩ _ sB), fun z => nomatch z⟩
end
/-! ### the checks refuse: lines, fours, eights, powers, any tree -/
section
variable {P : Program} {w : World} {K : PySem.W.Frag} {mg : Str → Option Value} {base : Heap} {A : Ad}
def sp_check_lineX (A : Ad) (K : PySem.W.Frag) : Sp := fun vs H Q E => ∃ (p : Addr) (ns : List Int), vs = [.ref p] ∧ SqT K H p (ns.map V.int) ∧ (∃ h, ns.length = 2 * h ∧ 0 < h ∧ h ≤ 4) ∧ (∀ z ∈ ns, tame z) ∧ (Crossed ns → ∀ H', Same H H' → Q .non H') ∧ (¬ Crossed ns → ∀ H', Same H H' → E (.ref A.c_BadTree) none H')
theorem ok_check_lineX (T : CT K mg A) (D : DT K mg A) : COk P w K mg base (L2.CX P w) 2 "check_line" ["numbers"] (sp_check_lineX A K) := by
  have G_require := ok_requireX (P := P) (w := w) (base := base) T D
  refine COk.by D.check_line fun f fd F => ?_
  refine F.okX sc_check_line (fun vs H Q E h => ?_) (fun cdv Ar outer s H vs Q E hr h => ?_)
  · obtain ⟨p, ns, rfl, _⟩ := h
    rfl
  · obtain ⟨p, ns, rfl, hp, ⟨h, hl, h0, h4⟩, hf, kQ, kE⟩ := h
    refine ⟨_, (pss_cons (ps_set (i := 1) sc_check_line.nd rfl (Or.inl rfl) (pe_op op_fdiv (pe_callB call_len_seq (by rfl) T.b_len (by decide +kernel) (pa_cons (pv 0) pa_nil)) pe_int))
    (pss_cons (ps_asg (pe_tup (pa_cons (pe_slice sl_tupA (pv 0) po_none (po_some (pv 1))) (pa_cons (pe_slice sl_tupA (pv 0) (po_some (pv 1)) po_none) pa_nil))) (pg_tup rfl (pgs_cons (pg_name (i := 2) sc_check_line.nd rfl (Or.inr rfl)) (pgs_cons (pg_name (i := 3) sc_check_line.nd rfl (Or.inr rfl)) pgs_nil))))
    (pss_cons (ps_setLc2 (i := 4) (own := [("i", 5), ("k", 6)]) (vs1 := [6]) (g := gName 5) (g1 := gName 6) (tt := tYes) (tt1 := tYes) rfl sc_check_line.nd rfl rfl (sw_true rfl rfl rfl (by decide +kernel)) (pi_range1 rfl T.b_range (pa_cons (pv 1) pa_nil)) (blkOk_by (own := [("i", 5), ("k", 6)]) (N := ["numbers", "half", "above", "below", "crossed", "i", "k"]) (sc := defScope s_check_line) (by decide +kernel)) (by decide) (fun _ _ _ _ _ => (pg_name (i := 5) sc_check_line.nd rfl (Or.inl rfl))) (fun _ _ _ _ _ => pts_nil) (fun _ _ _ _ _ => (pi_range1 rfl T.b_range (pa_cons (pv 5) pa_nil))) (fun _ _ _ _ _ => (pg_name (i := 6) sc_check_line.nd rfl (Or.inl rfl))) (fun _ _ _ _ _ => pts_nil) (fun _ _ _ _ _ => (pe_cmpR op_ne (pe_op op_mul (pe_ix (show IxR _ (rIxT K) from ix_tup) (pv 2) (pv 5) (fun _ _ => rfl)) (pe_ix (show IxR _ (rIxT K) from ix_tup) (pv 3) (pv 6) (fun _ _ => rfl))) (pe_op op_mul (pe_ix (show IxR _ (rIxT K) from ix_tup) (pv 2) (pv 6) (fun _ _ => rfl)) (pe_ix (show IxR _ (rIxT K) from ix_tup) (pv 3) (pv 5) (fun _ _ => rfl))) (nomark _))))
    (pss_one (ps_expr (pe_cX G_require (hr.mono (by first | decide | omega)) (passes_tk (takes_of rfl rfl rfl rfl)) (pa_cons (pe_callB (cr_any rfl) (by rfl) T.b_any (by decide +kernel) (pa_cons (pv 4) pa_nil)) (pa_cons pe_str pa_nil)))))))), ?_⟩
    have e1 : (((ns.map V.int).length : Nat) : Int) / 2 = ((h : Nat) : Int) := by rw [List.length_map, hl]; omega
    have nf : ¬ (HT.sIx (ns.map V.int).length 0 none = 0 ∧ HT.sIx (ns.map V.int).length (ns.map V.int).length (some (h : Int)) = (ns.map V.int).length) := fun z => by
      have := z.2
      rw [HT.sIx_nat, List.length_map] at this
      omega
    have c1 : cutV (ns.map V.int) none (some (h : Int)) = (ns.take h).map V.int := by
      rw [cut_takeB, List.map_take]
    have c2 : cutV (ns.map V.int) (some (h : Int)) none = (ns.drop h).map V.int := by
      rw [cut_dropB, List.map_drop]
    have lt : (ns.take h).length = h := by rw [List.length_take]; omega
    have ld : (ns.drop h).length = h := by rw [List.length_drop]; omega
    refine ⟨_, rfl, p, _, rfl, .inr hp, _, _, rfl, rfl, ⟨by decide, by decide⟩, ?_⟩
    show tSeq _ _ _ [some (V.ref p), some (V.int ((((ns.map V.int).length : Nat) : Int) / 2)), none, none, none, none, none] H
    rw [e1]
    refine ⟨_, rfl, _, rfl, _, rfl, p, _, rfl, hp, fun z => absurd z nf, fun _ u nu => ?_⟩
    have s1 := same_upd (o := .tup (cutV (ns.map V.int) none (some (h : Int)))) nu
    have hu : SqT K (upd H u (.tup (cutV (ns.map V.int) none (some (h : Int))))) u ((ns.take h).map V.int) := by rw [← c1]; exact SqT.of upd_same
    generalize upd H u (.tup (cutV (ns.map V.int) none (some (h : Int)))) = H1 at s1 hu ⊢
    have hp1 := sqT_same hp s1
    refine ⟨_, rfl, _, rfl, _, rfl, p, _, rfl, hp1, fun z => absurd z (not_whole h0 (by rw [List.length_map]; omega)), fun _ v nv => ?_⟩
    have s2 := same_upd (o := .tup (cutV (ns.map V.int) (some (h : Int)) none)) nv
    have hv : SqT K (upd H1 v (.tup (cutV (ns.map V.int) (some (h : Int)) none))) v ((ns.drop h).map V.int) := by rw [← c2]; exact SqT.of upd_same
    generalize upd H1 v (.tup (cutV (ns.map V.int) (some (h : Int)) none)) = H2 at s2 hv ⊢
    have hu2 := sqT_same hu s2
    refine ⟨(by show 2 ≤ sizeLine; decide), fun q3 nq3 => ?_⟩
    have s3 := same_upd (o := .tup [V.ref u, .ref v]) nq3
    refine ⟨q3, _, rfl, SqT.of upd_same, rfl, _, _, rfl, _, _, rfl, rfl, ?_⟩
    have hu3 := sqT_same hu2 s3
    have hv3 := sqT_same hv s3
    generalize upd H2 q3 (.tup [V.ref u, .ref v]) = H3 at s3 hu3 hv3 ⊢
    have gt : ∀ j : Nat, j < h → ((ns.take h).map V.int)[j]? = some (.int (ns.getD j 0)) := fun j hj => by
      rw [List.getElem?_map, List.getElem?_take_of_lt hj, List.getD_eq_getElem?_getD, List.getElem?_eq_getElem (show j < ns.length by omega)]
      rfl
    have gd : ∀ j : Nat, j < h → ((ns.drop h).map V.int)[j]? = some (.int (ns.getD (j + h) 0)) := fun j hj => by
      rw [List.getElem?_map, List.getElem?_drop, List.getD_eq_getElem?_getD, Nat.add_comm h j, List.getElem?_eq_getElem (show j + h < ns.length by omega)]
      rfl
    have tm : ∀ j : Nat, j < ns.length → tame (ns.getD j 0) := fun j hj => hf _ (by
      rw [List.getD_eq_getElem?_getD, List.getElem?_eq_getElem hj]
      exact List.getElem_mem hj)
    have cm : ∀ a b : Int, tame a → CMul a b := fun a b ha => .inl (by
      have : (2 : Int) ^ 64 = 18446744073709551616 := by decide
      obtain ⟨h1, h2⟩ := ha
      omega)
    have hX : Crossed ns ↔ ∃ i k : Nat, k < i ∧ i < h ∧ ns.getD i 0 * ns.getD (k + h) 0 ≠ ns.getD k 0 * ns.getD (i + h) 0 := by
      unfold Crossed
      rw [show ns.length / 2 = h by omega]
    have fin : ∀ (D0 : Addr) (bs : List Bool) (H' : Hp), H' D0 = some (.lst (bs.map V.bl)) → Same H3 H' → (true ∈ bs ↔ Crossed ns) → tDrop (tCall (sp_requireX A) [] E (tCons (tCB (rAny K) (tCons (tVar 4) tNil)) (tCons (tC (.str "the numbers above and below the line are told by one another")) tNil))) { nx := fun _ H' => Q .non H', rt := Q } [some (V.ref p), some (V.int h), some (V.ref u), some (V.ref v), some (V.ref D0), none, none] H' := fun D0 bs H' hD s4 hb => by
      have ss := ((s1.trans s2).trans s3).trans s4
      refine ⟨_, rfl, D0, bs, rfl, SqL.of hD, _, _, rfl, fun z => kQ (hb.mp ?_) H' ss, fun z => kE (fun g => ?_) H' ss⟩
      · obtain ⟨b, hb1, hb2⟩ := List.any_eq_true.mp z
        have : b = true := hb2
        subst this
        exact hb1
      · have : bs.any id = true := List.any_eq_true.mpr ⟨true, hb.mpr g, rfl⟩
        rw [this] at z
        cases z
    let Xd : Nat → Nat → Prop := fun i' k' => ns.getD i' 0 * ns.getD (k' + h) 0 ≠ ns.getD k' 0 * ns.getD (i' + h) 0
    refine ⟨_, rfl, (h : Int), rfl, by omega, by omega, fun D0 nD => ?_⟩
    refine ⟨fun i m H' => m = h - i ∧ i ≤ h ∧ Same H3 H' ∧ ∃ bs : List Bool, H' D0 = some (.lst (bs.map V.bl)) ∧ bs.length ≤ 4 * i ∧ (true ∈ bs ↔ ∃ i' k' : Nat, k' < i' ∧ i' < i ∧ Xd i' k'),
      ⟨h, by omega, Nat.zero_le _, same_upd nD, [], upd_same, Nat.zero_le _, ⟨(fun z => by cases z), fun ⟨i', k', _, z, _⟩ => absurd z (Nat.not_lt_zero _)⟩⟩, ?_⟩
    rintro i m H' ⟨rfl, hi, s4, bs, hD, hb, hall⟩
    by_cases hlt : i < h
    · refine .inr ⟨hlt, fun H'' => i + 1 ≤ h ∧ Same H3 H'' ∧ ∃ bs : List Bool, H'' D0 = some (.lst (bs.map V.bl)) ∧ bs.length ≤ 4 * (i + 1) ∧ (true ∈ bs ↔ ∃ i' k' : Nat, k' < i' ∧ i' < i + 1 ∧ Xd i' k'),
        fun H'' z => ⟨h - (i + 1), by omega, rfl, z⟩, fun x H'' y => ?_⟩
      obtain ⟨rfl, rfl⟩ := y
      refine ⟨rfl, ?_⟩
      refine ⟨_, rfl, 0 + (i : Int), rfl, by omega, by omega, ?_⟩
      refine ⟨fun j kk H5 => kk = i - j ∧ j ≤ i ∧ Same H3 H5 ∧ ∃ bs : List Bool, H5 D0 = some (.lst (bs.map V.bl)) ∧ bs.length ≤ 4 * i + j ∧ (true ∈ bs ↔ ∃ i' k' : Nat, k' < i' ∧ (i' < i ∨ (i' = i ∧ k' < j)) ∧ Xd i' k'),
        ⟨i, by omega, Nat.zero_le _, s4, bs, hD, hb, ⟨(fun z => by obtain ⟨i', k', z1, z2, z3⟩ := hall.mp z; exact ⟨i', k', z1, .inl z2, z3⟩), fun ⟨i', k', z1, z2, z3⟩ => hall.mpr ⟨i', k', z1, by omega, z3⟩⟩⟩, ?_⟩
      rintro j kk H5 ⟨rfl, hj, s5, bs5, hD5, hb5, hall5⟩
      have hti : (0 + (i : Int)).toNat = i := by omega
      by_cases hjl : j < i
      · refine .inr ⟨(by show j < (0 + (i : Int)).toNat; omega), fun H6 => j + 1 ≤ i ∧ Same H3 H6 ∧ ∃ bs : List Bool, H6 D0 = some (.lst (bs.map V.bl)) ∧ bs.length ≤ 4 * i + (j + 1) ∧ (true ∈ bs ↔ ∃ i' k' : Nat, k' < i' ∧ (i' < i ∨ (i' = i ∧ k' < j + 1)) ∧ Xd i' k'),
          fun H6 z => ⟨i - (j + 1), by omega, rfl, z⟩, fun x H6 y => ?_⟩
        obtain ⟨rfl, rfl⟩ := y
        refine ⟨rfl, ?_⟩
        have hu5 := sqT_same hu3 s5
        have hv5 := sqT_same hv3 s5
        have zi : ∀ {xs : List V} {n : Nat} {z : V}, xs[n]? = some z → atI xs (0 + (n : Int)) = some z := fun {xs n z} e => by rw [Int.zero_add]; exact atI_nat e
        refine ⟨_, rfl, _, rfl, u, _, _, _, rfl, rfl, hu5, zi (gt i hlt), _, rfl, _, rfl, v, _, _, _, rfl, rfl, hv5, zi (gd j (by omega)), _, _, rfl, rfl, cm _ _ (tm i (by omega)), ?_⟩
        refine ⟨_, rfl, _, rfl, u, _, _, _, rfl, rfl, hu5, zi (gt j (by omega)), _, rfl, _, rfl, v, _, _, _, rfl, rfl, hv5, zi (gd i hlt), _, _, rfl, rfl, cm _ _ (tm j (by omega)), ?_⟩
        refine ⟨rfl, _, hD5, ?_, by omega, ?_, bs5 ++ [!decide (V.int (ns.getD i 0 * ns.getD (j + h) 0) = V.int (ns.getD j 0 * ns.getD (i + h) 0))], ?_, ?_, ?_⟩
        · rw [List.length_map]
          exact Nat.lt_of_le_of_lt hb5 (Nat.lt_of_lt_of_le (show 4 * i + j < 64 by omega) (by decide))
        · intro c o z
          rw [upd_ne (ne_of_none z nD)]
          exact s5 _ _ z
        · rw [upd_same, List.map_append]
          rfl
        · rw [List.length_append]
          show _ + 1 ≤ _
          omega
        · have eX : (true = !decide (V.int (ns.getD i 0 * ns.getD (j + h) 0) = V.int (ns.getD j 0 * ns.getD (i + h) 0))) ↔ Xd i j := by
            by_cases z : ns.getD i 0 * ns.getD (j + h) 0 = ns.getD j 0 * ns.getD (i + h) 0
            · rw [decide_eq_true (congrArg V.int z)]
              exact ⟨(fun y => by cases y), fun y => absurd z y⟩
            · rw [decide_eq_false (fun q => z (V.int.inj q))]
              exact ⟨fun _ => z, fun _ => rfl⟩
          rw [List.mem_append, List.mem_singleton, eX, hall5]
          constructor
          · rintro (⟨i', k', z1, z2, z3⟩ | z)
            · exact ⟨i', k', z1, by omega, z3⟩
            · exact ⟨i, j, hjl, .inr ⟨rfl, by omega⟩, z⟩
          · rintro ⟨i', k', z1, z2, z3⟩
            by_cases y : i' = i ∧ k' = j
            · obtain ⟨rfl, rfl⟩ := y
              exact .inr z3
            · exact .inl ⟨i', k', z1, by omega, z3⟩
      · refine .inl ⟨(by show (0 + (i : Int)).toNat ≤ j; omega), by omega, s5, bs5, hD5, by omega, ?_⟩
        rw [hall5]
        constructor
        · rintro ⟨i', k', z1, z2, z3⟩
          exact ⟨i', k', z1, by omega, z3⟩
        · rintro ⟨i', k', z1, z2, z3⟩
          exact ⟨i', k', z1, by omega, z3⟩
    · have ei : i = h := by omega
      subst ei
      exact .inl ⟨(by show ((i : Int)).toNat ≤ i; omega), fin D0 bs H' hD s4 (by rw [hall, hX])⟩
/-- a tree, checked at depth d, where so many more are let by -/
def sp_chkX (A : Ad) (K : PySem.W.Frag) (N : Nat) : Sp := fun vs H Q E => ∃ (v : Addr) (t : Tree) (d : Int), vs = [.ref v, .int d] ∧ t.At K H v ∧ d + N = 6 ∧ ((t.Good ∧ d + t.ht ≤ 5) → ∀ H', Same H H' → Q .non H') ∧ (¬ (t.Good ∧ d + t.ht ≤ 5) → ∀ H', Same H H' → E (.ref A.c_BadTree) none H')
/-- the check of one kind of tree -/
def sp_kindX (A : Ad) (K : PySem.W.Frag) (N : Nat) (ok : Tree → Prop) : Sp := fun vs H Q E => ∃ (v : Addr) (t : Tree) (d : Int), vs = [.ref v, .int d] ∧ t.At K H v ∧ ok t ∧ d + 1 + N = 6 ∧ ((t.Good ∧ d + t.ht ≤ 5) → ∀ H', Same H H' → Q .non H') ∧ (¬ (t.Good ∧ d + t.ht ≤ 5) → ∀ H', Same H H' → E (.ref A.c_BadTree) none H')
theorem ok_check_fourX {k N : Nat} (T : CT K mg A) (D : DT K mg A) (hk : 2 ≤ k) (G_check_at_depth : COk P w K mg base (L2.CX P w) k "check_at_depth" ["tree", "depth"] (sp_chkX A K N)) : COk P w K mg base (L2.CX P w) (k + 1) "check_four" ["tree", "depth"] (sp_kindX A K N fun t => ∃ ns x, t = .four ns x) := by
  have G_check_row := ok_check_rowX (P := P) (w := w) (base := base) T D
  have G_check_line := ok_check_lineX (P := P) (w := w) (base := base) T D
  refine COk.by D.check_four fun f fd F => ?_
  refine F.okX (k := k) sc_check_four (fun vs H Q E h => ?_) (fun cdv Ar outer s H vs Q E hr h => ?_)
  · obtain ⟨a, t, d, rfl, _⟩ := h
    rfl
  · obtain ⟨a, t, d, rfl, ht, ⟨ns, x, rfl⟩, hd, k1, k2⟩ := h
    obtain ⟨p, tx, ha, hp, hx⟩ := ht
    have hht : ((Tree.four ns x).ht : Int) = (x.ht : Int) + 1 := by show ((x.ht + 1 : Nat) : Int) = _; omega
    refine ⟨_, (pss_cons (ps_expr (pe_cX G_check_row (hr.mono (by first | decide | omega)) (passes_tk (takes_of rfl rfl rfl rfl)) (pa_cons (pe_ix ix_tup (pv 0) pe_int (fun _ _ => rfl)) (pa_cons pe_int (pa_cons pe_int pa_nil)))))
    (pss_cons (ps_expr (pe_cX G_check_line (hr.mono (by first | decide | omega)) (passes_tk (takes_of rfl rfl rfl rfl)) (pa_cons (pe_ix ix_tup (pv 0) pe_int (fun _ _ => rfl)) pa_nil)))
    (pss_one (ps_expr (pe_cX G_check_at_depth (hr.mono (by first | decide | omega)) (passes_tk (takes_of rfl rfl rfl rfl)) (pa_cons (pe_ix ix_tup (pv 0) pe_int (fun _ _ => rfl)) (pa_cons (pe_op op_add (pv 1) pe_int) pa_nil))))))), ?_⟩
    refine ⟨_, rfl, a, _, 1, _, rfl, rfl, ha, atI_nat (j := 1) rfl, p, ns, 4, 4, rfl, hp, fun r => ?_, fun r => k2 (fun g => r ⟨?_, ?_, g.1.2.1⟩) _ (Same.refl _)⟩
    rotate_left
    · have := g.1.1
      omega
    · have := g.1.1
      omega
    obtain ⟨r1, r2, r3⟩ := r
    have hl : ns.length = 4 := by omega
    refine ⟨_, rfl, a, _, 1, _, rfl, rfl, ha, atI_nat (j := 1) rfl, p, ns, rfl, hp, ⟨2, hl, by decide, by decide⟩, r3, fun hc H1 s1 => ?_, fun hc H1 s1 => k2 (fun g => hc g.1.2.2.1) _ s1⟩
    refine ⟨_, rfl, a, _, 2, _, rfl, rfl, sqT_same ha s1, atI_nat (j := 2) rfl, _, rfl, _, _, rfl, rfl, tx, x, d + 1, rfl, hx.same s1, hd, fun g H2 s2 => k1 ⟨⟨hl, r3, hc, g.1⟩, by have := g.2; omega⟩ H2 (s1.trans s2), fun g H2 s2 => k2 (fun y => g ⟨y.1.2.2.2, by have := y.2; omega⟩) H2 (s1.trans s2)⟩
theorem ok_check_eightX {k N : Nat} (T : CT K mg A) (D : DT K mg A) (hk : 2 ≤ k) (G_check_at_depth : COk P w K mg base (L2.CX P w) k "check_at_depth" ["tree", "depth"] (sp_chkX A K N)) : COk P w K mg base (L2.CX P w) (k + 1) "check_eight" ["tree", "depth"] (sp_kindX A K N fun t => ∃ ns x y, t = .eight ns x y) := by
  have G_check_row := ok_check_rowX (P := P) (w := w) (base := base) T D
  have G_check_line := ok_check_lineX (P := P) (w := w) (base := base) T D
  refine COk.by D.check_eight fun f fd F => ?_
  refine F.okX (k := k) sc_check_eight (fun vs H Q E h => ?_) (fun cdv Ar outer s H vs Q E hr h => ?_)
  · obtain ⟨a, t, d, rfl, _⟩ := h
    rfl
  · obtain ⟨a, t, d, rfl, ht, ⟨ns, x, y, rfl⟩, hd, k1, k2⟩ := h
    obtain ⟨p, tx, ty, ha, hp, hx, hy⟩ := ht
    have hht : ((Tree.eight ns x y).ht : Int) = ((max x.ht y.ht : Nat) : Int) + 1 := by show ((max x.ht y.ht + 1 : Nat) : Int) = _; omega
    refine ⟨_, (pss_cons (ps_expr (pe_cX G_check_row (hr.mono (by first | decide | omega)) (passes_tk (takes_of rfl rfl rfl rfl)) (pa_cons (pe_ix ix_tup (pv 0) pe_int (fun _ _ => rfl)) (pa_cons pe_int (pa_cons pe_int pa_nil)))))
    (pss_cons (ps_expr (pe_cX G_check_line (hr.mono (by first | decide | omega)) (passes_tk (takes_of rfl rfl rfl rfl)) (pa_cons (pe_ix ix_tup (pv 0) pe_int (fun _ _ => rfl)) pa_nil)))
    (pss_cons (ps_expr (pe_cX G_check_at_depth (hr.mono (by first | decide | omega)) (passes_tk (takes_of rfl rfl rfl rfl)) (pa_cons (pe_ix ix_tup (pv 0) pe_int (fun _ _ => rfl)) (pa_cons (pe_op op_add (pv 1) pe_int) pa_nil))))
    (pss_one (ps_expr (pe_cX G_check_at_depth (hr.mono (by first | decide | omega)) (passes_tk (takes_of rfl rfl rfl rfl)) (pa_cons (pe_ix ix_tup (pv 0) pe_int (fun _ _ => rfl)) (pa_cons (pe_op op_add (pv 1) pe_int) pa_nil)))))))), ?_⟩
    refine ⟨_, rfl, a, _, 1, _, rfl, rfl, ha, atI_nat (j := 1) rfl, p, ns, 8, 8, rfl, hp, fun r => ?_, fun r => k2 (fun g => r ⟨?_, ?_, g.1.2.1⟩) _ (Same.refl _)⟩
    rotate_left
    · have := g.1.1
      omega
    · have := g.1.1
      omega
    obtain ⟨r1, r2, r3⟩ := r
    have hl : ns.length = 8 := by omega
    refine ⟨_, rfl, a, _, 1, _, rfl, rfl, ha, atI_nat (j := 1) rfl, p, ns, rfl, hp, ⟨4, hl, by decide, by decide⟩, r3, fun hc H1 s1 => ?_, fun hc H1 s1 => k2 (fun g => hc g.1.2.2.1) _ s1⟩
    refine ⟨_, rfl, a, _, 2, _, rfl, rfl, sqT_same ha s1, atI_nat (j := 2) rfl, _, rfl, _, _, rfl, rfl, tx, x, d + 1, rfl, hx.same s1, hd, fun g H2 s2 => ?_, fun g H2 s2 => k2 (fun y => g ⟨y.1.2.2.2.1, by have := y.2; omega⟩) H2 (s1.trans s2)⟩
    refine ⟨_, rfl, a, _, 3, _, rfl, rfl, sqT_same ha (s1.trans s2), atI_nat (j := 3) rfl, _, rfl, _, _, rfl, rfl, ty, y, d + 1, rfl, hy.same (s1.trans s2), hd, fun g' H3 s3 => k1 ⟨⟨hl, r3, hc, g.1, g'.1⟩, by have := g.2; have := g'.2; omega⟩ H3 ((s1.trans s2).trans s3), fun g' H3 s3 => k2 (fun y => g' ⟨y.1.2.2.2.2, by have := y.2; omega⟩) H3 ((s1.trans s2).trans s3)⟩
theorem ok_check_powerX {k N : Nat} (T : CT K mg A) (D : DT K mg A) (hk : 2 ≤ k) (G_check_at_depth : COk P w K mg base (L2.CX P w) k "check_at_depth" ["tree", "depth"] (sp_chkX A K N)) : COk P w K mg base (L2.CX P w) (k + 1) "check_power" ["tree", "depth"] (sp_kindX A K N fun t => ∃ x n, t = .power x n) := by
  have G_check_row := ok_check_rowX (P := P) (w := w) (base := base) T D
  have G_require := ok_requireX (P := P) (w := w) (base := base) T D
  obtain ⟨tP, gi_MOST_POWER⟩ := T.i_MOST_POWER
  refine COk.by D.check_power fun f fd F => ?_
  refine F.okX (k := k) sc_check_power (fun vs H Q E h => ?_) (fun cdv Ar outer s H vs Q E hr h => ?_)
  · obtain ⟨a, t, d, rfl, _⟩ := h
    rfl
  · obtain ⟨a, t, d, rfl, ht, ⟨x, n, rfl⟩, hd, k1, k2⟩ := h
    obtain ⟨tx, ha, hx⟩ := ht
    have hht : ((Tree.power x n).ht : Int) = (x.ht : Int) + 1 := by show ((x.ht + 1 : Nat) : Int) = _; omega
    refine ⟨_, (pss_cons (ps_expr (pe_cX G_check_row (hr.mono (by first | decide | omega)) (passes_tk (takes_of rfl rfl rfl rfl)) (pa_cons (pe_slice sl_tup (pv 0) (po_some pe_int) po_none) (pa_cons pe_int (pa_cons pe_int pa_nil)))))
    (pss_cons (ps_expr (pe_cX G_require (hr.mono (by first | decide | omega)) (passes_tk (takes_of rfl rfl rfl rfl)) (pa_cons (pe_chain op_le op_le pe_int (pe_ix ix_tup (pv 0) pe_int (fun _ _ => rfl)) (pe_glob (v := .int 4) (by rfl) gi_MOST_POWER ⟨_, rfl⟩)) (pa_cons pe_str pa_nil))))
    (pss_one (ps_expr (pe_cX G_check_at_depth (hr.mono (by first | decide | omega)) (passes_tk (takes_of rfl rfl rfl rfl)) (pa_cons (pe_ix ix_tup (pv 0) pe_int (fun _ _ => rfl)) (pa_cons (pe_op op_add (pv 1) pe_int) pa_nil))))))), ?_⟩
    refine ⟨_, rfl, _, rfl, a, _, rfl, ha, not_whole (k := 2) (by decide) (by show 2 ≤ 3; decide), fun u nu => ?_⟩
    have s1 := same_upd (o := .tup (cutV [.str "power", .ref tx, .int n] (some 2) none)) nu
    have hu : SqT K (upd H u (.tup (cutV [.str "power", .ref tx, .int n] (some 2) none))) u ([(n : Int)].map V.int) := by
      rw [cutV2]
      exact SqT.of upd_same
    have rok : n ≤ 4 → RowOk [(n : Int)] 1 1 := fun h4 => ⟨by show (1 : Int) ≤ 1; decide, by show (1 : Int) ≤ 1; decide, fun z hz => by
      rw [List.mem_singleton] at hz
      subst hz
      exact ⟨by omega, by omega⟩⟩
    refine ⟨u, [(n : Int)], 1, 1, rfl, hu, fun _ => ?_, fun r => k2 (fun g => r (rok g.1.2.1)) _ s1⟩
    have ha1 := sqT_same ha s1
    refine ⟨_, rfl, a, _, 2, _, rfl, rfl, ha1, atI_nat (j := 2) rfl, _, _, rfl, rfl, _, rfl, ?_⟩
    by_cases n1 : (1 : Int) ≤ (n : Int)
    · rw [decide_eq_true n1]
      refine iteT ⟨_, _, rfl, rfl, _, _, rfl, fun z => ?_, fun z => k2 (fun g => of_decide_eq_false z (by have := g.1.2.1; show (n : Int) ≤ 4; omega)) _ s1⟩
      have n4 : (n : Int) ≤ 4 := of_decide_eq_true z
      exact ⟨_, rfl, a, _, 1, _, rfl, rfl, ha1, atI_nat (j := 1) rfl, _, rfl, _, _, rfl, rfl, tx, x, d + 1, rfl, hx.same s1, hd, fun g H2 s2 => k1 ⟨⟨by omega, by omega, g.1⟩, by have := g.2; omega⟩ H2 (s1.trans s2), fun g H2 s2 => k2 (fun y => g ⟨y.1.2.2, by have := y.2; omega⟩) H2 (s1.trans s2)⟩
    · rw [decide_eq_false n1]
      exact iteF ⟨_, _, rfl, (fun z => nomatch z), fun _ => k2 (fun g => n1 (by have := g.1.1; omega)) _ s1⟩
def sp_check_atX (A : Ad) (K : PySem.W.Frag) (sF sR sU sO sE sP : Sp) : Sp := fun vs H Q E => ∃ (a : Addr) (word : Str) (rest : List V) (d : Int), vs = [.ref a, .int d] ∧ SqT K H a (.str word :: rest) ∧ (¬ d ≤ 5 → E (.ref A.c_BadTree) none H) ∧ (d ≤ 5 →
  ((word = "fraction" ∧ rest.length = 2 ∧ sF [.ref a, .int d] H (fun _ => Q .non) E) ∨ (word = "root" ∧ rest.length = 3 ∧ sR [.ref a, .int d] H (fun _ => Q .non) E) ∨ (word = "ruled" ∧ rest.length = 3 ∧ sU [.ref a, .int d] H (fun _ => Q .non) E) ∨
   (word = "four" ∧ rest.length = 2 ∧ sO [.ref a, .int d] H (fun _ => Q .non) E) ∨ (word = "eight" ∧ rest.length = 3 ∧ sE [.ref a, .int d] H (fun _ => Q .non) E) ∨ (word = "power" ∧ rest.length = 2 ∧ sP [.ref a, .int d] H (fun _ => Q .non) E)))
theorem ok_check_atX {k : Nat} {sF sR sU sO sE sP : Sp} (T : CT K mg A) (TT : TB K w mg A) (D : DT K mg A) (hk : 1 ≤ k)
    (G_check_fraction : COk P w K mg base (L2.CX P w) k "check_fraction" ["tree", "depth"] sF) (G_check_root : COk P w K mg base (L2.CX P w) k "check_root" ["tree", "depth"] sR) (G_check_ruled : COk P w K mg base (L2.CX P w) k "check_ruled" ["tree", "depth"] sU)
    (G_check_four : COk P w K mg base (L2.CX P w) k "check_four" ["tree", "depth"] sO) (G_check_eight : COk P w K mg base (L2.CX P w) k "check_eight" ["tree", "depth"] sE) (G_check_power : COk P w K mg base (L2.CX P w) k "check_power" ["tree", "depth"] sP) :
    COk P w K mg base (L2.CX P w) (k + 1) "check_at_depth" ["tree", "depth"] (sp_check_atX A K sF sR sU sO sE sP) := by
  have G_require := (ok_requireX (P := P) (w := w) (base := base) T D).mono hk
  obtain ⟨tD, gi_MOST_DEPTH⟩ := T.i_MOST_DEPTH
  refine COk.by D.check_at_depth fun f fd F => ?_
  refine F.okX sc_check_at_depth (fun vs H Q E h => ?_) (fun cdv Ar outer s H vs Q E hr h => ?_)
  · obtain ⟨a, word, rest, d, rfl, _⟩ := h
    rfl
  · obtain ⟨a, word, rest, d, rfl, ha, hE, hw⟩ := h
    refine ⟨_, (pss_cons (ps_expr (pe_cX G_require (hr.mono (by first | decide | omega)) (passes_tk (takes_of rfl rfl rfl rfl)) (pa_cons (pe_cmpR op_le (pv 1) (pe_glob (v := .int 5) (by rfl) gi_MOST_DEPTH ⟨_, rfl⟩) (nomark _)) (pa_cons pe_str pa_nil))))
    (pss_cons (ps_expr (pe_cX G_require (hr.mono (by first | decide | omega)) (passes_tk (takes_of rfl rfl rfl rfl)) (pa_cons (pe_and (pe_callB call_isi (by rfl) T.b_isinstance (by decide +kernel) (pa_cons (pv 0) (pa_cons (pe_bltn (v := .ty "tuple") (by rfl) T.b_tuple (by decide +kernel) rfl) pa_nil))) (pe_one (pe_cmpR op_gt (pe_callB call_len_seq (by rfl) T.b_len (by decide +kernel) (pa_cons (pv 0) pa_nil)) pe_int (nomark _)))) (pa_cons pe_str pa_nil))))
    (pss_cons (ps_set (i := 2) sc_check_at_depth.nd rfl (Or.inl rfl) (pe_ix ix_tup (pv 0) pe_int (fun _ _ => rfl)))
    (pss_cons (ps_expr (pe_cX G_require (hr.mono (by first | decide | omega)) (passes_tk (takes_of rfl rfl rfl rfl)) (pa_cons (pe_and (pe_callB call_isi (by rfl) T.b_isinstance (by decide +kernel) (pa_cons (pv 2) (pa_cons (pe_bltn (v := .ty "str") (by rfl) T.b_str (by decide +kernel) rfl) pa_nil))) (pe_one (pe_cmpR (op_in_kd' TT.dL) (pv 2) (pe_glob (v := .ref A.k_LENGTHS) (by rfl) T.g_LENGTHS rfl) rfl))) (pa_cons pe_str pa_nil))))
    (pss_cons (ps_expr (pe_cX G_require (hr.mono (by first | decide | omega)) (passes_tk (takes_of rfl rfl rfl rfl)) (pa_cons (pe_cmpR op_eq (pe_callB call_len_seq (by rfl) T.b_len (by decide +kernel) (pa_cons (pv 0) pa_nil)) (pe_ix (ix_kd TT.dL) (pe_glob (v := .ref A.k_LENGTHS) (by rfl) T.g_LENGTHS rfl) (pv 2) (fun _ _ => rfl)) (nomark _)) (pa_cons pe_str pa_nil))))
    (pss_cons (ps_set (i := 3) sc_check_at_depth.nd rfl (Or.inl rfl) (pe_ix (ix_kd TT.dC) (pe_glob (v := .ref A.k_CHECKS) (by rfl) T.g_CHECKS rfl) (pv 2) (fun _ _ => rfl)))
    (pss_one (ps_expr ((pe_alt (pe_cLX G_check_fraction hr (passes_tk (takes_of rfl rfl rfl rfl)) (i := 3) rfl (Or.inl rfl) (pa_cons (pv 0) (pa_cons (pv 1) pa_nil))) (pe_alt (pe_cLX G_check_root hr (passes_tk (takes_of rfl rfl rfl rfl)) (i := 3) rfl (Or.inl rfl) (pa_cons (pv 0) (pa_cons (pv 1) pa_nil))) (pe_alt (pe_cLX G_check_ruled hr (passes_tk (takes_of rfl rfl rfl rfl)) (i := 3) rfl (Or.inl rfl) (pa_cons (pv 0) (pa_cons (pv 1) pa_nil))) (pe_alt (pe_cLX G_check_four hr (passes_tk (takes_of rfl rfl rfl rfl)) (i := 3) rfl (Or.inl rfl) (pa_cons (pv 0) (pa_cons (pv 1) pa_nil))) (pe_alt (pe_cLX G_check_eight hr (passes_tk (takes_of rfl rfl rfl rfl)) (i := 3) rfl (Or.inl rfl) (pa_cons (pv 0) (pa_cons (pv 1) pa_nil))) (pe_cLX G_check_power hr (passes_tk (takes_of rfl rfl rfl rfl)) (i := 3) rfl (Or.inl rfl) (pa_cons (pv 0) (pa_cons (pv 1) pa_nil))))))))))))))))), ?_⟩
    -- depth
    refine ⟨_, rfl, _, _, rfl, rfl, _, _, rfl, fun hd => ?_, fun hd => hE (of_decide_eq_false hd)⟩
    have hw := hw (of_decide_eq_true hd)
    -- a tuple of something
    refine ⟨_, rfl, _, _, _, _, true, rfl, .ty "tuple", tyT ha, kit_ty (by decide +kernel), _, rfl, iteT ⟨_, rfl, a, _, rfl, .inr ha, _, _, rfl, rfl, _, _, rfl, fun _ => ?_, fun z => absurd z (by rw [decide_eq_true (show (0 : Int) < (((V.str word :: rest).length : Nat) : Int) by rw [List.length_cons]; omega)]; exact fun y => nomatch y)⟩⟩
    refine ⟨_, rfl, a, _, 0, .str word, rfl, rfl, ha, atI_nat (j := 0) rfl, ?_⟩
    have key : ∀ {n : Int}, (word, n) ∈ ([("fraction", 3), ("root", 4), ("ruled", 4), ("four", 3), ("eight", 4), ("power", 3)] : List (Str × Int)) → n = (rest.length : Int) + 1 → ∃ t, PySem.W.nsIn K A.k_LENGTHS word = some (some (.int ((rest.length : Int) + 1) t)) := fun {n} hm e => by
      rw [← e]
      exact TT.lens word n hm
    have hlen : ∃ t, PySem.W.nsIn K A.k_LENGTHS word = some (some (.int ((rest.length : Int) + 1) t)) := by
      rcases hw with ⟨rfl, e, _⟩ | ⟨rfl, e, _⟩ | ⟨rfl, e, _⟩ | ⟨rfl, e, _⟩ | ⟨rfl, e, _⟩ | ⟨rfl, e, _⟩
      · exact key (n := 3) (by simp) (by omega)
      · exact key (n := 4) (by simp) (by omega)
      · exact key (n := 4) (by simp) (by omega)
      · exact key (n := 3) (by simp) (by omega)
      · exact key (n := 4) (by simp) (by omega)
      · exact key (n := 3) (by simp) (by omega)
    obtain ⟨tl, hl⟩ := hlen
    refine ⟨_, rfl, _, _, _, _, true, rfl, .ty "str", .base (.str word), kit_ty (by decide +kernel), _, rfl, iteT ⟨_, rfl, word, _, rfl, rfl, hl, _, _, rfl, fun _ => ?_, fun z => nomatch z⟩⟩
    refine ⟨_, rfl, a, _, rfl, .inr ha, _, rfl, word, _, .int ((rest.length : Int) + 1), rfl, rfl, hl, ⟨_, rfl⟩, rfl, _, _, rfl, fun _ => ?_, fun z => absurd z (by rw [decide_eq_true (show V.int (((V.str word :: rest).length : Nat) : Int) = V.int ((rest.length : Int) + 1) by rw [List.length_cons]; rfl)]; exact fun y => nomatch y)⟩
    have chk : ∀ {y : Str} {sp : Sp}, (word, y) ∈ ([("fraction", "check_fraction"), ("root", "check_root"), ("ruled", "check_ruled"), ("four", "check_four"), ("eight", "check_eight"), ("power", "check_power")] : List (Str × Str)) → COk P w K mg base (L2.CX P w) k y ["tree", "depth"] sp → ∃ f, mg y = some (.ref f) ∧ PySem.W.nsIn K A.k_CHECKS word = some (some (.ref f)) := fun {y sp} hm C => by
      obtain ⟨f, fd, _, e, _⟩ := C
      exact ⟨f, e, TT.chks word y f hm e⟩
    rcases hw with ⟨rfl, e, q⟩ | ⟨rfl, e, q⟩ | ⟨rfl, e, q⟩ | ⟨rfl, e, q⟩ | ⟨rfl, e, q⟩ | ⟨rfl, e, q⟩
    · obtain ⟨f1, e1, e2⟩ := chk (y := "check_fraction") (by simp) G_check_fraction
      exact ⟨_, rfl, _, _, .ref f1, rfl, rfl, e2, rfl, .inl ⟨fun g eg => by cases e1.symm.trans eg; rfl, _, rfl, _, rfl, q⟩⟩
    · obtain ⟨f1, e1, e2⟩ := chk (y := "check_root") (by simp) G_check_root
      exact ⟨_, rfl, _, _, .ref f1, rfl, rfl, e2, rfl, .inr (.inl ⟨fun g eg => by cases e1.symm.trans eg; rfl, _, rfl, _, rfl, q⟩)⟩
    · obtain ⟨f1, e1, e2⟩ := chk (y := "check_ruled") (by simp) G_check_ruled
      exact ⟨_, rfl, _, _, .ref f1, rfl, rfl, e2, rfl, .inr (.inr (.inl ⟨fun g eg => by cases e1.symm.trans eg; rfl, _, rfl, _, rfl, q⟩))⟩
    · obtain ⟨f1, e1, e2⟩ := chk (y := "check_four") (by simp) G_check_four
      exact ⟨_, rfl, _, _, .ref f1, rfl, rfl, e2, rfl, .inr (.inr (.inr (.inl ⟨fun g eg => by cases e1.symm.trans eg; rfl, _, rfl, _, rfl, q⟩)))⟩
    · obtain ⟨f1, e1, e2⟩ := chk (y := "check_eight") (by simp) G_check_eight
      exact ⟨_, rfl, _, _, .ref f1, rfl, rfl, e2, rfl, .inr (.inr (.inr (.inr (.inl ⟨fun g eg => by cases e1.symm.trans eg; rfl, _, rfl, _, rfl, q⟩))))⟩
    · obtain ⟨f1, e1, e2⟩ := chk (y := "check_power") (by simp) G_check_power
      exact ⟨_, rfl, _, _, .ref f1, rfl, rfl, e2, rfl, .inr (.inr (.inr (.inr (.inr ⟨fun g eg => by cases e1.symm.trans eg; rfl, _, rfl, _, rfl, q⟩))))⟩
theorem ok_noX {k : Nat} {x : Str} {st : Stmt} {ps : List Str} (D : ∃ f fd, DefAt K mg x st ps f fd) : COk P w K mg base (L2.CX P w) k x ps spNo := by
  obtain ⟨f, fd, F⟩ := D
  exact .of F ⟨(fun _ _ _ _ h => h.elim), (fun _ _ _ _ _ _ _ _ _ _ _ _ _ h => h.elim)⟩
theorem COk.impX {k : Nat} {x : Str} {ps : List Str} {sp sp' : Sp} (h : COk P w K mg base (L2.CX P w) k x ps sp) (i : ∀ vs H Q E, sp' vs H Q E → sp vs H Q E) : COk P w K mg base (L2.CX P w) k x ps sp' := by
  obtain ⟨f, fd, F, a, b, c⟩ := h
  exact ⟨f, fd, F.imp i, a, b, c⟩
theorem chk_leafX {H : Hp} {Q : VK} {E : XK} {v : Addr} {f : Leaf} {d : Int} {sO sE sP : Sp} (ht : f.At K H v) (hd : ¬ d ≤ 5 → E (.ref A.c_BadTree) none H) (k1 : d ≤ 5 → f.Good → ∀ H', Same H H' → Q .non H') (k2 : d ≤ 5 → ¬ f.Good → ∀ H', Same H H' → E (.ref A.c_BadTree) none H') :
    sp_check_atX A K (sp_leafX A K fun f => ∃ t b, f = .frac t b) (sp_leafX A K fun f => ∃ t s b, f = .root t s b) (sp_leafX A K fun f => ∃ ps g t, f = .ruled ps g t) sO sE sP [.ref v, .int d] H Q E := by
  cases f with
  | frac t b => exact ⟨v, "fraction", [.int t, .int b], d, rfl, ht, hd, fun h => .inl ⟨rfl, rfl, v, .frac t b, d, rfl, ht, ⟨t, b, rfl⟩, k1 h, k2 h⟩⟩
  | root t s b => exact ⟨v, "root", [.int t, .int s, .int b], d, rfl, ht, hd, fun h => .inr (.inl ⟨rfl, rfl, v, .root t s b, d, rfl, ht, ⟨t, s, b, rfl⟩, k1 h, k2 h⟩)⟩
  | ruled ps ring steps =>
    obtain ⟨p, q', u, hv, hp, hq, hu⟩ := id ht
    exact ⟨v, "ruled", [.ref p, .ref q', .ref u], d, rfl, hv, hd, fun h => .inr (.inr (.inl ⟨rfl, rfl, v, .ruled ps ring steps, d, rfl, ht, ⟨ps, ring, steps, rfl⟩, k1 h, k2 h⟩))⟩
theorem ok_chkX (T : CT K mg A) (TT : TB K w mg A) (D : DT K mg A) : ∀ N : Nat, COk P w K mg base (L2.CX P w) (4 + 2 * N) "check_at_depth" ["tree", "depth"] (sp_chkX A K N)
  | 0 => by
    refine (ok_check_atX (P := P) (w := w) (base := base) (k := 3) T TT D (by decide) (ok_check_fractionX T D) (ok_check_rootX T D) (ok_check_ruledX T D) (ok_noX D.check_four) (ok_noX D.check_eight) (ok_noX D.check_power)).impX fun vs H Q E h => ?_
    obtain ⟨v, t, d, rfl, ht, hd, k1, k2⟩ := h
    have nd : ¬ d ≤ 5 := by omega
    have hE : ¬ d ≤ 5 → E (.ref A.c_BadTree) none H := fun _ => k2 (fun g => by have := g.2; omega) H (Same.refl _)
    cases t with
    | leaf f => exact chk_leafX ht hE (fun h => absurd h nd) (fun h => absurd h nd)
    | four ns x =>
      obtain ⟨p, tx, hv, hp, hx⟩ := ht
      exact ⟨v, "four", [.ref p, .ref tx], d, rfl, hv, hE, fun h => absurd h nd⟩
    | eight ns x y =>
      obtain ⟨p, tx, ty, hv, hp, hx, hy⟩ := ht
      exact ⟨v, "eight", [.ref p, .ref tx, .ref ty], d, rfl, hv, hE, fun h => absurd h nd⟩
    | power x n =>
      obtain ⟨tx, hv, hx⟩ := ht
      exact ⟨v, "power", [.ref tx, .int n], d, rfl, hv, hE, fun h => absurd h nd⟩
  | N + 1 => by
    have G := ok_chkX T TT D N
    refine ((ok_check_atX (P := P) (w := w) (base := base) (k := 4 + 2 * N + 1) T TT D (by omega) ((ok_check_fractionX T D).mono (by omega)) ((ok_check_rootX T D).mono (by omega)) ((ok_check_ruledX T D).mono (by omega)) (ok_check_fourX T D (by omega) G) (ok_check_eightX T D (by omega) G) (ok_check_powerX T D (by omega) G)).mono (by omega)).impX fun vs H Q E h => ?_
    obtain ⟨v, t, d, rfl, ht, hd, k1, k2⟩ := h
    have hE : ¬ d ≤ 5 → E (.ref A.c_BadTree) none H := fun z => absurd (show d ≤ 5 by omega) z
    have hdn : d + 1 + (N : Int) = 6 := by omega
    cases t with
    | leaf f => exact chk_leafX ht hE (fun h g => k1 ⟨g, by show d + ((0 : Nat) : Int) ≤ 5; omega⟩) (fun h g => k2 (fun y => g y.1))
    | four ns x =>
      obtain ⟨p, tx, hv, hp, hx⟩ := id ht
      exact ⟨v, "four", [.ref p, .ref tx], d, rfl, hv, hE, fun _ => .inr (.inr (.inr (.inl ⟨rfl, rfl, v, .four ns x, d, rfl, ht, ⟨ns, x, rfl⟩, hdn, k1, k2⟩)))⟩
    | eight ns x y =>
      obtain ⟨p, tx, ty, hv, hp, hx, hy⟩ := id ht
      exact ⟨v, "eight", [.ref p, .ref tx, .ref ty], d, rfl, hv, hE, fun _ => .inr (.inr (.inr (.inr (.inl ⟨rfl, rfl, v, .eight ns x y, d, rfl, ht, ⟨ns, x, y, rfl⟩, hdn, k1, k2⟩))))⟩
    | power x n =>
      obtain ⟨tx, hv, hx⟩ := id ht
      exact ⟨v, "power", [.ref tx, .int n], d, rfl, hv, hE, fun _ => .inr (.inr (.inr (.inr (.inr ⟨rfl, rfl, v, .power x n, d, rfl, ht, ⟨x, n, rfl⟩, hdn, k1, k2⟩))))⟩
/-- what is let by, and what is not -/
def Tree.Fine (t : Tree) : Prop := t.Good ∧ t.ht ≤ 4
theorem ok_check_treeX (T : CT K mg A) (TT : TB K w mg A) (D : DT K mg A) : COk P w K mg base (L2.CX P w) 15 "check_tree" ["tree"] (fun vs H Q E => ∃ (v : Addr) (t : Tree), vs = [.ref v] ∧ t.At K H v ∧ (t.Fine → ∀ H', Same H H' → Q .non H') ∧ (¬ t.Fine → ∀ H', Same H H' → E (.ref A.c_BadTree) none H')) := by
  have G_check_at_depth := ok_chkX (P := P) (w := w) (base := base) T TT D 5
  refine COk.by D.check_tree fun f fd F => ?_
  refine F.okX (k := 14) sc_check_tree (fun vs H Q E h => ?_) (fun cdv Ar outer s H vs Q E hr h => ?_)
  · obtain ⟨v, t, rfl, _⟩ := h
    rfl
  · obtain ⟨v, t, rfl, ht, k1, k2⟩ := h
    refine ⟨_, (pss_one (ps_expr (pe_cX G_check_at_depth (hr.mono (by first | decide | omega)) (passes_tk (takes_of rfl rfl rfl rfl)) (pa_cons (pv 0) (pa_cons pe_int pa_nil))))), ?_⟩
    exact ⟨_, rfl, v, t, 1, rfl, ht, by decide, fun g => k1 ⟨g.1, by have := g.2; omega⟩, fun g => k2 fun y => g ⟨y.1, by have := y.2; omega⟩⟩
def sp_readerX (A : Ad) (K : PySem.W.Frag) : Sp := fun vs H Q E => ∃ (v : Addr) (t : Tree), vs = [.ref v] ∧ t.At K H v ∧ (t.Fine → ∀ r H', Same H H' → Q (.ref r) H') ∧ (¬ t.Fine → ∀ H', Same H H' → E (.ref A.c_BadTree) none H')
theorem ok_readerX (T : CT K mg A) (TT : TB K w mg A) (D : DT K mg A) : COk P w K mg base (L2.CX P w) 27 "reader" ["tree"] (sp_readerX A K) := by
  have G_box_of := ok_box_of_all (P := P) (w := w) (base := base) T D 4
  have I_Reading := ok_Reading_init (P := P) (w := w) (base := base) T D
  have G_check_tree := ok_check_treeX (P := P) (w := w) (base := base) T TT D
  refine COk.by D.reader fun f fd F => ?_
  refine F.okX (k := 26) sc_reader (fun vs H Q E h => ?_) (fun cdv Ar outer s H vs Q E hr h => ?_)
  · obtain ⟨v, t, rfl, _⟩ := h
    rfl
  · obtain ⟨v, t, rfl, ht, k1, k2⟩ := h
    refine ⟨_, (pss_cons (ps_expr (pe_cX G_check_tree (hr.mono (by first | decide | omega)) (passes_tk (takes_of rfl rfl rfl rfl)) (pa_cons (pv 0) pa_nil)))
    (pss_one (ps_ret (pe_mk I_Reading (hr.mono (by first | decide | omega)) (pa_cons (pe_c G_box_of (hr.mono (by first | decide | omega)) (pa_cons (pv 0) pa_nil)) pa_nil))))), ?_⟩
    refine ⟨_, rfl, v, t, rfl, ht, fun g H1 s1 => ?_, k2⟩
    refine ⟨_, rfl, v, t, rfl, ht.same s1, g.1, g.2, fun a fp B H2 hB sB ok s2 nf => ?_⟩
    intro x dx nx nd ne
    refine ⟨x, dx, a, rfl, upd_same, fun m H3 nm hx hm kp => ⟨rfl, ?_⟩⟩
    have s3 : Same H2 H3 := fun b o e => kp b o (by rw [upd_ne (ne_of_none e nx), upd_ne (ne_of_none e nd)]; exact e) (ne_of_none e nx)
    exact k1 g x H3 ((s1.trans s2).trans s3)
def sp_firstX (A : Ad) (K : PySem.W.Frag) : Sp := fun vs H _ E => ∃ (v : Addr) (t : Tree) (many most : V), vs = [.ref v, many, most] ∧ t.At K H v ∧ ¬ t.Fine ∧ ∀ H', Same H H' → E (.ref A.c_BadTree) none H'
theorem ok_firstX (T : CT K mg A) (TT : TB K w mg A) (D : DT K mg A) : COk P w K mg base (L2.CX P w) 28 "first_parts" ["tree", "many", "most"] (sp_firstX A K) := by
  have G_reader := ok_readerX (P := P) (w := w) (base := base) T TT D
  refine COk.by D.first_parts fun f fd F => ?_
  refine F.okX (k := 27) sc_first_parts (fun vs H Q E h => ?_) (fun cdv Ar outer s H vs Q E hr h => ?_)
  · obtain ⟨v, t, many, most, rfl, _⟩ := h
    rfl
  · obtain ⟨v, t, many, most, rfl, ht, hn, k⟩ := h
    refine ⟨_, (pss_cons (ps_set (i := 3) sc_first_parts.nd rfl (Or.inl rfl) (pe_cX G_reader (hr.mono (by first | decide | omega)) (passes_tk (takes_of rfl rfl rfl rfl)) (pa_cons (pv 0) pa_nil))) pss_never), ?_⟩
    exact ⟨_, rfl, v, t, rfl, ht, fun g => absurd g hn, fun _ => k⟩
def sp_comparedX (A : Ad) (K : PySem.W.Frag) : Sp := fun vs H _ E => ∃ (v v' : Addr) (t t' : Tree) (most : V), vs = [.ref v, .ref v', most] ∧ t.At K H v ∧ t'.At K H v' ∧ ¬ (t.Fine ∧ t'.Fine) ∧ ∀ H', Same H H' → E (.ref A.c_BadTree) none H'
theorem ok_comparedX (T : CT K mg A) (TT : TB K w mg A) (D : DT K mg A) : COk P w K mg base (L2.CX P w) 28 "compared" ["one", "other", "most"] (sp_comparedX A K) := by
  have G_reader := ok_readerX (P := P) (w := w) (base := base) T TT D
  have G_order_of : COk P w K mg base (L2.CX P w) 1 "order_of" ["one", "other", "most"] spNo := ok_noX D.order_of
  refine COk.by D.compared fun f fd F => ?_
  refine F.okX (k := 27) sc_compared (fun vs H Q E h => ?_) (fun cdv Ar outer s H vs Q E hr h => ?_)
  · obtain ⟨v, v', t, t', most, rfl, _⟩ := h
    rfl
  · obtain ⟨v, v', t, t', most, rfl, ht, ht', hn, k⟩ := h
    refine ⟨_, (pss_one (ps_ret (pe_cX G_order_of (hr.mono (by first | decide | omega)) (passes_tk (takes_of rfl rfl rfl rfl)) (pa_cons (pe_cX G_reader (hr.mono (by first | decide | omega)) (passes_tk (takes_of rfl rfl rfl rfl)) (pa_cons (pv 0) pa_nil)) (pa_cons (pe_cX G_reader (hr.mono (by first | decide | omega)) (passes_tk (takes_of rfl rfl rfl rfl)) (pa_cons (pv 1) pa_nil)) (pa_cons (pv 2) pa_nil)))))), ?_⟩
    refine ⟨_, rfl, v, t, rfl, ht, fun g r H1 s1 => ?_, fun _ => k⟩
    exact ⟨_, rfl, v', t', rfl, ht'.same s1, fun g' => absurd ⟨g, g'⟩ hn, fun _ H2 s2 => k H2 (s1.trans s2)⟩
theorem ok_nearX (T : CT K mg A) (TT : TB K w mg A) (D : DT K mg A) : COk P w K mg base (L2.CX P w) 28 "nearest" ["tree", "size", "most"] (sp_firstX A K) := by
  have G_reader := ok_readerX (P := P) (w := w) (base := base) T TT D
  have G_read_sides : COk P w K mg base CX0 1 "read_sides" ["reading", "size", "most"] spNo := ok_no D.read_sides
  refine COk.by D.nearest fun f fd F => ?_
  refine F.okX (k := 27) sc_nearest (fun vs H Q E h => ?_) (fun cdv Ar outer s H vs Q E hr h => ?_)
  · obtain ⟨v, t, many, most, rfl, _⟩ := h
    rfl
  · obtain ⟨v, t, many, most, rfl, ht, hn, k⟩ := h
    refine ⟨_, (pss_cons (ps_set (i := 3) sc_nearest.nd rfl (Or.inl rfl) (pe_c G_read_sides (hr.mono (by first | decide | omega)) (pa_cons (pe_cX G_reader (hr.mono (by first | decide | omega)) (passes_tk (takes_of rfl rfl rfl rfl)) (pa_cons (pv 0) pa_nil)) (pa_cons (pv 1) (pa_cons (pv 2) pa_nil))))) pss_never), ?_⟩
    exact ⟨_, rfl, v, t, rfl, ht, fun g => absurd g hn, fun _ => k⟩
end
/-! ### the law's own bits -/
theorem upd_at {H : Hp} {p : Addr} {o : HO} (_ : Same H (upd H p o)) : (upd H p o) p = some o := upd_same
section
variable {X : Cx}
open PySem.Spec PyProof.Rows in
theorem tuple_mul1 (l : Addr) (items : Array Value) (n : Nat) (dd : Option Addr) (sl : Array (Option Value)) (u : Tok) :
    Meets (Builtin.«tuple.__mul__» ⟨[.ref l, .int 1 u], []⟩) (fun _ R s => s.heap.get? l = some { cls := .type "tuple", dict := dd, data := .seq items n, slots := sl } ∧ R (.ok (.ret (Value.ref l))) s) :=
  .of_wp fun prog w A R s h => by
    obtain ⟨hp, g, d, tk, os⟩ := s
    obtain ⟨hl, h⟩ := h
    have f1 := AutoSeq1.idx_int
    have c0 : (decide ((1 : Int) < -(2 ^ 63)) || decide ((1 : Int) ≥ 2 ^ 63)) = false := by decide
    have c1 : (items.isEmpty || (1 : Int) == 1) = true := by rw [show ((1 : Int) == 1) = true from rfl, Bool.or_true]
    wp_walk using wpAny_loadPart' hl
    repeat (first
      | (refine wpAny_ite_false (decide_eq_false (by rw [c0]; exact Bool.false_ne_true)) ?_; wp_walk using wpAny_loadPart' hl)
      | (refine wpAny_ite_true (decide_eq_true c1) ?_; wp_walk using wpAny_loadPart' hl))
    exact ⟨_, rfl, h⟩
open PySem.Spec PyProof.Rows in
theorem op_repT1 : OpR X (binaryOp .Mult) (fun x y H Q => ∃ l xs, x = .ref l ∧ y = .int 1 ∧ SqT X.K H l xs ∧ Q (.ref l) H) := by
  intro pins s σ H x y v u Q I rx ry h
  obtain ⟨l, xs, rfl, rfl, hT, q⟩ := h
  cases rx
  obtain ⟨t, rfl⟩ := ry
  obtain ⟨its, r, ⟨⟨cls, dd, data, sl⟩, ho, hc, n, hd⟩, hs⟩ := I.tuple hT
  simp only at hc hd
  subst hc hd
  refine wpAny_binaryOp_repeat_ref (T := "tuple") (U := "int") (by decide) ⟨_, ho, rfl⟩ (fun s' => typeIs_int s' 1 t) noFill_tuple_mul F.fills_int_mul F.slot_int_rmul repeat_tuple F.slot_int_index.lookup
    (call_meets F.slot_int_rmul (typeIs_int s 1 t) F.entry_int_rmul (F.args_int_rmul_2 _ _) (int_rmul_tuple 1 t l its.toArray n dd sl)
      ⟨ho, rfl, ⟨_, ho, rfl⟩, call_meets F.slot_tuple_mul ⟨_, ho, rfl⟩ F.entry_tuple_mul (F.args_tuple_mul_2 _ _) (tuple_mul1 l its.toArray n dd sl t) ⟨ho, ?_⟩⟩)
  exact ⟨.ref l, H, I, rfl, q⟩
/-- a tuple of one thing, so many times: some tuple -/
def rRepA (K : PySem.W.Frag) : R2 := fun x y H Q => ∃ (l : Addr) (v : V) (k : Nat), x = .ref l ∧ y = .int k ∧ SqT K H l [v] ∧ 1 ≤ k ∧ k ≤ 1000 ∧ ∀ p H', Same H H' → SqT K H' p (List.replicate k v) → Q (.ref p) H'
theorem rep_flat (v : V) : ∀ k : Nat, (List.replicate k [v]).flatten = List.replicate k v
  | 0 => rfl
  | k + 1 => by rw [List.replicate_succ, List.flatten_cons, rep_flat v k]; rfl
theorem op_repA : OpR X (binaryOp .Mult) (rRepA X.K) := by
  intro pins s σ H x y v u Q I rx ry h
  obtain ⟨l, z, k, ex, ey, hT, h1, h2, q⟩ := h
  by_cases c : k = 1
  · subst c
    exact op_repT1 pins s σ H x y v u Q I rx ry ⟨l, [z], ex, ey, hT, q l H (Same.refl _) hT⟩
  · refine op_repT pins s σ H x y v u Q I rx ry ⟨l, k, [z], ex, ey, hT, (fun e => nomatch e), by omega, by omega, (by show 1 ≤ 1000; decide), fun p np => ?_⟩
    refine q p _ (same_upd np) ?_
    rw [show ((k : Int)).toNat = k by omega, rep_flat]
    exact SqT.of upd_same
end
section
variable {P : Program} {w : World} {K : PySem.W.Frag} {mg : Str → Option Value} {base : Heap} {A : Ad}
theorem Tree.At.but {H H' : Hp} {N : Addr → Prop} (k : ∀ c o, H c = some o → ¬ N c → H' c = some o) (hN : ∀ c o, N c → H c = some o → (∀ ys, o ≠ .tup ys) ∧ ∀ ob u, o ≠ .frz ob u) : ∀ {t : Tree} {v : Addr}, t.At K H v → t.At K H' v
  | .leaf (.frac _ _), v, h => sqT_but (N := N) h k hN
  | .leaf (.root _ _ _), v, h => sqT_but (N := N) h k hN
  | .leaf (.ruled _ _ _), v, h => by
    obtain ⟨p, q, u, e, hp, hq, hu⟩ := h
    exact ⟨p, q, u, sqT_but (N := N) e k hN, sqT_but (N := N) hp k hN, sqT_but (N := N) hq k hN, sqT_but (N := N) hu k hN⟩
  | .four ns x, v, h => by
    obtain ⟨p, tx, h1, h2, h3⟩ := h
    exact ⟨p, tx, sqT_but (N := N) h1 k hN, sqT_but (N := N) h2 k hN, Tree.At.but k hN h3⟩
  | .eight ns x y, v, h => by
    obtain ⟨p, tx, ty, h1, h2, h3, h4⟩ := h
    exact ⟨p, tx, ty, sqT_but (N := N) h1 k hN, sqT_but (N := N) h2 k hN, Tree.At.but k hN h3, Tree.At.but k hN h4⟩
  | .power x n, v, h => by
    obtain ⟨tx, h1, h2⟩ := h
    exact ⟨tx, sqT_but (N := N) h1 k hN, Tree.At.but k hN h2⟩
theorem rowNo' {H0 : Hp} {r a : Addr} {ns : List Int} (R : RowAt K H0 r a ns) : ∀ b o, b = r → H0 b = some o → (∀ ys, o ≠ .tup ys) ∧ ∀ ob u, o ≠ .frz ob u := fun b o e z => by
  obtain ⟨x, xs, e2⟩ := R.at_
  subst e
  rw [e2] at z
  cases z
  exact ⟨fun _ q => (by cases q), fun _ _ q => (by cases q)⟩
def KpR (r : Addr) (H H' : Hp) : Prop := ∀ b o, H b = some o → b ≠ r → H' b = some o
theorem KpR.trans {r : Addr} {H H1 H2 : Hp} (a : KpR r H H1) (b : KpR r H1 H2) : KpR r H H2 := fun c o e n => b c o (a c o e n) n
theorem KpR.same {r : Addr} {H H' : Hp} (s : Same H H') : KpR r H H' := fun c o e _ => s c o e
theorem Tree.At.row {H H' : Hp} {r a : Addr} {ns : List Int} {t : Tree} {v : Addr} (h : t.At K H v) (R : RowAt K H r a ns) (k : KpR r H H') : t.At K H' v := Tree.At.but (N := fun b => b = r) k (rowNo' R) h
/-- refs of trees that are none -/
def Bads (K : PySem.W.Frag) (H : Hp) (vs : List V) : Prop := ∀ x ∈ vs, ∃ (a : Addr) (t : Tree), x = V.ref a ∧ t.At K H a ∧ ¬ t.Fine
theorem Bads.nil {H : Hp} : Bads K H [] := fun x hx => by cases hx
theorem Bads.same {H H' : Hp} {vs : List V} (h : Bads K H vs) (s : Same H H') : Bads K H' vs := fun x hx => by
  obtain ⟨a, t, e, ht, n⟩ := h x hx
  exact ⟨a, t, e, ht.same s, n⟩
theorem Bads.app {H : Hp} {vs us : List V} (h : Bads K H vs) (h' : Bads K H us) : Bads K H (vs ++ us) := fun x hx => by
  rcases List.mem_append.mp hx with z | z
  · exact h x z
  · exact h' x z
theorem Bads.snoc {H : Hp} {vs : List V} {a : Addr} {t : Tree} (h : Bads K H vs) (ht : t.At K H a) (n : ¬ t.Fine) : Bads K H (vs ++ [.ref a]) := h.app fun x hx => by
  rw [List.mem_singleton] at hx
  exact ⟨a, t, hx, ht, n⟩
theorem Bads.but {H H' : Hp} {N : Addr → Prop} {vs : List V} (h : Bads K H vs) (k : ∀ c o, H c = some o → ¬ N c → H' c = some o) (hN : ∀ c o, N c → H c = some o → (∀ ys, o ≠ .tup ys) ∧ ∀ ob u, o ≠ .frz ob u) : Bads K H' vs := fun x hx => by
  obtain ⟨a, t, e, ht, n⟩ := h x hx
  exact ⟨a, t, e, Tree.At.but k hN ht, n⟩
theorem Bads.row {H H' : Hp} {r a : Addr} {ns : List Int} {vs : List V} (h : Bads K H vs) (R : RowAt K H r a ns) (k : KpR r H H') : Bads K H' vs := h.but (N := fun b => b = r) k (rowNo' R)
theorem lstNo {H : Hp} {l : Addr} {xs : List V} (h : H l = some (.lst xs)) : ∀ b o, b = l → H b = some o → (∀ ys, o ≠ .tup ys) ∧ ∀ ob u, o ≠ .frz ob u := fun b o e z => by
  subst e
  rw [h] at z
  cases z
  exact ⟨fun _ q => (by cases q), fun _ _ q => (by cases q)⟩
/-! ### refused, or let by -/
structure XAd where
  c_PartError : Addr
  c_TooLong : Addr
structure XET (K : PySem.W.Frag) (mg : Str → Option Value) (A : Ad) (XA : XAd) : Prop where
  g_PartError : mg "PartError" = some (.ref XA.c_PartError)
  g_TooLong : mg "TooLong" = some (.ref XA.c_TooLong)
  b_ValueError : mg "ValueError" = none
  ex : ExcC K A.c_BadTree
  em : PySem.W.exmOne K (.ref A.c_BadTree) (.ref XA.c_PartError) = some true
  k1 : PySem.W.kitOne K (.ref A.c_BadTree) (.ref A.c_BadTree) = some true
  k2 : PySem.W.kitOne K (.ref A.c_BadTree) (.type "ValueError") = some true
  k3 : PySem.W.kitAny K (.ref A.c_BadTree) [.ref A.c_NoValue, .ref XA.c_TooLong] = some false
end
section
variable {X : Cx}
theorem call_isE' {a D : Addr} {oe : Obj} {cls : Value} {d : Option Addr} {pn : List (Addr × Obj)} (C : ExcC X.K D) (hz : Zc cls d oe) (hf : ∃ vs, oe.data = .fields vs) : CallR (X.suite a ((a, oe) :: pn)) (.builtin "isinstance") (fun xs H Q => cls = .ref D ∧ d = none ∧ rIsE X.K D a xs H Q) := by
  intro pins s σ H xs us Q I r h
  obtain ⟨rfl, rfl, h⟩ := h
  exact call_isE C hz hf pins s σ H xs us Q I r h
open PySem.Spec PyProof.Rows in
theorem call_isT' {a D : Addr} {oe : Obj} {cls : Value} {d : Option Addr} {pn : List (Addr × Obj)} (C : ExcC X.K D) (hz : Zc cls d oe) (hf : ∃ vs, oe.data = .fields vs) : CallR (X.suite a ((a, oe) :: pn)) (.builtin "isinstance")
    (fun xs H Q => cls = .ref D ∧ d = none ∧ ∃ (tp c1 c2 : Addr) (b : Bool), xs = [.ref a, .ref tp] ∧ SqT X.K H tp [.ref c1, .ref c2] ∧ PySem.W.kitAny X.K (.ref D) [.ref c1, .ref c2] = some b ∧ Q (.bl b) H) := by
  intro pins s σ H xs us Q I r h
  obtain ⟨rfl, rfl, tp, c1, c2, b, rfl, hq, e, q⟩ := h
  cases r with
  | cons rx rr =>
    cases rr with
    | cons rt rr =>
      cases rr
      cases rx
      cases rt
      obtain ⟨hget, _⟩ := I.pin (a, oe) (List.mem_append.mpr (.inl List.mem_cons_self))
      obtain ⟨vs, hv⟩ := hf
      have J : PySem.W.InstAt s.heap a oe D none := by
        obtain ⟨oc, od, oda, osl⟩ := oe
        obtain ⟨h1, h2⟩ := hz
        dsimp only at h1 h2 hv
        subst h1 h2 hv
        exact ⟨hget, rfl, rfl, trivial⟩
      obtain ⟨its, rv, pl, _⟩ := I.tuple hq
      cases rv with
      | cons r1 rv =>
        cases rv with
        | cons r2 rv =>
          cases rv
          cases r1
          cases r2
          obtain ⟨⟨oc, od, oda, osl⟩, ho, hc, n, hd⟩ := pl
          dsimp only at hc hd
          subst hc hd
          exact PySem.W.kia_tup (PySem.W.handS_kitx_exc C.hg C.hk C.hs C.hd C.ha C.hn C.ht C.hm) I.kIn J ho e (fun z => nomatch z) fun tk => ⟨.bl b, H, I.kept (t' := tk) fun _ _ z => z, rfl, q⟩
end
section
variable {P : Program} {w : World} {K : PySem.W.Frag} {mg : Str → Option Value} {base : Heap} {A : Ad} {XA : XAd}
def sp_law_refused (A : Ad) (K : PySem.W.Frag) : Sp := fun vs H Q _ => ∃ (way : Nat) (v : Addr) (t : Tree), vs = [.int way, .ref v] ∧ way < 5 ∧ t.At K H v ∧ (¬ t.Fine → ∀ H', Same H H' → Q (.bl true) H') ∧ (t.Fine → way = 0 ∧ ∀ H', Same H H' → Q (.bl false) H')
theorem ok_law_refused (T : CT K mg A) (TT : TB K w mg A) (XE : XET K mg A XA) (D : DT K mg A) : COk P w K mg base CX0 29 "_law_refused" ["_law_way", "_law_tree"] (sp_law_refused A K) := by
  have G_reader := ok_readerX (P := P) (w := w) (base := base) T TT D
  have G_first_parts := ok_firstX (P := P) (w := w) (base := base) T TT D
  have G_compared := ok_comparedX (P := P) (w := w) (base := base) T TT D
  have G_nearest := ok_nearX (P := P) (w := w) (base := base) T TT D
  refine COk.by D.law_refused fun f fd F => ?_
  refine F.ok (k := 28) sc_law_refused (fun vs H Q E h => ?_) (fun cdv Ar outer s H vs Q E hr h => ?_)
  · obtain ⟨way, v, t, rfl, _⟩ := h
    rfl
  · obtain ⟨way, v, t, rfl, hw5, ht, k1, k2⟩ := h
    refine ⟨_, (pss_cons (ps_set (i := 2) sc_law_refused.nd rfl (Or.inl rfl) (pe_tup (pa_cons pe_str (pa_cons pe_int (pa_cons pe_int pa_nil)))))
    (pss_cons (ps_try_as (i := 3) rfl rfl sc_law_refused.nd rfl rfl ⟨rfl, by decide, .inl XE.g_PartError⟩ takes0 (fun W pn xe tk _ => (pss_one (ps_if (pt_cmpR op_eq (pv 0) pe_int (nomark _))
      (pss_one (ps_expr (pe_cS G_reader (hr.mono (by first | decide | omega)) (fun σ => passAt tk σ) (pa_cons (pv 1) pa_nil)))) (pss_one (ps_if (pt_cmpR op_eq (pv 0) pe_int (nomark _))
      (pss_one (ps_expr (pe_cS G_first_parts (hr.mono (by first | decide | omega)) (fun σ => passAt tk σ) (pa_cons (pv 1) (pa_cons pe_int (pa_cons pe_int pa_nil)))))) (pss_one (ps_if (pt_cmpR op_eq (pv 0) pe_int (nomark _))
      (pss_one (ps_expr (pe_cS G_compared (hr.mono (by first | decide | omega)) (fun σ => passAt tk σ) (pa_cons (pv 2) (pa_cons (pv 1) (pa_cons pe_int pa_nil)))))) (pss_one (ps_if (pt_cmpR op_eq (pv 0) pe_int (nomark _))
      (pss_one (ps_expr (pe_cS G_compared (hr.mono (by first | decide | omega)) (fun σ => passAt tk σ) (pa_cons (pv 1) (pa_cons (pv 2) (pa_cons pe_int pa_nil)))))) (pss_one (ps_expr (pe_cS G_nearest (hr.mono (by first | decide | omega)) (fun σ => passAt tk σ) (pa_cons (pv 1) (pa_cons pe_int (pa_cons pe_int pa_nil)))))))))))))))
      (fun a oe cls d pn hz hf => (pss_one (ps_ret (pe_and (pe_callB (call_isE' XE.ex hz hf) (by rfl) T.b_isinstance (by decide +kernel) (pa_cons (pv 3) (pa_cons (pe_glob (v := .ref A.c_BadTree) (by rfl) T.x_BadTree.g rfl) pa_nil))) (pe_and (pe_callB (call_isE' XE.ex hz hf) (by rfl) T.b_isinstance (by decide +kernel) (pa_cons (pv 3) (pa_cons (pe_bltn (v := .ty "ValueError") (by rfl) XE.b_ValueError (by decide +kernel) rfl) pa_nil))) (pe_one (pe_not (pe_callB (call_isT' XE.ex hz hf) (by rfl) T.b_isinstance (by decide +kernel) (pa_cons (pv 3) (pa_cons (pe_tup (pa_cons (pe_glob (v := .ref A.c_NoValue) (by rfl) T.x_NoValue.g rfl) (pa_cons (pe_glob (v := .ref XA.c_TooLong) (by rfl) XE.g_TooLong rfl) pa_nil))) pa_nil)))))))))))
    (pss_one (ps_ret pe_bl)))), ?_⟩
    refine ⟨(by show 3 ≤ sizeLine; decide), fun g ng => ?_⟩
    have s1 := same_upd (o := .tup [V.str "fraction", .int 2, .int 3]) ng
    have hg : Tree.At K _ (.leaf (.frac 2 3)) g := SqT.of (upd_at s1)
    have ht1 := ht.same s1
    generalize upd H g _ = H1 at *
    have nb : ∀ t' : Tree, ¬ (t.Fine ∧ t'.Fine) → ¬ t.Fine ∨ ¬ t'.Fine := fun t' h => by
      by_cases z : t.Fine
      · exact .inr fun y => h ⟨z, y⟩
      · exact .inl z
    have way0 : t.Fine → way = 0 := fun f => (k2 f).1
    refine ⟨_, rfl, rfl, _, rfl, ite2 (fun c => ?_) (fun c => ?_)⟩
    · refine ⟨_, rfl, v, t, rfl, ht1, fun g r H' s' => ?_, fun n H' sH => ?_⟩
      · exact (k2 g).2 H' (s1.trans s')
      refine ⟨true, XE.em, fun _ a0 na => ?_, fun z => nomatch z⟩
      refine ⟨_, rfl, rfl, rfl, _, _, true, rfl, (fun u hu => hu), XE.k1, _, rfl, iteT ?_⟩
      refine ⟨_, rfl, rfl, rfl, _, _, true, rfl, (fun u hu => hu), XE.k2, _, rfl, iteT ?_⟩
      refine ⟨_, rfl, (by show 2 ≤ sizeLine; decide), fun tp ntp => ⟨rfl, rfl, tp, _, _, false, rfl, SqT.of upd_same, XE.k3, ?_⟩⟩
      exact ⟨_, rfl, k1 n _ ((s1.trans sH).trans (same_upd ntp))⟩
    have nw : way ≠ 0 := fun z => c (decide_eq_true (congrArg V.int (by omega)))
    have nf : ¬ t.Fine := fun f => nw (way0 f)
    refine ⟨_, rfl, rfl, _, rfl, ite2 (fun c => ?_) (fun c => ?_)⟩
    · refine ⟨_, rfl, v, t, _, _, rfl, ht1, nf, fun H' sH => ?_⟩
      refine ⟨true, XE.em, fun _ a0 na => ?_, fun z => nomatch z⟩
      refine ⟨_, rfl, rfl, rfl, _, _, true, rfl, (fun u hu => hu), XE.k1, _, rfl, iteT ?_⟩
      refine ⟨_, rfl, rfl, rfl, _, _, true, rfl, (fun u hu => hu), XE.k2, _, rfl, iteT ?_⟩
      refine ⟨_, rfl, (by show 2 ≤ sizeLine; decide), fun tp ntp => ⟨rfl, rfl, tp, _, _, false, rfl, SqT.of upd_same, XE.k3, ?_⟩⟩
      exact ⟨_, rfl, k1 nf _ ((s1.trans sH).trans (same_upd ntp))⟩
    refine ⟨_, rfl, rfl, _, rfl, ite2 (fun c => ?_) (fun c => ?_)⟩
    · refine ⟨_, rfl, _, rfl, g, v, .leaf (.frac 2 3), t, _, rfl, hg, ht1, (fun y => nf y.2), fun H' sH => ?_⟩
      refine ⟨true, XE.em, fun _ a0 na => ?_, fun z => nomatch z⟩
      refine ⟨_, rfl, rfl, rfl, _, _, true, rfl, (fun u hu => hu), XE.k1, _, rfl, iteT ?_⟩
      refine ⟨_, rfl, rfl, rfl, _, _, true, rfl, (fun u hu => hu), XE.k2, _, rfl, iteT ?_⟩
      refine ⟨_, rfl, (by show 2 ≤ sizeLine; decide), fun tp ntp => ⟨rfl, rfl, tp, _, _, false, rfl, SqT.of upd_same, XE.k3, ?_⟩⟩
      exact ⟨_, rfl, k1 nf _ ((s1.trans sH).trans (same_upd ntp))⟩
    refine ⟨_, rfl, rfl, _, rfl, ite2 (fun c => ?_) (fun c => ?_)⟩
    · refine ⟨_, rfl, _, rfl, v, g, t, .leaf (.frac 2 3), _, rfl, ht1, hg, (fun y => nf y.1), fun H' sH => ?_⟩
      refine ⟨true, XE.em, fun _ a0 na => ?_, fun z => nomatch z⟩
      refine ⟨_, rfl, rfl, rfl, _, _, true, rfl, (fun u hu => hu), XE.k1, _, rfl, iteT ?_⟩
      refine ⟨_, rfl, rfl, rfl, _, _, true, rfl, (fun u hu => hu), XE.k2, _, rfl, iteT ?_⟩
      refine ⟨_, rfl, (by show 2 ≤ sizeLine; decide), fun tp ntp => ⟨rfl, rfl, tp, _, _, false, rfl, SqT.of upd_same, XE.k3, ?_⟩⟩
      exact ⟨_, rfl, k1 nf _ ((s1.trans sH).trans (same_upd ntp))⟩
    refine ⟨_, rfl, v, t, _, _, rfl, ht1, nf, fun H' sH => ?_⟩
    refine ⟨true, XE.em, fun _ a0 na => ?_, fun z => nomatch z⟩
    refine ⟨_, rfl, rfl, rfl, _, _, true, rfl, (fun u hu => hu), XE.k1, _, rfl, iteT ?_⟩
    refine ⟨_, rfl, rfl, rfl, _, _, true, rfl, (fun u hu => hu), XE.k2, _, rfl, iteT ?_⟩
    refine ⟨_, rfl, (by show 2 ≤ sizeLine; decide), fun tp ntp => ⟨rfl, rfl, tp, _, _, false, rfl, SqT.of upd_same, XE.k3, ?_⟩⟩
    exact ⟨_, rfl, k1 nf _ ((s1.trans sH).trans (same_upd ntp))⟩
/-! ### round it -/
def Round (n : Nat) (t t' : Tree) : Prop := (t'.Good ↔ t.Good) ∧ t.ht ≤ t'.ht ∧ t'.ht ≤ t.ht + n
theorem good23 : Tree.Good (.leaf (.frac 2 3)) := ⟨⟨by decide, by decide⟩, ⟨by decide, by decide⟩, by decide⟩
theorem tameL {ns : List Int} (h : (ns.all fun z => decide (-1000000000000 ≤ z) && decide (z ≤ 1000000000000)) = true) : ∀ z ∈ ns, tame z := fun z hz => by
  have := List.all_eq_true.mp h z hz
  rw [Bool.and_eq_true] at this
  exact ⟨of_decide_eq_true this.1, of_decide_eq_true this.2⟩
theorem cr4 : Crossed [2, 1, 1, 1] := ⟨1, 0, by decide, by decide, by decide⟩
theorem cr8 : Crossed [0, 1, 1, 0, 0, 0, 0, 1] := ⟨3, 1, by decide, by decide, by decide⟩
theorem Round.four {n : Nat} {t t' : Tree} (h : Round n t t') : Round (n + 1) t (.four [2, 1, 1, 1] t') := by
  refine ⟨⟨fun g => h.1.mp g.2.2.2, fun g => ⟨rfl, tameL (by decide), cr4, h.1.mpr g⟩⟩, ?_, ?_⟩
  · have := h.2.1; show _ ≤ t'.ht + 1; omega
  · have := h.2.2; show t'.ht + 1 ≤ _; omega
theorem Round.eight1 {n : Nat} {t t' : Tree} (h : Round n t t') : Round (n + 1) t (.eight [0, 1, 1, 0, 0, 0, 0, 1] (.leaf (.frac 2 3)) t') := by
  refine ⟨⟨fun g => h.1.mp g.2.2.2.2, fun g => ⟨rfl, tameL (by decide), cr8, good23, h.1.mpr g⟩⟩, ?_, ?_⟩
  · have := h.2.1; show _ ≤ max 0 t'.ht + 1; omega
  · have := h.2.2; show max 0 t'.ht + 1 ≤ _; omega
theorem Round.eight2 {n : Nat} {t t' : Tree} (h : Round n t t') : Round (n + 1) t (.eight [0, 1, 1, 0, 0, 0, 0, 1] t' (.leaf (.frac 2 3))) := by
  refine ⟨⟨fun g => h.1.mp g.2.2.2.1, fun g => ⟨rfl, tameL (by decide), cr8, h.1.mpr g, good23⟩⟩, ?_, ?_⟩
  · have := h.2.1; show _ ≤ max t'.ht 0 + 1; omega
  · have := h.2.2; show max t'.ht 0 + 1 ≤ _; omega
theorem Round.power {n : Nat} {t t' : Tree} (h : Round n t t') : Round (n + 1) t (.power t' 2) := by
  refine ⟨⟨fun g => h.1.mp g.2.2, fun g => ⟨by decide, by decide, h.1.mpr g⟩⟩, ?_, ?_⟩
  · have := h.2.1; show _ ≤ t'.ht + 1; omega
  · have := h.2.2; show t'.ht + 1 ≤ _; omega
def sp_law_around (K : PySem.W.Frag) : Sp := fun vs H Q _ => ∃ (r a : Addr) (ns : List Int) (v : Addr) (t : Tree) (n : Nat), vs = [.ref r, .ref v, .int n] ∧ RowAt K H r a ns ∧ t.At K H v ∧ n ≤ 4 ∧
  ∀ v' t' H', t'.At K H' v' → Round n t t' → RowAt K H' r a ns → KpR r H H' → Q (.ref v') H'
theorem ok_law_around (T : CT K mg A) (D : DT K mg A) (G_law_taken : COk P w K mg base CX0 1 "_law_taken" ["_law_row_here", "_law_many"] (sp_law_taken K)) : COk P w K mg base CX0 2 "_law_around" ["_law_row_here", "_law_tree", "_law_many"] (sp_law_around K) := by
  refine COk.by D.law_around fun f fd F => ?_
  refine F.ok sc_law_around (fun vs H Q E h => ?_) (fun cdv Ar outer s H vs Q E hr h => ?_)
  · obtain ⟨r, a, ns, v, t, n, rfl, _⟩ := h
    rfl
  · obtain ⟨r, a, ns, v, t, n, rfl, R, ht, hn, k⟩ := h
    refine ⟨_, (pss_cons (ps_set (i := 3) sc_law_around.nd rfl (Or.inl rfl) (pe_tup (pa_cons pe_str (pa_cons pe_int (pa_cons pe_int pa_nil)))))
    (pss_cons (ps_for PassesOwn.never rfl (pi_range1 rfl T.b_range (pa_cons (pv 2) pa_nil)) (pg_name (i := 4) sc_law_around.nd rfl (Or.inl rfl))
      (pss_cons (ps_set (i := 5) sc_law_around.nd rfl (Or.inl rfl) (pe_c G_law_taken (hr.mono (by first | decide | omega)) (pa_cons (pv 0) (pa_cons pe_int pa_nil))))
    (pss_one (ps_if (pt_cmpR op_eq (pv 5) pe_int (nomark _))
      (pss_one (ps_set (i := 1) sc_law_around.nd rfl (Or.inl rfl) (pe_tup (pa_cons pe_str (pa_cons (pe_tup (pa_cons pe_int (pa_cons pe_int (pa_cons pe_int (pa_cons pe_int pa_nil))))) (pa_cons (pv 1) pa_nil)))))) (pss_one (ps_if (pt_cmpR op_eq (pv 5) pe_int (nomark _))
      (pss_one (ps_set (i := 1) sc_law_around.nd rfl (Or.inl rfl) (pe_tup (pa_cons pe_str (pa_cons (pe_tup (pa_cons pe_int (pa_cons pe_int (pa_cons pe_int (pa_cons pe_int (pa_cons pe_int (pa_cons pe_int (pa_cons pe_int (pa_cons pe_int pa_nil))))))))) (pa_cons (pv 3) (pa_cons (pv 1) pa_nil))))))) (pss_one (ps_if (pt_cmpR op_eq (pv 5) pe_int (nomark _))
      (pss_one (ps_set (i := 1) sc_law_around.nd rfl (Or.inl rfl) (pe_tup (pa_cons pe_str (pa_cons (pe_tup (pa_cons pe_int (pa_cons pe_int (pa_cons pe_int (pa_cons pe_int (pa_cons pe_int (pa_cons pe_int (pa_cons pe_int (pa_cons pe_int pa_nil))))))))) (pa_cons (pv 1) (pa_cons (pv 3) pa_nil))))))) (pss_one (ps_set (i := 1) sc_law_around.nd rfl (Or.inl rfl) (pe_tup (pa_cons pe_str (pa_cons (pv 1) (pa_cons pe_int pa_nil))))))))))))))
    (pss_one (ps_ret (pv 1))))), ?_⟩
    have w4 : (4 : Int) < 2 ^ 8000 := by decide +kernel
    refine ⟨(by show 3 ≤ sizeLine; decide), fun g ng => ?_⟩
    have s1 := same_upd (o := .tup [V.str "fraction", .int 2, .int 3]) ng
    have hg : Tree.At K _ (.leaf (.frac 2 3)) g := SqT.of (upd_at s1)
    have ht1 := ht.same s1
    have R1 := R.same s1
    generalize upd H g _ = H1 at *
    refine ⟨_, rfl, (n : Int), rfl, by omega, by omega, for_range (lo := 0) (n := n) (fun i σ H' => ∃ (v' : Addr) (t' : Tree) (v4 v5 : Option V), σ = [some (.ref r), some (.ref v'), some (.int n), some (.ref g), v4, v5] ∧ t'.At K H' v' ∧ Tree.At K H' (.leaf (.frac 2 3)) g ∧ Round i t t' ∧ RowAt K H' r a ns ∧ KpR r H1 H')
      ⟨v, t, none, none, rfl, ht1, hg, ⟨Iff.rfl, Nat.le_refl _, Nat.le_refl _⟩, R1, fun _ _ e _ => e⟩ ?_ ?_⟩
    · rintro i σ H' hi ⟨v', t', v4, v5, rfl, ht', hg', rd, R', kp⟩
      refine ⟨_, rfl, r, a, ns, _, rfl, R', by decide, w4, fun m0 H2 m1 m2 R2 kp2 => ?_⟩
      have ht2 := ht'.row R' kp2
      have hg2 := hg'.row R' kp2
      have kp2' := kp.trans kp2
      refine ⟨_, rfl, rfl, _, rfl, ite2 (fun c => ?_) (fun c => ?_)⟩
      · refine ⟨(by show 4 ≤ sizeLine; decide), fun p np => ?_⟩
        have s3 := same_upd (o := .tup [V.int 2, .int 1, .int 1, .int 1]) np
        refine ⟨_, rfl, (by show 3 ≤ sizeLine; decide), fun q nq => ?_⟩
        have s4 := same_upd (o := .tup [V.str "four", .ref p, .ref v']) nq
        have ss := s3.trans s4
        exact ⟨q, .four [2, 1, 1, 1] t', _, _, rfl, ⟨p, v', SqT.of upd_same, sqT_same (SqT.of upd_same) s4, ht2.same ss⟩, hg2.same ss, rd.four, R2.same ss, kp2'.trans (.same ss)⟩
      refine ⟨_, rfl, rfl, _, rfl, ite2 (fun c => ?_) (fun c => ?_)⟩
      · refine ⟨(by show 8 ≤ sizeLine; decide), fun p np => ?_⟩
        have s3 := same_upd (o := .tup [V.int 0, .int 1, .int 1, .int 0, .int 0, .int 0, .int 0, .int 1]) np
        refine ⟨_, rfl, _, rfl, (by show 4 ≤ sizeLine; decide), fun q nq => ?_⟩
        have s4 := same_upd (o := .tup [V.str "eight", .ref p, .ref g, .ref v']) nq
        have ss := s3.trans s4
        exact ⟨q, .eight [0, 1, 1, 0, 0, 0, 0, 1] (.leaf (.frac 2 3)) t', _, _, rfl, ⟨p, g, v', SqT.of upd_same, sqT_same (SqT.of upd_same) s4, hg2.same ss, ht2.same ss⟩, hg2.same ss, rd.eight1, R2.same ss, kp2'.trans (.same ss)⟩
      refine ⟨_, rfl, rfl, _, rfl, ite2 (fun c => ?_) (fun c => ?_)⟩
      · refine ⟨(by show 8 ≤ sizeLine; decide), fun p np => ?_⟩
        have s3 := same_upd (o := .tup [V.int 0, .int 1, .int 1, .int 0, .int 0, .int 0, .int 0, .int 1]) np
        refine ⟨_, rfl, _, rfl, (by show 4 ≤ sizeLine; decide), fun q nq => ?_⟩
        have s4 := same_upd (o := .tup [V.str "eight", .ref p, .ref v', .ref g]) nq
        have ss := s3.trans s4
        exact ⟨q, .eight [0, 1, 1, 0, 0, 0, 0, 1] t' (.leaf (.frac 2 3)), _, _, rfl, ⟨p, v', g, SqT.of upd_same, sqT_same (SqT.of upd_same) s4, ht2.same ss, hg2.same ss⟩, hg2.same ss, rd.eight2, R2.same ss, kp2'.trans (.same ss)⟩
      · refine ⟨_, rfl, (by show 3 ≤ sizeLine; decide), fun q nq => ?_⟩
        have s4 := same_upd (o := .tup [V.str "power", .ref v', .int 2]) nq
        exact ⟨q, .power t' 2, _, _, rfl, ⟨v', SqT.of upd_same, ht2.same s4⟩, hg2.same s4, rd.power, R2.same s4, kp2'.trans (.same s4)⟩
    · rintro σ H' ⟨v', t', v4, v5, rfl, ht', hg', rd, R', kp⟩
      exact ⟨_, rfl, k v' t' H' ht' rd R' ((KpR.same s1).trans kp)⟩
end
/-! ### trees that are none -/
def crossedB (ns : List Int) : Bool := (List.range (ns.length / 2)).any fun i => (List.range i).any fun k => decide (ns.getD i 0 * ns.getD (k + ns.length / 2) 0 ≠ ns.getD k 0 * ns.getD (i + ns.length / 2) 0)
theorem notCrossed {ns : List Int} (h : crossedB ns = false) : ¬ Crossed ns := fun ⟨i, k, h1, h2, h3⟩ => by
  have : crossedB ns = true := List.any_eq_true.mpr ⟨i, List.mem_range.mpr h2, List.any_eq_true.mpr ⟨k, List.mem_range.mpr h1, decide_eq_true h3⟩⟩
  rw [h] at this
  cases this
theorem notLast : ¬ Tree.Good (.leaf (.ruled [1, 1] [] [])) := fun g => by
  rcases g.last rfl with h | ⟨z, hz, z2⟩
  · cases h
  · cases hz
    exact absurd z2 (by decide)
section
variable {P : Program} {w : World} {K : PySem.W.Frag} {mg : Str → Option Value} {base : Heap} {A : Ad}
def sp_law_bad (K : PySem.W.Frag) : Sp := fun vs H Q _ => ∃ (r a : Addr) (ns : List Int), vs = [.ref r] ∧ RowAt K H r a ns ∧ ∀ v t H', Tree.At K H' t v → ¬ t.Fine → RowAt K H' r a ns → Q (.ref v) H'
theorem ok_law_bad (T : CT K mg A) (D : DT K mg A) (G_law_taken : COk P w K mg base CX0 1 "_law_taken" ["_law_row_here", "_law_many"] (sp_law_taken K)) : COk P w K mg base CX0 2 "_law_bad" ["_law_row_here"] (sp_law_bad K) := by
  refine COk.by D.law_bad fun f fd F => ?_
  refine F.ok sc_law_bad (fun vs H Q E h => ?_) (fun cdv Ar outer s H vs Q E hr h => ?_)
  · obtain ⟨r, a, ns, rfl, _⟩ := h
    rfl
  · obtain ⟨r, a, ns, rfl, R, k⟩ := h
    refine ⟨_, (C8.pss_cut (ps_set (i := 1) sc_law_bad.nd rfl (Or.inl rfl) (pe_op op_add (pe_powc (v := 1000000000000) (by decide) ⟨by decide, by decide, by decide⟩) pe_int))
    (pss_cons (ps_set (i := 2) sc_law_bad.nd rfl (Or.inl rfl) (pe_lst (pa_cons (pe_tup (pa_cons pe_str (pa_cons pe_int (pa_cons pe_int pa_nil)))) (pa_cons (pe_tup (pa_cons pe_str (pa_cons (pv 1) (pa_cons pe_int pa_nil)))) (pa_cons (pe_tup (pa_cons pe_str (pa_cons pe_int (pa_cons (pe_op op_sub pe_int (pv 1)) pa_nil)))) (pa_cons (pe_tup (pa_cons pe_str (pa_cons pe_int (pa_cons (pe_un un_neg pe_int) (pa_cons pe_int pa_nil))))) (pa_cons (pe_tup (pa_cons pe_str (pa_cons pe_int (pa_cons pe_int (pa_cons pe_int pa_nil))))) pa_nil)))))))
    (pss_cons (ps_set (i := 2) sc_law_bad.nd rfl (Or.inl rfl) (pe_op op_cat (pv 2) (pe_lst (pa_cons (pe_tup (pa_cons pe_str (pa_cons pe_int (pa_cons (pv 1) (pa_cons pe_int pa_nil))))) (pa_cons (pe_tup (pa_cons pe_str (pa_cons (pv 1) (pa_cons pe_int (pa_cons pe_int pa_nil))))) (pa_cons (pe_tup (pa_cons pe_str (pa_cons (pe_tup pa_nil) (pa_cons (pe_tup (pa_cons pe_int pa_nil)) (pa_cons (pe_tup (pa_cons pe_int pa_nil)) pa_nil))))) (pa_cons (pe_tup (pa_cons pe_str (pa_cons (pe_tup (pa_cons pe_int (pa_cons pe_int pa_nil))) (pa_cons (pe_tup pa_nil) (pa_cons (pe_tup pa_nil) pa_nil))))) pa_nil)))))))
    (pss_cons (ps_set (i := 2) sc_law_bad.nd rfl (Or.inl rfl) (pe_op op_cat (pv 2) (pe_lst (pa_cons (pe_tup (pa_cons pe_str (pa_cons (pe_tup (pa_cons pe_int (pa_cons pe_int pa_nil))) (pa_cons (pe_tup pa_nil) (pa_cons (pe_tup pa_nil) pa_nil))))) (pa_cons (pe_tup (pa_cons pe_str (pa_cons (pe_tup (pa_cons pe_int pa_nil)) (pa_cons (pe_tup (pa_cons pe_int pa_nil)) (pa_cons (pe_tup (pa_cons pe_int pa_nil)) pa_nil))))) (pa_cons (pe_tup (pa_cons pe_str (pa_cons (pe_tup (pa_cons pe_int pa_nil)) (pa_cons (pe_tup (pa_cons pe_int pa_nil)) (pa_cons (pe_tup (pa_cons (pe_un un_neg pe_int) pa_nil)) pa_nil))))) pa_nil))))))
    (pss_cons (ps_set (i := 2) sc_law_bad.nd rfl (Or.inl rfl) (pe_op op_cat (pv 2) (pe_lst (pa_cons (pe_tup (pa_cons pe_str (pa_cons (pe_tup (pa_cons pe_int pa_nil)) (pa_cons (pe_tup (pa_cons pe_int pa_nil)) (pa_cons (pe_tup pa_nil) pa_nil))))) (pa_cons (pe_tup (pa_cons pe_str (pa_cons (pe_tup (pa_cons pe_int pa_nil)) (pa_cons (pe_tup pa_nil) (pa_cons (pe_tup (pa_cons pe_int pa_nil)) pa_nil))))) (pa_cons (pe_tup (pa_cons pe_str (pa_cons (pe_op op_repT (pe_tup (pa_cons pe_int pa_nil)) pe_int) (pa_cons (pe_tup pa_nil) (pa_cons (pe_tup pa_nil) pa_nil))))) pa_nil))))))
    (pss_cons (ps_set (i := 2) sc_law_bad.nd rfl (Or.inl rfl) (pe_op op_cat (pv 2) (pe_lst (pa_cons (pe_tup (pa_cons pe_str (pa_cons (pe_tup (pa_cons (pv 1) pa_nil)) (pa_cons (pe_tup pa_nil) (pa_cons (pe_tup pa_nil) pa_nil))))) (pa_cons (pe_tup (pa_cons pe_str (pa_cons (pe_tup (pa_cons pe_int (pa_cons (pe_un un_neg pe_int) pa_nil))) (pa_cons (pe_tup (pa_cons pe_int pa_nil)) (pa_cons (pe_tup (pa_cons pe_int pa_nil)) pa_nil))))) (pa_cons (pe_tup (pa_cons pe_str (pa_cons (pe_tup (pa_cons pe_int pa_nil)) (pa_cons (pe_op op_repT (pe_tup (pa_cons pe_int pa_nil)) pe_int) (pa_cons (pe_op op_repT (pe_tup (pa_cons pe_int pa_nil)) pe_int) pa_nil))))) pa_nil))))))
    (pss_cons (ps_set (i := 3) sc_law_bad.nd rfl (Or.inl rfl) (pe_tup (pa_cons pe_str (pa_cons pe_int (pa_cons pe_int pa_nil)))))
    (pss_cons (ps_set (i := 2) sc_law_bad.nd rfl (Or.inl rfl) (pe_op op_cat (pv 2) (pe_lst (pa_cons (pe_tup (pa_cons pe_str (pa_cons (pe_tup (pa_cons pe_int (pa_cons pe_int (pa_cons pe_int (pa_cons pe_int pa_nil))))) (pa_cons (pv 3) pa_nil)))) (pa_cons (pe_tup (pa_cons pe_str (pa_cons (pe_tup (pa_cons pe_int (pa_cons pe_int (pa_cons pe_int (pa_cons pe_int pa_nil))))) (pa_cons (pv 3) pa_nil)))) (pa_cons (pe_tup (pa_cons pe_str (pa_cons (pe_tup (pa_cons pe_int (pa_cons pe_int (pa_cons pe_int pa_nil)))) (pa_cons (pv 3) pa_nil)))) pa_nil))))))
    (pss_cons (ps_set (i := 2) sc_law_bad.nd rfl (Or.inl rfl) (pe_op op_cat (pv 2) (pe_lst (pa_cons (pe_tup (pa_cons pe_str (pa_cons (pe_tup (pa_cons pe_int (pa_cons pe_int (pa_cons pe_int (pa_cons (pv 1) pa_nil))))) (pa_cons (pv 3) pa_nil)))) (pa_cons (pe_tup (pa_cons pe_str (pa_cons (pe_tup (pa_cons pe_int (pa_cons pe_int (pa_cons pe_int (pa_cons pe_int (pa_cons pe_int (pa_cons pe_int (pa_cons pe_int pa_nil)))))))) (pa_cons (pv 3) (pa_cons (pv 3) pa_nil))))) pa_nil)))))
    (pss_cons (ps_set (i := 2) sc_law_bad.nd rfl (Or.inl rfl) (pe_op op_cat (pv 2) (pe_lst (pa_cons (pe_tup (pa_cons pe_str (pa_cons (pe_tup (pa_cons pe_int (pa_cons pe_int (pa_cons pe_int (pa_cons pe_int (pa_cons pe_int (pa_cons pe_int (pa_cons pe_int (pa_cons pe_int pa_nil))))))))) (pa_cons (pv 3) (pa_cons (pv 3) pa_nil))))) (pa_cons (pe_tup (pa_cons pe_str (pa_cons (pe_op op_catC (pe_op op_repT (pe_tup (pa_cons pe_int pa_nil)) pe_int) (pe_tup (pa_cons pe_int pa_nil))) (pa_cons (pv 3) (pa_cons (pv 3) pa_nil))))) pa_nil)))))
    (pss_cons (ps_set (i := 2) sc_law_bad.nd rfl (Or.inl rfl) (pe_op op_cat (pv 2) (pe_lst (pa_cons (pe_tup (pa_cons pe_str (pa_cons (pe_op op_catC (pe_tup (pa_cons pe_int (pa_cons pe_int (pa_cons pe_int (pa_cons pe_int pa_nil))))) (pe_op op_repT (pe_tup (pa_cons pe_int pa_nil)) pe_int)) (pa_cons (pv 3) (pa_cons (pv 3) pa_nil))))) (pa_cons (pe_tup (pa_cons pe_str (pa_cons (pv 3) (pa_cons pe_int pa_nil)))) (pa_cons (pe_tup (pa_cons pe_str (pa_cons (pv 3) (pa_cons pe_int pa_nil)))) pa_nil))))))
    (pss_cons (ps_set (i := 4) sc_law_bad.nd rfl (Or.inl rfl) (pe_op op_rep (pe_lst (pa_cons pe_int pa_nil)) (pe_op op_add pe_int (pe_c G_law_taken (hr.mono (by first | decide | omega)) (pa_cons (pv 0) (pa_cons pe_int pa_nil))))))
    (pss_cons (ps_set (i := 5) sc_law_bad.nd rfl (Or.inl rfl) (pe_op op_rep (pe_lst (pa_cons pe_int pa_nil)) (pe_callB call_len_seq (by rfl) T.b_len (by decide +kernel) (pa_cons (pv 4) pa_nil))))
    (pss_cons (ps_asg (pe_op op_sub pe_int (pe_c G_law_taken (hr.mono (by first | decide | omega)) (pa_cons (pv 0) (pa_cons pe_int pa_nil)))) (pg_sub (pv 4) (pe_c G_law_taken (hr.mono (by first | decide | omega)) (pa_cons (pv 0) (pa_cons (pe_callB call_len_seq (by rfl) T.b_len (by decide +kernel) (pa_cons (pv 4) pa_nil)) pa_nil))) set_list))
    (pss_cons (ps_set (i := 2) sc_law_bad.nd rfl (Or.inl rfl) (pe_op op_cat (pv 2) (pe_lst (pa_cons (pe_tup (pa_cons pe_str (pa_cons (pe_tup (pa_cons pe_int pa_nil)) (pa_cons (pe_callTy call_tuple_of (by rfl) T.b_tuple (by decide +kernel) (pa_cons (pv 4) pa_nil)) (pa_cons (pe_callTy call_tuple_of (by rfl) T.b_tuple (by decide +kernel) (pa_cons (pv 5) pa_nil)) pa_nil))))) (pa_cons (pe_tup (pa_cons pe_str (pa_cons (pe_callTy call_tuple_of (by rfl) T.b_tuple (by decide +kernel) (pa_cons (pe_op op_cat (pe_op op_rep (pe_lst (pa_cons pe_int pa_nil)) (pe_callB call_len_seq (by rfl) T.b_len (by decide +kernel) (pa_cons (pv 5) pa_nil))) (pe_lst (pa_cons pe_int (pa_cons pe_int pa_nil)))) pa_nil)) (pa_cons (pe_tup pa_nil) (pa_cons (pe_tup pa_nil) pa_nil))))) pa_nil)))))
    (pss_cons (ps_asg (pe_un un_neg pe_int) (pg_sub (pv 5) (pe_c G_law_taken (hr.mono (by first | decide | omega)) (pa_cons (pv 0) (pa_cons (pe_callB call_len_seq (by rfl) T.b_len (by decide +kernel) (pa_cons (pv 5) pa_nil)) pa_nil))) set_list))
    (pss_cons (ps_expr (pe_bm PySem.F.plainAttrs_list PySem.F.slot_list_append PySem.F.type_list_append mt_append (pv 2) (pa_cons (pe_tup (pa_cons pe_str (pa_cons (pe_tup (pa_cons pe_int pa_nil)) (pa_cons (pe_op op_repA (pe_tup (pa_cons pe_int pa_nil)) (pe_callB call_len_seq (by rfl) T.b_len (by decide +kernel) (pa_cons (pv 5) pa_nil))) (pa_cons (pe_callTy call_tuple_of (by rfl) T.b_tuple (by decide +kernel) (pa_cons (pv 5) pa_nil)) pa_nil))))) pa_nil)))
    (pss_cons (ps_set (i := 6) sc_law_bad.nd rfl (Or.inl rfl) (pe_tup (pa_cons pe_str (pa_cons pe_int (pa_cons pe_int (pa_cons pe_int pa_nil))))))
    (pss_cons (ps_for PassesOwn.never rfl (pi_range1 rfl T.b_range (pa_cons pe_int pa_nil)) (pg_name (i := 7) sc_law_bad.nd rfl (Or.inl rfl))
      (pss_cons (ps_set (i := 8) sc_law_bad.nd rfl (Or.inl rfl) (pe_tup (pa_cons pe_int (pa_cons pe_int (pa_cons pe_int (pa_cons pe_int (pa_cons pe_int (pa_cons pe_int (pa_cons pe_int (pa_cons pe_int pa_nil))))))))))
    (pss_cons (ps_set (i := 9) sc_law_bad.nd rfl (Or.inl rfl) (pe_lst (pa_cons (pe_tup (pa_cons pe_str (pa_cons (pe_tup (pa_cons pe_int (pa_cons pe_int (pa_cons pe_int (pa_cons pe_int pa_nil))))) (pa_cons (pv 6) pa_nil)))) (pa_cons (pe_tup (pa_cons pe_str (pa_cons (pv 8) (pa_cons (pv 3) (pa_cons (pv 6) pa_nil))))) (pa_cons (pe_tup (pa_cons pe_str (pa_cons (pv 8) (pa_cons (pv 6) (pa_cons (pv 3) pa_nil))))) pa_nil)))))
    (pss_one (ps_set (i := 6) sc_law_bad.nd rfl (Or.inl rfl) (pe_ix ix_list (pe_op op_cat (pv 9) (pe_lst (pa_cons (pe_tup (pa_cons pe_str (pa_cons (pv 6) (pa_cons pe_int pa_nil)))) pa_nil))) (pe_c G_law_taken (hr.mono (by first | decide | omega)) (pa_cons (pv 0) (pa_cons pe_int pa_nil))) (fun _ _ => rfl)))))))
    (pss_cons (ps_set (i := 10) sc_law_bad.nd rfl (Or.inl rfl) (pe_tup (pa_cons pe_str (pa_cons (pe_tup (pa_cons pe_int pa_nil)) (pa_cons (pe_callTy call_tuple_of (by rfl) T.b_tuple (by decide +kernel) (pa_cons (pv 4) pa_nil)) (pa_cons (pe_op op_repA (pe_tup (pa_cons pe_int pa_nil)) (pe_callB call_len_seq (by rfl) T.b_len (by decide +kernel) (pa_cons (pv 4) pa_nil))) pa_nil))))))
    (pss_one (ps_ret (pe_ix ix_list (pe_op op_cat (pv 2) (pe_lst (pa_cons (pv 6) (pa_cons (pv 6) (pa_cons (pv 6) (pa_cons (pv 10) (pa_cons (pv 10) (pa_cons (pv 10) pa_nil)))))))) (pe_c G_law_taken (hr.mono (by first | decide | omega)) (pa_cons (pv 0) (pa_cons (pe_op op_add (pe_callB call_len_seq (by rfl) T.b_len (by decide +kernel) (pa_cons (pv 2) pa_nil)) pe_int) pa_nil))) (fun _ _ => rfl)))))))))))))))))))))))), ?_⟩
    have wd : ∀ z : Int, z ≤ 1000 → z < 2 ^ 8000 := fun z hz => Int.lt_of_le_of_lt hz (by decide +kernel)
    refine ⟨fun σ H' => σ = [some (.ref r), some (.int 1000000000001), none, none, none, none, none, none, none, none, none] ∧ H = H', ⟨_, _, rfl, rfl, rfl, rfl⟩, ?_⟩
    rintro σ H' ⟨rfl, rfl⟩
    have AB : Bads K H [] := Bads.nil
    refine ⟨(by show 3 ≤ sizeLine; decide), fun q1 n1 => ?_⟩
    have s1 := same_upd (o := .tup [V.str "fraction", .int 1, .int 0]) n1
    have AB := Bads.snoc (t := .leaf (.frac 1 0)) (AB.same s1) (SqT.of upd_same) (fun f => by have g := f.1; exact g.2.2 rfl)
    have R := R.same s1
    generalize (upd H q1 _) = K1 at *
    refine ⟨_, rfl, (by show 3 ≤ sizeLine; decide), fun q2 n2 => ?_⟩
    have s2 := same_upd (o := .tup [V.str "fraction", .int 1000000000001, .int 3]) n2
    have AB := Bads.snoc (t := .leaf (.frac 1000000000001 3)) (AB.same s2) (SqT.of upd_same) (fun f => by have g := f.1; exact absurd g.1.2 (by decide))
    have R := R.same s2
    generalize (upd K1 q2 _) = K2 at *
    refine ⟨_, rfl, _, _, rfl, rfl, (by show 3 ≤ sizeLine; decide), fun q3 n3 => ?_⟩
    have s3 := same_upd (o := .tup [V.str "fraction", .int 1, .int (0 - 1000000000001)]) n3
    have AB := Bads.snoc (t := .leaf (.frac 1 (0 - 1000000000001))) (AB.same s3) (SqT.of upd_same) (fun f => by have g := f.1; exact absurd g.2.1.1 (by decide))
    have R := R.same s3
    generalize (upd K2 q3 _) = K3 at *
    refine ⟨_, rfl, (by show 4 ≤ sizeLine; decide), fun q4 n4 => ?_⟩
    have s4 := same_upd (o := .tup [V.str "root", .int 1, .int (-1), .int 2]) n4
    have AB := Bads.snoc (t := .leaf (.root 1 (-1) 2)) (AB.same s4) (SqT.of upd_same) (fun f => by have g := f.1; exact absurd g.2.2.1 (by decide))
    have R := R.same s4
    generalize (upd K3 q4 _) = K4 at *
    refine ⟨(by show 4 ≤ sizeLine; decide), fun q5 n5 => ?_⟩
    have s5 := same_upd (o := .tup [V.str "root", .int 1, .int 2, .int 0]) n5
    have AB := Bads.snoc (t := .leaf (.root 1 2 0)) (AB.same s5) (SqT.of upd_same) (fun f => by have g := f.1; exact g.2.2.2.2 rfl)
    have R := R.same s5
    generalize (upd K4 q5 _) = K5 at *
    refine ⟨(by show 5 ≤ sizeLine; decide), fun l6 nl6 => ?_⟩
    have sl6 := same_upd (o := .lst [V.ref q1, .ref q2, .ref q3, .ref q4, .ref q5]) nl6
    have hl6 := upd_at sl6
    have AB : Bads K K5 [V.ref q1, .ref q2, .ref q3, .ref q4, .ref q5] := AB
    have AB := AB.same sl6
    have R := R.same sl6
    generalize upd K5 l6 _ = K6 at *
    have BS := AB
    have hsome := hl6
    obtain ⟨vs, evs⟩ : ∃ vs : List V, vs = [V.ref q1, .ref q2, .ref q3, .ref q4, .ref q5] := ⟨_, rfl⟩
    rw [← evs] at hsome BS
    have lvs : vs.length = 5 := by rw [evs]; rfl
    refine ⟨_, rfl, ?_⟩
    have AB : Bads K K6 [] := Bads.nil
    refine ⟨_, rfl, (by show 4 ≤ sizeLine; decide), fun q6 n6 => ?_⟩
    have s6 := same_upd (o := .tup [V.str "root", .int 0, .int 1000000000001, .int 1]) n6
    have AB := Bads.snoc (t := .leaf (.root 0 1000000000001 1)) (AB.same s6) (SqT.of upd_same) (fun f => by have g := f.1; exact absurd g.2.1.2 (by decide))
    have R := R.same s6
    have hsome := s6 _ _ hsome
    have BS := BS.same s6
    generalize (upd K6 q6 _) = K7 at *
    refine ⟨_, rfl, (by show 4 ≤ sizeLine; decide), fun q7 n7 => ?_⟩
    have s7 := same_upd (o := .tup [V.str "root", .int 1000000000001, .int 2, .int 1]) n7
    have AB := Bads.snoc (t := .leaf (.root 1000000000001 2 1)) (AB.same s7) (SqT.of upd_same) (fun f => by have g := f.1; exact absurd g.1.2 (by decide))
    have R := R.same s7
    have hsome := s7 _ _ hsome
    have BS := BS.same s7
    generalize (upd K7 q7 _) = K8 at *
    refine ⟨(by show 0 ≤ sizeLine; decide), fun q8 n8 => ?_⟩
    have s8 := same_upd (o := .tup []) n8
    refine ⟨(by show 1 ≤ sizeLine; decide), fun q9 n9 => ?_⟩
    have s9 := same_upd (o := .tup [V.int 1]) n9
    refine ⟨(by show 1 ≤ sizeLine; decide), fun q10 n10 => ?_⟩
    have s10 := same_upd (o := .tup [V.int 0]) n10
    refine ⟨(by show 4 ≤ sizeLine; decide), fun q11 n11 => ?_⟩
    have s11 := same_upd (o := .tup [V.str "ruled", .ref q8, .ref q9, .ref q10]) n11
    have AB := Bads.snoc (t := .leaf (.ruled [] [1] [0])) (AB.same (((s8.trans s9).trans s10).trans s11)) ⟨q8, q9, q10, SqT.of upd_same, (sqT_same (SqT.of upd_same) ((s9.trans s10).trans s11)), (sqT_same (SqT.of upd_same) (s10.trans s11)), (sqT_same (SqT.of upd_same) s11)⟩ (fun f => by have g := f.1; exact g.p1 rfl)
    have R := R.same (((s8.trans s9).trans s10).trans s11)
    have hsome := (((s8.trans s9).trans s10).trans s11) _ _ hsome
    have BS := BS.same (((s8.trans s9).trans s10).trans s11)
    generalize (upd (upd (upd (upd K8 q8 _) q9 _) q10 _) q11 _) = K9 at *
    refine ⟨(by show 2 ≤ sizeLine; decide), fun q12 n12 => ?_⟩
    have s12 := same_upd (o := .tup [V.int 1, .int 0]) n12
    refine ⟨(by show 0 ≤ sizeLine; decide), fun q13 n13 => ?_⟩
    have s13 := same_upd (o := .tup []) n13
    refine ⟨(by show 0 ≤ sizeLine; decide), fun q14 n14 => ?_⟩
    have s14 := same_upd (o := .tup []) n14
    refine ⟨(by show 4 ≤ sizeLine; decide), fun q15 n15 => ?_⟩
    have s15 := same_upd (o := .tup [V.str "ruled", .ref q12, .ref q13, .ref q14]) n15
    have AB := Bads.snoc (t := .leaf (.ruled [1, 0] [] [])) (AB.same (((s12.trans s13).trans s14).trans s15)) ⟨q12, q13, q14, SqT.of upd_same, (sqT_same (SqT.of upd_same) ((s13.trans s14).trans s15)), (sqT_same (SqT.of upd_same) (s14.trans s15)), (sqT_same (SqT.of upd_same) s15)⟩ (fun f => by have g := f.1; exact absurd (g.one 0 (by simp)) (by decide))
    have R := R.same (((s12.trans s13).trans s14).trans s15)
    have hsome := (((s12.trans s13).trans s14).trans s15) _ _ hsome
    have BS := BS.same (((s12.trans s13).trans s14).trans s15)
    generalize (upd (upd (upd (upd K9 q12 _) q13 _) q14 _) q15 _) = K10 at *
    refine ⟨(by show 4 ≤ sizeLine; decide), fun l11 nl11 => ?_⟩
    have sl11 := same_upd (o := .lst [V.ref q6, .ref q7, .ref q11, .ref q15]) nl11
    have hl11 := upd_at sl11
    have AB : Bads K K10 [V.ref q6, .ref q7, .ref q11, .ref q15] := AB
    have AB := AB.same sl11
    have R := R.same sl11
    have hsome := sl11 _ _ hsome
    have BS := BS.same sl11
    generalize upd K10 l11 _ = K11 at *
    refine ⟨l6, l11, _, _, rfl, rfl, hsome, hl11, (by rw [lvs]; show 5 + 4 ≤ sizeLine; decide), fun l12 nl12 => ?_⟩
    have sl12 := same_upd (o := .lst (vs ++ [V.ref q6, .ref q7, .ref q11, .ref q15])) nl12
    have BS := (BS.app AB).same sl12
    have hsome := upd_at sl12
    have R := R.same sl12
    generalize upd K11 l12 _ = K12 at *
    have lvs : (vs ++ [V.ref q6, .ref q7, .ref q11, .ref q15]).length = 9 := by rw [List.length_append, lvs]; rfl
    generalize vs ++ [V.ref q6, .ref q7, .ref q11, .ref q15] = vs12 at *
    clear AB
    obtain ⟨vs, evs⟩ : ∃ vs : List V, vs = vs12 := ⟨_, rfl⟩
    rw [← evs] at hsome BS lvs
    refine ⟨_, rfl, ?_⟩
    have AB : Bads K K12 [] := Bads.nil
    refine ⟨(by show 2 ≤ sizeLine; decide), fun q16 n16 => ?_⟩
    have s16 := same_upd (o := .tup [V.int 1, .int 1]) n16
    refine ⟨(by show 0 ≤ sizeLine; decide), fun q17 n17 => ?_⟩
    have s17 := same_upd (o := .tup []) n17
    refine ⟨(by show 0 ≤ sizeLine; decide), fun q18 n18 => ?_⟩
    have s18 := same_upd (o := .tup []) n18
    refine ⟨(by show 4 ≤ sizeLine; decide), fun q19 n19 => ?_⟩
    have s19 := same_upd (o := .tup [V.str "ruled", .ref q16, .ref q17, .ref q18]) n19
    have AB := Bads.snoc (t := .leaf (.ruled [1, 1] [] [])) (AB.same (((s16.trans s17).trans s18).trans s19)) ⟨q16, q17, q18, SqT.of upd_same, (sqT_same (SqT.of upd_same) ((s17.trans s18).trans s19)), (sqT_same (SqT.of upd_same) (s18.trans s19)), (sqT_same (SqT.of upd_same) s19)⟩ (fun f => notLast f.1)
    have R := R.same (((s16.trans s17).trans s18).trans s19)
    have hsome := (((s16.trans s17).trans s18).trans s19) _ _ hsome
    have BS := BS.same (((s16.trans s17).trans s18).trans s19)
    generalize (upd (upd (upd (upd K12 q16 _) q17 _) q18 _) q19 _) = K13 at *
    refine ⟨(by show 1 ≤ sizeLine; decide), fun q20 n20 => ?_⟩
    have s20 := same_upd (o := .tup [V.int 1]) n20
    refine ⟨(by show 1 ≤ sizeLine; decide), fun q21 n21 => ?_⟩
    have s21 := same_upd (o := .tup [V.int 0]) n21
    refine ⟨(by show 1 ≤ sizeLine; decide), fun q22 n22 => ?_⟩
    have s22 := same_upd (o := .tup [V.int 0]) n22
    refine ⟨(by show 4 ≤ sizeLine; decide), fun q23 n23 => ?_⟩
    have s23 := same_upd (o := .tup [V.str "ruled", .ref q20, .ref q21, .ref q22]) n23
    have AB := Bads.snoc (t := .leaf (.ruled [1] [0] [0])) (AB.same (((s20.trans s21).trans s22).trans s23)) ⟨q20, q21, q22, SqT.of upd_same, (sqT_same (SqT.of upd_same) ((s21.trans s22).trans s23)), (sqT_same (SqT.of upd_same) (s22.trans s23)), (sqT_same (SqT.of upd_same) s23)⟩ (fun f => by have g := f.1; exact absurd (g.one 0 (by simp)) (by decide))
    have R := R.same (((s20.trans s21).trans s22).trans s23)
    have hsome := (((s20.trans s21).trans s22).trans s23) _ _ hsome
    have BS := BS.same (((s20.trans s21).trans s22).trans s23)
    generalize (upd (upd (upd (upd K13 q20 _) q21 _) q22 _) q23 _) = K14 at *
    refine ⟨(by show 1 ≤ sizeLine; decide), fun q24 n24 => ?_⟩
    have s24 := same_upd (o := .tup [V.int 1]) n24
    refine ⟨(by show 1 ≤ sizeLine; decide), fun q25 n25 => ?_⟩
    have s25 := same_upd (o := .tup [V.int 1]) n25
    refine ⟨_, rfl, (by show 1 ≤ sizeLine; decide), fun q26 n26 => ?_⟩
    have s26 := same_upd (o := .tup [V.int (-1)]) n26
    refine ⟨(by show 4 ≤ sizeLine; decide), fun q27 n27 => ?_⟩
    have s27 := same_upd (o := .tup [V.str "ruled", .ref q24, .ref q25, .ref q26]) n27
    have AB := Bads.snoc (t := .leaf (.ruled [1] [1] [(-1)])) (AB.same (((s24.trans s25).trans s26).trans s27)) ⟨q24, q25, q26, SqT.of upd_same, (sqT_same (SqT.of upd_same) ((s25.trans s26).trans s27)), (sqT_same (SqT.of upd_same) (s26.trans s27)), (sqT_same (SqT.of upd_same) s27)⟩ (fun f => by have g := f.1; exact absurd (g.nn (-1) (by simp)) (by decide))
    have R := R.same (((s24.trans s25).trans s26).trans s27)
    have hsome := (((s24.trans s25).trans s26).trans s27) _ _ hsome
    have BS := BS.same (((s24.trans s25).trans s26).trans s27)
    generalize (upd (upd (upd (upd K14 q24 _) q25 _) q26 _) q27 _) = K15 at *
    refine ⟨(by show 3 ≤ sizeLine; decide), fun l16 nl16 => ?_⟩
    have sl16 := same_upd (o := .lst [V.ref q19, .ref q23, .ref q27]) nl16
    have hl16 := upd_at sl16
    have AB : Bads K K15 [V.ref q19, .ref q23, .ref q27] := AB
    have AB := AB.same sl16
    have R := R.same sl16
    have hsome := sl16 _ _ hsome
    have BS := BS.same sl16
    generalize upd K15 l16 _ = K16 at *
    refine ⟨l12, l16, _, _, rfl, rfl, hsome, hl16, (by rw [lvs]; show 9 + 3 ≤ sizeLine; decide), fun l17 nl17 => ?_⟩
    have sl17 := same_upd (o := .lst (vs ++ [V.ref q19, .ref q23, .ref q27])) nl17
    have BS := (BS.app AB).same sl17
    have hsome := upd_at sl17
    have R := R.same sl17
    generalize upd K16 l17 _ = K17 at *
    have lvs : (vs ++ [V.ref q19, .ref q23, .ref q27]).length = 12 := by rw [List.length_append, lvs]; rfl
    generalize vs ++ [V.ref q19, .ref q23, .ref q27] = vs17 at *
    clear AB
    obtain ⟨vs, evs⟩ : ∃ vs : List V, vs = vs17 := ⟨_, rfl⟩
    rw [← evs] at hsome BS lvs
    refine ⟨_, rfl, ?_⟩
    have AB : Bads K K17 [] := Bads.nil
    refine ⟨(by show 1 ≤ sizeLine; decide), fun q28 n28 => ?_⟩
    have s28 := same_upd (o := .tup [V.int 1]) n28
    refine ⟨(by show 1 ≤ sizeLine; decide), fun q29 n29 => ?_⟩
    have s29 := same_upd (o := .tup [V.int 1]) n29
    refine ⟨(by show 0 ≤ sizeLine; decide), fun q30 n30 => ?_⟩
    have s30 := same_upd (o := .tup []) n30
    refine ⟨(by show 4 ≤ sizeLine; decide), fun q31 n31 => ?_⟩
    have s31 := same_upd (o := .tup [V.str "ruled", .ref q28, .ref q29, .ref q30]) n31
    have AB := Bads.snoc (t := .leaf (.ruled [1] [1] [])) (AB.same (((s28.trans s29).trans s30).trans s31)) ⟨q28, q29, q30, SqT.of upd_same, (sqT_same (SqT.of upd_same) ((s29.trans s30).trans s31)), (sqT_same (SqT.of upd_same) (s30.trans s31)), (sqT_same (SqT.of upd_same) s31)⟩ (fun f => by have g := f.1; exact absurd g.same (by decide))
    have R := R.same (((s28.trans s29).trans s30).trans s31)
    have hsome := (((s28.trans s29).trans s30).trans s31) _ _ hsome
    have BS := BS.same (((s28.trans s29).trans s30).trans s31)
    generalize (upd (upd (upd (upd K17 q28 _) q29 _) q30 _) q31 _) = K18 at *
    refine ⟨(by show 1 ≤ sizeLine; decide), fun q32 n32 => ?_⟩
    have s32 := same_upd (o := .tup [V.int 1]) n32
    refine ⟨(by show 0 ≤ sizeLine; decide), fun q33 n33 => ?_⟩
    have s33 := same_upd (o := .tup []) n33
    refine ⟨(by show 1 ≤ sizeLine; decide), fun q34 n34 => ?_⟩
    have s34 := same_upd (o := .tup [V.int 0]) n34
    refine ⟨(by show 4 ≤ sizeLine; decide), fun q35 n35 => ?_⟩
    have s35 := same_upd (o := .tup [V.str "ruled", .ref q32, .ref q33, .ref q34]) n35
    have AB := Bads.snoc (t := .leaf (.ruled [1] [] [0])) (AB.same (((s32.trans s33).trans s34).trans s35)) ⟨q32, q33, q34, SqT.of upd_same, (sqT_same (SqT.of upd_same) ((s33.trans s34).trans s35)), (sqT_same (SqT.of upd_same) (s34.trans s35)), (sqT_same (SqT.of upd_same) s35)⟩ (fun f => by have g := f.1; exact absurd g.same (by decide))
    have R := R.same (((s32.trans s33).trans s34).trans s35)
    have hsome := (((s32.trans s33).trans s34).trans s35) _ _ hsome
    have BS := BS.same (((s32.trans s33).trans s34).trans s35)
    generalize (upd (upd (upd (upd K18 q32 _) q33 _) q34 _) q35 _) = K19 at *
    refine ⟨(by show 1 ≤ sizeLine; decide), fun q36 n36 => ?_⟩
    have s36 := same_upd (o := .tup [V.int 2]) n36
    refine ⟨q36, _, _, rfl, rfl, SqT.of upd_same, (fun z => nomatch z), by decide, by decide, (by show 1 ≤ 1000; decide), fun q37 n37 => ?_⟩
    have s37 := same_upd (o := .tup (List.replicate (13 : Int).toNat [V.int 2]).flatten) n37
    have hq37 : SqT K _ q37 (([2, 2, 2, 2, 2, 2, 2, 2, 2, 2, 2, 2, 2] : List Int).map V.int) := SqT.of (upd_at s37)
    refine ⟨(by show 0 ≤ sizeLine; decide), fun q38 n38 => ?_⟩
    have s38 := same_upd (o := .tup []) n38
    refine ⟨(by show 0 ≤ sizeLine; decide), fun q39 n39 => ?_⟩
    have s39 := same_upd (o := .tup []) n39
    refine ⟨(by show 4 ≤ sizeLine; decide), fun q40 n40 => ?_⟩
    have s40 := same_upd (o := .tup [V.str "ruled", .ref q37, .ref q38, .ref q39]) n40
    have AB := Bads.snoc (t := .leaf (.ruled [2, 2, 2, 2, 2, 2, 2, 2, 2, 2, 2, 2, 2] [] [])) (AB.same ((((s36.trans s37).trans s38).trans s39).trans s40)) ⟨q37, q38, q39, SqT.of upd_same, (sqT_same hq37 ((s38.trans s39).trans s40)), (sqT_same (SqT.of upd_same) (s39.trans s40)), (sqT_same (SqT.of upd_same) s40)⟩ (fun f => by have g := f.1; exact absurd g.p12 (by decide))
    have R := R.same ((((s36.trans s37).trans s38).trans s39).trans s40)
    have hsome := ((((s36.trans s37).trans s38).trans s39).trans s40) _ _ hsome
    have BS := BS.same ((((s36.trans s37).trans s38).trans s39).trans s40)
    generalize (upd (upd (upd (upd (upd K19 q36 _) q37 _) q38 _) q39 _) q40 _) = K20 at *
    refine ⟨(by show 3 ≤ sizeLine; decide), fun l21 nl21 => ?_⟩
    have sl21 := same_upd (o := .lst [V.ref q31, .ref q35, .ref q40]) nl21
    have hl21 := upd_at sl21
    have AB : Bads K K20 [V.ref q31, .ref q35, .ref q40] := AB
    have AB := AB.same sl21
    have R := R.same sl21
    have hsome := sl21 _ _ hsome
    have BS := BS.same sl21
    generalize upd K20 l21 _ = K21 at *
    refine ⟨l17, l21, _, _, rfl, rfl, hsome, hl21, (by rw [lvs]; show 12 + 3 ≤ sizeLine; decide), fun l22 nl22 => ?_⟩
    have sl22 := same_upd (o := .lst (vs ++ [V.ref q31, .ref q35, .ref q40])) nl22
    have BS := (BS.app AB).same sl22
    have hsome := upd_at sl22
    have R := R.same sl22
    generalize upd K21 l22 _ = K22 at *
    have lvs : (vs ++ [V.ref q31, .ref q35, .ref q40]).length = 15 := by rw [List.length_append, lvs]; rfl
    generalize vs ++ [V.ref q31, .ref q35, .ref q40] = vs22 at *
    clear AB
    obtain ⟨vs, evs⟩ : ∃ vs : List V, vs = vs22 := ⟨_, rfl⟩
    rw [← evs] at hsome BS lvs
    refine ⟨_, rfl, ?_⟩
    have AB : Bads K K22 [] := Bads.nil
    refine ⟨_, rfl, (by show 1 ≤ sizeLine; decide), fun q41 n41 => ?_⟩
    have s41 := same_upd (o := .tup [V.int 1000000000001]) n41
    refine ⟨(by show 0 ≤ sizeLine; decide), fun q42 n42 => ?_⟩
    have s42 := same_upd (o := .tup []) n42
    refine ⟨(by show 0 ≤ sizeLine; decide), fun q43 n43 => ?_⟩
    have s43 := same_upd (o := .tup []) n43
    refine ⟨(by show 4 ≤ sizeLine; decide), fun q44 n44 => ?_⟩
    have s44 := same_upd (o := .tup [V.str "ruled", .ref q41, .ref q42, .ref q43]) n44
    have AB := Bads.snoc (t := .leaf (.ruled [1000000000001] [] [])) (AB.same (((s41.trans s42).trans s43).trans s44)) ⟨q41, q42, q43, SqT.of upd_same, (sqT_same (SqT.of upd_same) ((s42.trans s43).trans s44)), (sqT_same (SqT.of upd_same) (s43.trans s44)), (sqT_same (SqT.of upd_same) s44)⟩ (fun f => by have g := f.1; exact absurd (g.tp 1000000000001 (by simp)).2 (by decide))
    have R := R.same (((s41.trans s42).trans s43).trans s44)
    have hsome := (((s41.trans s42).trans s43).trans s44) _ _ hsome
    have BS := BS.same (((s41.trans s42).trans s43).trans s44)
    generalize (upd (upd (upd (upd K22 q41 _) q42 _) q43 _) q44 _) = K23 at *
    refine ⟨_, rfl, (by show 2 ≤ sizeLine; decide), fun q45 n45 => ?_⟩
    have s45 := same_upd (o := .tup [V.int 2, .int (-2)]) n45
    refine ⟨(by show 1 ≤ sizeLine; decide), fun q46 n46 => ?_⟩
    have s46 := same_upd (o := .tup [V.int 3]) n46
    refine ⟨(by show 1 ≤ sizeLine; decide), fun q47 n47 => ?_⟩
    have s47 := same_upd (o := .tup [V.int 1]) n47
    refine ⟨(by show 4 ≤ sizeLine; decide), fun q48 n48 => ?_⟩
    have s48 := same_upd (o := .tup [V.str "ruled", .ref q45, .ref q46, .ref q47]) n48
    have AB := Bads.snoc (t := .leaf (.ruled [2, (-2)] [3] [1])) (AB.same (((s45.trans s46).trans s47).trans s48)) ⟨q45, q46, q47, SqT.of upd_same, (sqT_same (SqT.of upd_same) ((s46.trans s47).trans s48)), (sqT_same (SqT.of upd_same) (s47.trans s48)), (sqT_same (SqT.of upd_same) s48)⟩ (fun f => by have g := f.1; exact absurd (g.one (-2) (by simp)) (by decide))
    have R := R.same (((s45.trans s46).trans s47).trans s48)
    have hsome := (((s45.trans s46).trans s47).trans s48) _ _ hsome
    have BS := BS.same (((s45.trans s46).trans s47).trans s48)
    generalize (upd (upd (upd (upd K23 q45 _) q46 _) q47 _) q48 _) = K24 at *
    refine ⟨(by show 1 ≤ sizeLine; decide), fun q49 n49 => ?_⟩
    have s49 := same_upd (o := .tup [V.int 1]) n49
    refine ⟨(by show 1 ≤ sizeLine; decide), fun q50 n50 => ?_⟩
    have s50 := same_upd (o := .tup [V.int 1]) n50
    refine ⟨q50, _, _, rfl, rfl, SqT.of upd_same, (fun z => nomatch z), by decide, by decide, (by show 1 ≤ 1000; decide), fun q51 n51 => ?_⟩
    have s51 := same_upd (o := .tup (List.replicate (13 : Int).toNat [V.int 1]).flatten) n51
    have hq51 : SqT K _ q51 (([1, 1, 1, 1, 1, 1, 1, 1, 1, 1, 1, 1, 1] : List Int).map V.int) := SqT.of (upd_at s51)
    refine ⟨(by show 1 ≤ sizeLine; decide), fun q52 n52 => ?_⟩
    have s52 := same_upd (o := .tup [V.int 0]) n52
    refine ⟨q52, _, _, rfl, rfl, SqT.of upd_same, (fun z => nomatch z), by decide, by decide, (by show 1 ≤ 1000; decide), fun q53 n53 => ?_⟩
    have s53 := same_upd (o := .tup (List.replicate (13 : Int).toNat [V.int 0]).flatten) n53
    have hq53 : SqT K _ q53 (([0, 0, 0, 0, 0, 0, 0, 0, 0, 0, 0, 0, 0] : List Int).map V.int) := SqT.of (upd_at s53)
    refine ⟨(by show 4 ≤ sizeLine; decide), fun q54 n54 => ?_⟩
    have s54 := same_upd (o := .tup [V.str "ruled", .ref q49, .ref q51, .ref q53]) n54
    have AB := Bads.snoc (t := .leaf (.ruled [1] [1, 1, 1, 1, 1, 1, 1, 1, 1, 1, 1, 1, 1] [0, 0, 0, 0, 0, 0, 0, 0, 0, 0, 0, 0, 0])) (AB.same (((((s49.trans s50).trans s51).trans s52).trans s53).trans s54)) ⟨q49, q51, q53, SqT.of upd_same, (sqT_same (SqT.of upd_same) ((((s50.trans s51).trans s52).trans s53).trans s54)), (sqT_same hq51 ((s52.trans s53).trans s54)), (sqT_same hq53 s54)⟩ (fun f => by have g := f.1; exact absurd g.r12 (by decide))
    have R := R.same (((((s49.trans s50).trans s51).trans s52).trans s53).trans s54)
    have hsome := (((((s49.trans s50).trans s51).trans s52).trans s53).trans s54) _ _ hsome
    have BS := BS.same (((((s49.trans s50).trans s51).trans s52).trans s53).trans s54)
    generalize (upd (upd (upd (upd (upd (upd K24 q49 _) q50 _) q51 _) q52 _) q53 _) q54 _) = K25 at *
    refine ⟨(by show 3 ≤ sizeLine; decide), fun l26 nl26 => ?_⟩
    have sl26 := same_upd (o := .lst [V.ref q44, .ref q48, .ref q54]) nl26
    have hl26 := upd_at sl26
    have AB : Bads K K25 [V.ref q44, .ref q48, .ref q54] := AB
    have AB := AB.same sl26
    have R := R.same sl26
    have hsome := sl26 _ _ hsome
    have BS := BS.same sl26
    generalize upd K25 l26 _ = K26 at *
    refine ⟨l22, l26, _, _, rfl, rfl, hsome, hl26, (by rw [lvs]; show 15 + 3 ≤ sizeLine; decide), fun l27 nl27 => ?_⟩
    have sl27 := same_upd (o := .lst (vs ++ [V.ref q44, .ref q48, .ref q54])) nl27
    have BS := (BS.app AB).same sl27
    have hsome := upd_at sl27
    have R := R.same sl27
    generalize upd K26 l27 _ = K27 at *
    have lvs : (vs ++ [V.ref q44, .ref q48, .ref q54]).length = 18 := by rw [List.length_append, lvs]; rfl
    generalize vs ++ [V.ref q44, .ref q48, .ref q54] = vs27 at *
    clear AB
    obtain ⟨vs, evs⟩ : ∃ vs : List V, vs = vs27 := ⟨_, rfl⟩
    rw [← evs] at hsome BS lvs
    refine ⟨(by show 3 ≤ sizeLine; decide), fun one none_ => ?_⟩
    have s0one := same_upd (o := .tup [V.str "fraction", .int 1, .int 2]) none_
    have hone : Tree.At K _ (.leaf (.frac 1 2)) one := SqT.of (upd_at s0one)
    have R := R.same s0one
    have hsome := s0one _ _ hsome
    have BS := BS.same s0one
    generalize upd K27 one _ = K28 at *
    refine ⟨_, rfl, ?_⟩
    have AB : Bads K K28 [] := Bads.nil
    refine ⟨(by show 4 ≤ sizeLine; decide), fun q55 n55 => ?_⟩
    have s55 := same_upd (o := .tup [V.int 1, .int 2, .int 2, .int 4]) n55
    refine ⟨_, rfl, (by show 3 ≤ sizeLine; decide), fun q56 n56 => ?_⟩
    have s56 := same_upd (o := .tup [V.str "four", .ref q55, .ref one]) n56
    have AB := Bads.snoc (t := .four [1, 2, 2, 4] (.leaf (.frac 1 2))) (AB.same (s55.trans s56)) ⟨q55, one, SqT.of upd_same, (sqT_same (SqT.of upd_same) s56), (hone.same (s55.trans s56))⟩ (fun f => by have g := f.1; exact notCrossed (by decide) g.2.2.1)
    have R := R.same (s55.trans s56)
    have hsome := (s55.trans s56) _ _ hsome
    have BS := BS.same (s55.trans s56)
    have hone := hone.same (s55.trans s56)
    generalize (upd (upd K28 q55 _) q56 _) = K29 at *
    refine ⟨(by show 4 ≤ sizeLine; decide), fun q57 n57 => ?_⟩
    have s57 := same_upd (o := .tup [V.int 0, .int 0, .int 1, .int 1]) n57
    refine ⟨_, rfl, (by show 3 ≤ sizeLine; decide), fun q58 n58 => ?_⟩
    have s58 := same_upd (o := .tup [V.str "four", .ref q57, .ref one]) n58
    have AB := Bads.snoc (t := .four [0, 0, 1, 1] (.leaf (.frac 1 2))) (AB.same (s57.trans s58)) ⟨q57, one, SqT.of upd_same, (sqT_same (SqT.of upd_same) s58), (hone.same (s57.trans s58))⟩ (fun f => by have g := f.1; exact notCrossed (by decide) g.2.2.1)
    have R := R.same (s57.trans s58)
    have hsome := (s57.trans s58) _ _ hsome
    have BS := BS.same (s57.trans s58)
    have hone := hone.same (s57.trans s58)
    generalize (upd (upd K29 q57 _) q58 _) = K30 at *
    refine ⟨(by show 3 ≤ sizeLine; decide), fun q59 n59 => ?_⟩
    have s59 := same_upd (o := .tup [V.int 1, .int 2, .int 3]) n59
    refine ⟨_, rfl, (by show 3 ≤ sizeLine; decide), fun q60 n60 => ?_⟩
    have s60 := same_upd (o := .tup [V.str "four", .ref q59, .ref one]) n60
    have AB := Bads.snoc (t := .four [1, 2, 3] (.leaf (.frac 1 2))) (AB.same (s59.trans s60)) ⟨q59, one, SqT.of upd_same, (sqT_same (SqT.of upd_same) s60), (hone.same (s59.trans s60))⟩ (fun f => by have g := f.1; exact absurd g.1 (by decide))
    have R := R.same (s59.trans s60)
    have hsome := (s59.trans s60) _ _ hsome
    have BS := BS.same (s59.trans s60)
    have hone := hone.same (s59.trans s60)
    generalize (upd (upd K30 q59 _) q60 _) = K31 at *
    refine ⟨(by show 3 ≤ sizeLine; decide), fun l32 nl32 => ?_⟩
    have sl32 := same_upd (o := .lst [V.ref q56, .ref q58, .ref q60]) nl32
    have hl32 := upd_at sl32
    have AB : Bads K K31 [V.ref q56, .ref q58, .ref q60] := AB
    have AB := AB.same sl32
    have R := R.same sl32
    have hsome := sl32 _ _ hsome
    have BS := BS.same sl32
    have hone := hone.same sl32
    generalize upd K31 l32 _ = K32 at *
    refine ⟨l27, l32, _, _, rfl, rfl, hsome, hl32, (by rw [lvs]; show 18 + 3 ≤ sizeLine; decide), fun l33 nl33 => ?_⟩
    have sl33 := same_upd (o := .lst (vs ++ [V.ref q56, .ref q58, .ref q60])) nl33
    have BS := (BS.app AB).same sl33
    have hsome := upd_at sl33
    have R := R.same sl33
    have hone := hone.same sl33
    generalize upd K32 l33 _ = K33 at *
    have lvs : (vs ++ [V.ref q56, .ref q58, .ref q60]).length = 21 := by rw [List.length_append, lvs]; rfl
    generalize vs ++ [V.ref q56, .ref q58, .ref q60] = vs33 at *
    clear AB
    obtain ⟨vs, evs⟩ : ∃ vs : List V, vs = vs33 := ⟨_, rfl⟩
    rw [← evs] at hsome BS lvs
    refine ⟨_, rfl, ?_⟩
    have AB : Bads K K33 [] := Bads.nil
    refine ⟨_, rfl, (by show 4 ≤ sizeLine; decide), fun q61 n61 => ?_⟩
    have s61 := same_upd (o := .tup [V.int 1, .int 0, .int 0, .int 1000000000001]) n61
    refine ⟨_, rfl, (by show 3 ≤ sizeLine; decide), fun q62 n62 => ?_⟩
    have s62 := same_upd (o := .tup [V.str "four", .ref q61, .ref one]) n62
    have AB := Bads.snoc (t := .four [1, 0, 0, 1000000000001] (.leaf (.frac 1 2))) (AB.same (s61.trans s62)) ⟨q61, one, SqT.of upd_same, (sqT_same (SqT.of upd_same) s62), (hone.same (s61.trans s62))⟩ (fun f => by have g := f.1; exact absurd (g.2.1 1000000000001 (by simp)).2 (by decide))
    have R := R.same (s61.trans s62)
    have hsome := (s61.trans s62) _ _ hsome
    have BS := BS.same (s61.trans s62)
    have hone := hone.same (s61.trans s62)
    generalize (upd (upd K33 q61 _) q62 _) = K34 at *
    refine ⟨(by show 7 ≤ sizeLine; decide), fun q63 n63 => ?_⟩
    have s63 := same_upd (o := .tup [V.int 1, .int 0, .int 0, .int 0, .int 0, .int 0, .int 0]) n63
    refine ⟨_, rfl, _, rfl, (by show 4 ≤ sizeLine; decide), fun q64 n64 => ?_⟩
    have s64 := same_upd (o := .tup [V.str "eight", .ref q63, .ref one, .ref one]) n64
    have AB := Bads.snoc (t := .eight [1, 0, 0, 0, 0, 0, 0] (.leaf (.frac 1 2)) (.leaf (.frac 1 2))) (AB.same (s63.trans s64)) ⟨q63, one, one, SqT.of upd_same, (sqT_same (SqT.of upd_same) s64), (hone.same (s63.trans s64)), (hone.same (s63.trans s64))⟩ (fun f => by have g := f.1; exact absurd g.1 (by decide))
    have R := R.same (s63.trans s64)
    have hsome := (s63.trans s64) _ _ hsome
    have BS := BS.same (s63.trans s64)
    have hone := hone.same (s63.trans s64)
    generalize (upd (upd K34 q63 _) q64 _) = K35 at *
    refine ⟨(by show 2 ≤ sizeLine; decide), fun l36 nl36 => ?_⟩
    have sl36 := same_upd (o := .lst [V.ref q62, .ref q64]) nl36
    have hl36 := upd_at sl36
    have AB : Bads K K35 [V.ref q62, .ref q64] := AB
    have AB := AB.same sl36
    have R := R.same sl36
    have hsome := sl36 _ _ hsome
    have BS := BS.same sl36
    have hone := hone.same sl36
    generalize upd K35 l36 _ = K36 at *
    refine ⟨l33, l36, _, _, rfl, rfl, hsome, hl36, (by rw [lvs]; show 21 + 2 ≤ sizeLine; decide), fun l37 nl37 => ?_⟩
    have sl37 := same_upd (o := .lst (vs ++ [V.ref q62, .ref q64])) nl37
    have BS := (BS.app AB).same sl37
    have hsome := upd_at sl37
    have R := R.same sl37
    have hone := hone.same sl37
    generalize upd K36 l37 _ = K37 at *
    have lvs : (vs ++ [V.ref q62, .ref q64]).length = 23 := by rw [List.length_append, lvs]; rfl
    generalize vs ++ [V.ref q62, .ref q64] = vs37 at *
    clear AB
    obtain ⟨vs, evs⟩ : ∃ vs : List V, vs = vs37 := ⟨_, rfl⟩
    rw [← evs] at hsome BS lvs
    refine ⟨_, rfl, ?_⟩
    have AB : Bads K K37 [] := Bads.nil
    refine ⟨(by show 8 ≤ sizeLine; decide), fun q65 n65 => ?_⟩
    have s65 := same_upd (o := .tup [V.int 1, .int 2, .int 3, .int 4, .int 2, .int 4, .int 6, .int 8]) n65
    refine ⟨_, rfl, _, rfl, (by show 4 ≤ sizeLine; decide), fun q66 n66 => ?_⟩
    have s66 := same_upd (o := .tup [V.str "eight", .ref q65, .ref one, .ref one]) n66
    have AB := Bads.snoc (t := .eight [1, 2, 3, 4, 2, 4, 6, 8] (.leaf (.frac 1 2)) (.leaf (.frac 1 2))) (AB.same (s65.trans s66)) ⟨q65, one, one, SqT.of upd_same, (sqT_same (SqT.of upd_same) s66), (hone.same (s65.trans s66)), (hone.same (s65.trans s66))⟩ (fun f => by have g := f.1; exact notCrossed (by decide) g.2.2.1)
    have R := R.same (s65.trans s66)
    have hsome := (s65.trans s66) _ _ hsome
    have BS := BS.same (s65.trans s66)
    have hone := hone.same (s65.trans s66)
    generalize (upd (upd K37 q65 _) q66 _) = K38 at *
    refine ⟨(by show 1 ≤ sizeLine; decide), fun q67 n67 => ?_⟩
    have s67 := same_upd (o := .tup [V.int 0]) n67
    refine ⟨q67, _, _, rfl, rfl, SqT.of upd_same, (fun z => nomatch z), by decide, by decide, (by show 1 ≤ 1000; decide), fun q68 n68 => ?_⟩
    have s68 := same_upd (o := .tup (List.replicate (7 : Int).toNat [V.int 0]).flatten) n68
    have hq68 : SqT K _ q68 (([0, 0, 0, 0, 0, 0, 0] : List Int).map V.int) := SqT.of (upd_at s68)
    refine ⟨(by show 1 ≤ sizeLine; decide), fun q69 n69 => ?_⟩
    have s69 := same_upd (o := .tup [V.int 1]) n69
    refine ⟨q68, q69, ([0, 0, 0, 0, 0, 0, 0] : List Int).map V.int, ([1] : List Int).map V.int, rfl, rfl, (sqT_same hq68 s69), (SqT.of upd_same), (by show 8 ≤ sizeLine; decide), fun q70 G70 s70 hq70 => ?_⟩
    refine ⟨_, rfl, _, rfl, (by show 4 ≤ sizeLine; decide), fun q71 n71 => ?_⟩
    have s71 := same_upd (o := .tup [V.str "eight", .ref q70, .ref one, .ref one]) n71
    have AB := Bads.snoc (t := .eight [0, 0, 0, 0, 0, 0, 0, 1] (.leaf (.frac 1 2)) (.leaf (.frac 1 2))) (AB.same ((((s67.trans s68).trans s69).trans s70).trans s71)) ⟨q70, one, one, SqT.of upd_same, (sqT_same (show SqT K G70 q70 ([0, 0, 0, 0, 0, 0, 0, 1].map V.int) from hq70) s71), (hone.same ((((s67.trans s68).trans s69).trans s70).trans s71)), (hone.same ((((s67.trans s68).trans s69).trans s70).trans s71))⟩ (fun f => by have g := f.1; exact notCrossed (by decide) g.2.2.1)
    have R := R.same ((((s67.trans s68).trans s69).trans s70).trans s71)
    have hsome := ((((s67.trans s68).trans s69).trans s70).trans s71) _ _ hsome
    have BS := BS.same ((((s67.trans s68).trans s69).trans s70).trans s71)
    have hone := hone.same ((((s67.trans s68).trans s69).trans s70).trans s71)
    generalize (upd G70 q71 _) = K39 at *
    refine ⟨(by show 2 ≤ sizeLine; decide), fun l40 nl40 => ?_⟩
    have sl40 := same_upd (o := .lst [V.ref q66, .ref q71]) nl40
    have hl40 := upd_at sl40
    have AB : Bads K K39 [V.ref q66, .ref q71] := AB
    have AB := AB.same sl40
    have R := R.same sl40
    have hsome := sl40 _ _ hsome
    have BS := BS.same sl40
    have hone := hone.same sl40
    generalize upd K39 l40 _ = K40 at *
    refine ⟨l37, l40, _, _, rfl, rfl, hsome, hl40, (by rw [lvs]; show 23 + 2 ≤ sizeLine; decide), fun l41 nl41 => ?_⟩
    have sl41 := same_upd (o := .lst (vs ++ [V.ref q66, .ref q71])) nl41
    have BS := (BS.app AB).same sl41
    have hsome := upd_at sl41
    have R := R.same sl41
    have hone := hone.same sl41
    generalize upd K40 l41 _ = K41 at *
    have lvs : (vs ++ [V.ref q66, .ref q71]).length = 25 := by rw [List.length_append, lvs]; rfl
    generalize vs ++ [V.ref q66, .ref q71] = vs41 at *
    clear AB
    obtain ⟨vs, evs⟩ : ∃ vs : List V, vs = vs41 := ⟨_, rfl⟩
    rw [← evs] at hsome BS lvs
    refine ⟨_, rfl, ?_⟩
    have AB : Bads K K41 [] := Bads.nil
    refine ⟨(by show 4 ≤ sizeLine; decide), fun q72 n72 => ?_⟩
    have s72 := same_upd (o := .tup [V.int 1, .int 2, .int 3, .int 4]) n72
    refine ⟨(by show 1 ≤ sizeLine; decide), fun q73 n73 => ?_⟩
    have s73 := same_upd (o := .tup [V.int 0]) n73
    refine ⟨q73, _, _, rfl, rfl, SqT.of upd_same, (fun z => nomatch z), by decide, by decide, (by show 1 ≤ 1000; decide), fun q74 n74 => ?_⟩
    have s74 := same_upd (o := .tup (List.replicate (4 : Int).toNat [V.int 0]).flatten) n74
    have hq74 : SqT K _ q74 (([0, 0, 0, 0] : List Int).map V.int) := SqT.of (upd_at s74)
    refine ⟨q72, q74, ([1, 2, 3, 4] : List Int).map V.int, ([0, 0, 0, 0] : List Int).map V.int, rfl, rfl, (sqT_same (SqT.of upd_same) (s73.trans s74)), hq74, (by show 8 ≤ sizeLine; decide), fun q75 G75 s75 hq75 => ?_⟩
    refine ⟨_, rfl, _, rfl, (by show 4 ≤ sizeLine; decide), fun q76 n76 => ?_⟩
    have s76 := same_upd (o := .tup [V.str "eight", .ref q75, .ref one, .ref one]) n76
    have AB := Bads.snoc (t := .eight [1, 2, 3, 4, 0, 0, 0, 0] (.leaf (.frac 1 2)) (.leaf (.frac 1 2))) (AB.same ((((s72.trans s73).trans s74).trans s75).trans s76)) ⟨q75, one, one, SqT.of upd_same, (sqT_same (show SqT K G75 q75 ([1, 2, 3, 4, 0, 0, 0, 0].map V.int) from hq75) s76), (hone.same ((((s72.trans s73).trans s74).trans s75).trans s76)), (hone.same ((((s72.trans s73).trans s74).trans s75).trans s76))⟩ (fun f => by have g := f.1; exact notCrossed (by decide) g.2.2.1)
    have R := R.same ((((s72.trans s73).trans s74).trans s75).trans s76)
    have hsome := ((((s72.trans s73).trans s74).trans s75).trans s76) _ _ hsome
    have BS := BS.same ((((s72.trans s73).trans s74).trans s75).trans s76)
    have hone := hone.same ((((s72.trans s73).trans s74).trans s75).trans s76)
    generalize (upd G75 q76 _) = K42 at *
    refine ⟨_, rfl, (by show 3 ≤ sizeLine; decide), fun q77 n77 => ?_⟩
    have s77 := same_upd (o := .tup [V.str "power", .ref one, .int 0]) n77
    have AB := Bads.snoc (t := .power (.leaf (.frac 1 2)) 0) (AB.same s77) ⟨one, SqT.of upd_same, (hone.same s77)⟩ (fun f => by have g := f.1; exact absurd g.1 (by decide))
    have R := R.same s77
    have hsome := s77 _ _ hsome
    have BS := BS.same s77
    have hone := hone.same s77
    generalize (upd K42 q77 _) = K43 at *
    refine ⟨_, rfl, (by show 3 ≤ sizeLine; decide), fun q78 n78 => ?_⟩
    have s78 := same_upd (o := .tup [V.str "power", .ref one, .int 5]) n78
    have AB := Bads.snoc (t := .power (.leaf (.frac 1 2)) 5) (AB.same s78) ⟨one, SqT.of upd_same, (hone.same s78)⟩ (fun f => by have g := f.1; exact absurd g.2.1 (by decide))
    have R := R.same s78
    have hsome := s78 _ _ hsome
    have BS := BS.same s78
    have hone := hone.same s78
    generalize (upd K43 q78 _) = K44 at *
    refine ⟨(by show 3 ≤ sizeLine; decide), fun l45 nl45 => ?_⟩
    have sl45 := same_upd (o := .lst [V.ref q76, .ref q77, .ref q78]) nl45
    have hl45 := upd_at sl45
    have AB : Bads K K44 [V.ref q76, .ref q77, .ref q78] := AB
    have AB := AB.same sl45
    have R := R.same sl45
    have hsome := sl45 _ _ hsome
    have BS := BS.same sl45
    have hone := hone.same sl45
    generalize upd K44 l45 _ = K45 at *
    refine ⟨l41, l45, _, _, rfl, rfl, hsome, hl45, (by rw [lvs]; show 25 + 3 ≤ sizeLine; decide), fun l46 nl46 => ?_⟩
    have sl46 := same_upd (o := .lst (vs ++ [V.ref q76, .ref q77, .ref q78])) nl46
    have BS := (BS.app AB).same sl46
    have hsome := upd_at sl46
    have R := R.same sl46
    have hone := hone.same sl46
    generalize upd K45 l46 _ = K46 at *
    have lvs : (vs ++ [V.ref q76, .ref q77, .ref q78]).length = 28 := by rw [List.length_append, lvs]; rfl
    generalize vs ++ [V.ref q76, .ref q77, .ref q78] = vs46 at *
    clear AB
    obtain ⟨vs, evs⟩ : ∃ vs : List V, vs = vs46 := ⟨_, rfl⟩
    rw [← evs] at hsome BS lvs
    obtain ⟨some_, esome⟩ : ∃ z, z = l46 := ⟨_, rfl⟩
    rw [← esome] at hsome
    obtain ⟨HA, eHA⟩ : ∃ z, z = K46 := ⟨_, rfl⟩
    rw [← eHA] at hsome R BS hone ⊢
    rw [← esome]
    have idx : ∀ {n : Nat} {j : Int}, 0 ≤ j → j < n → ixN n j = some j.toNat := fun {n j} h0 h1 => by
      unfold ixN
      rw [if_pos h0, if_pos h1]
    have nsr : some_ ≠ r := fun z => by
      obtain ⟨⟨i, l, mx, e, _⟩, _⟩ := R
      rw [z, e] at hsome
      have e2 : [V.ref a, .int i, .int l, .int mx] = vs := HO.lst.inj (Option.some.inj hsome)
      rw [← e2] at lvs
      exact absurd (show 4 = 28 from lvs) (by decide)
    -- a ring of ones
    refine ⟨(by show 1 ≤ sizeLine; decide), fun b1 nb1 => ?_⟩
    have t1 := same_upd (o := .lst [V.int 1]) nb1
    have hb1 := upd_at t1
    have R1 := R.same t1
    have hsome1 := t1 _ _ hsome
    have BS1 := BS.same t1
    have hone1 := hone.same t1
    have nb1r : b1 ≠ r := by
      obtain ⟨x, xs, e⟩ := R.at_
      exact (ne_of_none e nb1).symm
    generalize upd HA b1 _ = HB at *
    refine ⟨_, rfl, r, a, ns, _, rfl, R1, by decide, wd _ (by decide), fun m0 HC m1 m2 R2 kp2 => ⟨_, _, rfl, rfl, ?_⟩⟩
    have hb2 := kp2 _ _ hb1 nb1r
    have hsome2 := kp2 _ _ hsome1 nsr
    have BS2 := BS1.row R1 kp2
    have hone2 := hone1.row R1 kp2
    obtain ⟨n, hn⟩ : ∃ n : Nat, n = (1 + m0).toNat := ⟨_, rfl⟩
    have n1 : 1 ≤ n := by omega
    have n12 : n ≤ 12 := by omega
    refine ⟨b1, 1 + m0, [V.int 1], rfl, rfl, hb2, by omega, by omega, (by rw [← hn]; show 1 * n ≤ sizeLine; exact Nat.le_trans (show 1 * n ≤ 12 by omega) (by decide)), fun lr nlr => ?_⟩
    have t3 := same_upd (o := .lst (List.replicate (1 + m0).toNat [V.int 1]).flatten) nlr
    have hr3 : (upd HC lr (.lst (List.replicate (1 + m0).toNat [V.int 1]).flatten)) lr = some (.lst ((List.replicate n (1 : Int)).map V.int)) := by
      rw [upd_at t3, ← hn, rep_flat, List.map_replicate]
    have R3 := R2.same t3
    have hsome3 := t3 _ _ hsome2
    have BS3 := BS2.same t3
    have hone3 := hone2.same t3
    have nlrr : lr ≠ r := by
      obtain ⟨x, xs, e⟩ := R2.at_
      exact (ne_of_none e nlr).symm
    have nslr : some_ ≠ lr := ne_of_none hsome2 nlr
    generalize upd HC lr _ = HD at *
    -- its steps
    refine ⟨(by show 1 ≤ sizeLine; decide), fun b2 nb2 => ?_⟩
    have t4 := same_upd (o := .lst [V.int 0]) nb2
    have hb4 := upd_at t4
    have R4 := R3.same t4
    have hsome4 := t4 _ _ hsome3
    have BS4 := BS3.same t4
    have hone4 := hone3.same t4
    have hr4 := t4 _ _ hr3
    generalize upd HD b2 _ = HE at *
    have lr1 : ((((List.replicate n (1 : Int)).map V.int).length : Nat) : Int) = (n : Int) := by rw [List.length_map, List.length_replicate]
    refine ⟨_, rfl, lr, _, rfl, .inl (SqL.of hr4), b2, _, [V.int 0], rfl, rfl, hb4, (by rw [lr1]; omega), (by rw [lr1]; omega), (by rw [lr1]; show 1 * ((n : Int)).toNat ≤ sizeLine; exact Nat.le_trans (show 1 * ((n : Int)).toNat ≤ 12 by omega) (by decide)), fun ls nls => ?_⟩
    have t5 := same_upd (o := .lst (List.replicate (((((List.replicate n (1 : Int)).map V.int).length : Nat) : Int)).toNat [V.int 0]).flatten) nls
    have hs5 : (upd HE ls (.lst (List.replicate (((((List.replicate n (1 : Int)).map V.int).length : Nat) : Int)).toNat [V.int 0]).flatten)) ls = some (.lst ((List.replicate n (0 : Int)).map V.int)) := by
      rw [upd_at t5, lr1, show ((n : Int)).toNat = n by omega, rep_flat, List.map_replicate]
    have R5 := R4.same t5
    have hsome5 := t5 _ _ hsome4
    have BS5 := BS4.same t5
    have hone5 := hone4.same t5
    have hr5 := t5 _ _ hr4
    have nlsr : ls ≠ r := by
      obtain ⟨x, xs, e⟩ := R4.at_
      exact (ne_of_none e nls).symm
    have nsls : some_ ≠ ls := ne_of_none hsome4 nls
    have nlrs : lr ≠ ls := ne_of_none hr4 nls
    generalize upd HE ls _ = HF at *
    -- one part below 1
    refine ⟨_, rfl, r, a, ns, _, rfl, R5, by decide, wd _ (by decide), fun z0 HG z1 z2 R6 kp6 => ⟨_, _, rfl, rfl, ?_⟩⟩
    have hsome6 := kp6 _ _ hsome5 nsr
    have BS6 := BS5.row R5 kp6
    have hone6 := hone5.row R5 kp6
    have hr6 := kp6 _ _ hr5 nlrr
    have hs6 := kp6 _ _ hs5 nlsr
    refine ⟨_, rfl, _, rfl, _, rfl, lr, _, rfl, .inl (SqL.of hr6), r, a, ns, _, rfl, R6, (by rw [lr1]; omega), (by rw [lr1]; exact wd _ (by omega)), fun j0 HH j1 j2 R7 kp7 => ?_⟩
    rw [lr1] at j2
    have hsome7 := kp7 _ _ hsome6 nsr
    have BS7 := BS6.row R6 kp7
    have hone7 := hone6.row R6 kp7
    have hr7 := kp7 _ _ hr6 nlrr
    have hs7 := kp7 _ _ hs6 nlsr
    refine ⟨lr, _, _, _, rfl, rfl, hr7, idx j1 (by rw [List.length_map, List.length_replicate]; exact j2), ?_⟩
    obtain ⟨ring, hring⟩ : ∃ ring : List Int, ring = (List.replicate n (1 : Int)).set j0.toNat (0 - z0) := ⟨_, rfl⟩
    have lring : ring.length = n := by rw [hring, List.length_set, List.length_replicate]
    have mring : (0 - z0) ∈ ring := by
      rw [hring]
      exact List.mem_of_getElem? (List.getElem?_set_self (by rw [List.length_replicate]; omega))
    have hr8 : (upd HH lr (.lst (((List.replicate n (1 : Int)).map V.int).set j0.toNat ((fun i j => V.int (i - j)) 0 z0)))) lr = some (.lst (ring.map V.int)) := by
      rw [upd_same, hring, List.map_set]
    have kp8 : ∀ b o, HH b = some o → ¬ b = lr → (upd HH lr (.lst (((List.replicate n (1 : Int)).map V.int).set j0.toNat ((fun i j => V.int (i - j)) 0 z0)))) b = some o := fun b o e n => by rw [upd_ne n]; exact e
    have R8 := R7.put (ys := ((List.replicate n (1 : Int)).map V.int).set j0.toNat ((fun i j => V.int (i - j)) 0 z0)) hr7 nlrr
    have hsome8 := kp8 _ _ hsome7 nslr
    have hs8 := kp8 _ _ hs7 nlrs.symm
    have BS8 := BS7.but (N := fun b => b = lr) kp8 (lstNo hr7)
    have hone8 := Tree.At.but (N := fun b => b = lr) kp8 (lstNo hr7) hone7
    generalize upd HH lr _ = HI at *
    have badRing : ∀ steps : List Int, ¬ Tree.Fine (.leaf (.ruled [1] ring steps)) := fun steps f => by
      have g : RuledGood [1] ring steps := f.1
      have := g.one (0 - z0) (by show _ ∈ [] ++ ring; exact mring)
      omega
    -- two more
    refine ⟨_, rfl, (by show 1 ≤ sizeLine; decide), fun p1 np1 => ?_⟩
    have u1 := same_upd (o := .tup [V.int 1]) np1
    have hp1 : SqT K (upd HI p1 (.tup [V.int 1])) p1 (([1] : List Int).map V.int) := SqT.of (upd_at u1)
    have hr9 := u1 _ _ hr8
    have hs9 := u1 _ _ hs8
    generalize upd HI p1 _ = HJ at *
    refine ⟨_, rfl, lr, _, rfl, .inl ⟨SqL.of hr9, fun p2 np2 => ?_⟩⟩
    have u2 := same_upd (o := .tup (ring.map V.int)) np2
    have hp2 : SqT K _ p2 (ring.map V.int) := SqT.of (upd_at u2)
    have hs10 := u2 _ _ hs9
    have hp1' := sqT_same hp1 u2
    generalize upd HJ p2 _ = HK at *
    refine ⟨_, rfl, ls, _, rfl, .inl ⟨SqL.of hs10, fun p3 np3 => ?_⟩⟩
    have u3 := same_upd (o := .tup ((List.replicate n (0 : Int)).map V.int)) np3
    have hp3 : SqT K _ p3 ((List.replicate n (0 : Int)).map V.int) := SqT.of (upd_at u3)
    refine ⟨(by show 4 ≤ sizeLine; decide), fun p4 np4 => ?_⟩
    have u4 := same_upd (o := .tup [V.str "ruled", .ref p1, .ref p2, .ref p3]) np4
    have AB : Bads K _ [V.ref p4] := Bads.snoc (t := .leaf (.ruled [1] ring (List.replicate n 0))) Bads.nil ⟨p1, p2, p3, SqT.of (upd_at u4), sqT_same hp1' (u3.trans u4), sqT_same hp2 (u3.trans u4), sqT_same hp3 u4⟩ (badRing _)
    have uu := ((u1.trans u2).trans u3).trans u4
    have R9 := R8.same uu
    have hsome9 := uu _ _ hsome8
    have hs11 := uu _ _ hs8
    have hr11 := uu _ _ hr8
    have BS9 := BS8.same uu
    have hone9 := hone8.same uu
    generalize upd (upd HK p3 _) p4 _ = HL at *
    -- a part of 0 behind ones
    refine ⟨(by show 1 ≤ sizeLine; decide), fun b3 nb3 => ?_⟩
    have v1 := same_upd (o := .lst [V.int 1]) nb3
    have hb3 := upd_at v1
    have hs12 := v1 _ _ hs11
    generalize upd HL b3 _ = HM at *
    have ls1 : ((((List.replicate n (0 : Int)).map V.int).length : Nat) : Int) = (n : Int) := by rw [List.length_map, List.length_replicate]
    refine ⟨_, rfl, ls, _, rfl, .inl (SqL.of hs12), b3, _, [V.int 1], rfl, rfl, hb3, (by rw [ls1]; omega), (by rw [ls1]; omega), (by rw [ls1]; show 1 * ((n : Int)).toNat ≤ sizeLine; exact Nat.le_trans (show 1 * ((n : Int)).toNat ≤ 12 by omega) (by decide)), fun b4 nb4 => ?_⟩
    have v2 := same_upd (o := .lst (List.replicate (((((List.replicate n (0 : Int)).map V.int).length : Nat) : Int)).toNat [V.int 1]).flatten) nb4
    have hb5 : (upd HM b4 (.lst (List.replicate (((((List.replicate n (0 : Int)).map V.int).length : Nat) : Int)).toNat [V.int 1]).flatten)) b4 = some (.lst ((List.replicate n (1 : Int)).map V.int)) := by
      rw [upd_at v2, ls1, show ((n : Int)).toNat = n by omega, rep_flat, List.map_replicate]
    generalize upd HM b4 _ = HN at *
    refine ⟨(by show 2 ≤ sizeLine; decide), fun b5 nb5 => ?_⟩
    have v3 := same_upd (o := .lst [V.int 0, .int 3]) nb5
    have hb6 := upd_at v3
    have hb7 := v3 _ _ hb5
    generalize upd HN b5 _ = HO_ at *
    refine ⟨b4, b5, _, _, rfl, rfl, hb7, hb6, (by rw [List.length_map, List.length_replicate]; exact Nat.le_trans (show n + 2 ≤ 14 by omega) (by decide)), fun b6 nb6 => ?_⟩
    have v4 := same_upd (o := .lst ((List.replicate n (1 : Int)).map V.int ++ [V.int 0, .int 3])) nb6
    have hb8 : (upd HO_ b6 (.lst ((List.replicate n (1 : Int)).map V.int ++ [V.int 0, .int 3]))) b6 = some (.lst ((List.replicate n (1 : Int) ++ [0, 3]).map V.int)) := by
      rw [upd_at v4, List.map_append]
      rfl
    generalize upd HO_ b6 _ = HP at *
    refine ⟨b6, _, rfl, .inl ⟨SqL.of hb8, fun p5 np5 => ?_⟩⟩
    have v5 := same_upd (o := .tup ((List.replicate n (1 : Int) ++ [0, 3]).map V.int)) np5
    have hp5 : SqT K _ p5 ((List.replicate n (1 : Int) ++ [0, 3]).map V.int) := SqT.of (upd_at v5)
    generalize upd HP p5 _ = HQ at *
    refine ⟨(by show 0 ≤ sizeLine; decide), fun p6 np6 => ⟨(by show 0 ≤ sizeLine; decide), fun p7 np7 => ⟨(by show 4 ≤ sizeLine; decide), fun p8 np8 => ?_⟩⟩⟩
    have v6 := same_upd (o := .tup []) np6
    have v7 := same_upd (o := .tup []) np7
    have v8 := same_upd (o := .tup [V.str "ruled", .ref p5, .ref p6, .ref p7]) np8
    have vv := ((((v1.trans v2).trans v3).trans v4).trans v5).trans ((v6.trans v7).trans v8)
    have n0 : ¬ Tree.Fine (.leaf (.ruled (List.replicate n 1 ++ [0, 3]) [] [])) := fun f => by
      have g : RuledGood (List.replicate n 1 ++ [0, 3]) [] [] := f.1
      have := g.one 0 (by
        obtain ⟨n', rfl⟩ : ∃ n', n = n' + 1 := ⟨n - 1, by omega⟩
        rw [List.replicate_succ]
        simp)
      omega
    have AB := Bads.snoc (t := .leaf (.ruled (List.replicate n 1 ++ [0, 3]) [] [])) (AB.same vv) ⟨p5, p6, p7, SqT.of (upd_at v8), sqT_same hp5 ((v6.trans v7).trans v8), sqT_same (SqT.of (upd_at v6)) (v7.trans v8), sqT_same (SqT.of (upd_at v7)) v8⟩ n0
    have R10 := R9.same vv
    have hsome10 := vv _ _ hsome9
    have hs13 := vv _ _ hs11
    have hr13 := vv _ _ hr11
    have BS10 := BS9.same vv
    have hone10 := hone9.same vv
    generalize upd (upd (upd HQ p6 _) p7 _) p8 _ = HR at *
    refine ⟨(by show 2 ≤ sizeLine; decide), fun l2 nl2 => ?_⟩
    have x1 := same_upd (o := .lst [V.ref p4, .ref p8]) nl2
    have hl2 := upd_at x1
    have AB : Bads K HR [V.ref p4, .ref p8] := AB
    have AB := AB.same x1
    have R11 := R10.same x1
    have hsome11 := x1 _ _ hsome10
    have hs14 := x1 _ _ hs13
    have hr14 := x1 _ _ hr13
    have BS11 := BS10.same x1
    have hone11 := hone10.same x1
    generalize upd HR l2 _ = HS at *
    refine ⟨some_, l2, _, _, rfl, rfl, hsome11, hl2, (by rw [lvs]; show 28 + 2 ≤ sizeLine; decide), fun sm nsm => ?_⟩
    have x2 := same_upd (o := .lst (vs ++ [V.ref p4, .ref p8])) nsm
    have BS12 := (BS11.app AB).same x2
    have hsome12 := upd_at x2
    have R12 := R11.same x2
    have hs15 := x2 _ _ hs14
    have hr15 := x2 _ _ hr14
    have hone12 := hone11.same x2
    have nsmr : sm ≠ r := by
      obtain ⟨x, xs, e⟩ := R11.at_
      exact (ne_of_none e nsm).symm
    have nsms : sm ≠ ls := (ne_of_none hs14 nsm).symm
    generalize upd HS sm _ = HT_ at *
    have lvs2 : (vs ++ [V.ref p4, .ref p8]).length = 28 + 2 := by rw [List.length_append, lvs]; rfl
    generalize vs ++ [V.ref p4, .ref p8] = ws at *
    -- a step below 0
    refine ⟨_, rfl, _, rfl, _, rfl, _, rfl, ls, _, rfl, .inl (SqL.of hs15), r, a, ns, _, rfl, R12, (by rw [ls1]; omega), (by rw [ls1]; exact wd _ (by omega)), fun j3 HU j4 j5 R13 kp13 => ?_⟩
    rw [ls1] at j5
    have hsome13 := kp13 _ _ hsome12 nsmr
    have BS13 := BS12.row R12 kp13
    have hone13 := hone12.row R12 kp13
    have hr16 := kp13 _ _ hr15 nlrr
    have hs16 := kp13 _ _ hs15 nlsr
    refine ⟨ls, _, _, _, rfl, rfl, hs16, idx j4 (by rw [List.length_map, List.length_replicate]; exact j5), ?_⟩
    obtain ⟨steps, hsteps⟩ : ∃ steps : List Int, steps = (List.replicate n (0 : Int)).set j3.toNat (-1) := ⟨_, rfl⟩
    have lsteps : steps.length = n := by rw [hsteps, List.length_set, List.length_replicate]
    have msteps : (-1 : Int) ∈ steps := by
      rw [hsteps]
      exact List.mem_of_getElem? (List.getElem?_set_self (by rw [List.length_replicate]; omega))
    have hs17 : (upd HU ls (.lst (((List.replicate n (0 : Int)).map V.int).set j3.toNat (V.int (-1))))) ls = some (.lst (steps.map V.int)) := by
      rw [upd_same, hsteps, List.map_set]
    have kp14 : ∀ b o, HU b = some o → ¬ b = ls → (upd HU ls (.lst (((List.replicate n (0 : Int)).map V.int).set j3.toNat (V.int (-1))))) b = some o := fun b o e n => by rw [upd_ne n]; exact e
    have R14 := R13.put (ys := ((List.replicate n (0 : Int)).map V.int).set j3.toNat (V.int (-1))) hs16 nlsr
    have hsome14 := kp14 _ _ hsome13 nsms
    have hr17 := kp14 _ _ hr16 nlrs
    have BS14 := BS13.but (N := fun b => b = ls) kp14 (lstNo hs16)
    have hone14 := Tree.At.but (N := fun b => b = ls) kp14 (lstNo hs16) hone13
    generalize upd HU ls _ = HV at *
    -- one more
    refine ⟨_, rfl, .inl ⟨rfl, _, SqL.of hsome14⟩, (by show 1 ≤ sizeLine; decide), fun y1 ny1 => ?_⟩
    have z3 := same_upd (o := .tup [V.int 1]) ny1
    have hy1 : SqT K (upd HV y1 (.tup [V.int 1])) y1 (([1] : List Int).map V.int) := SqT.of (upd_at z3)
    have hs18 := z3 _ _ hs17
    generalize upd HV y1 _ = HW at *
    refine ⟨(by show 1 ≤ sizeLine; decide), fun y2 ny2 => ?_⟩
    have z4 := same_upd (o := .tup [V.int 2]) ny2
    have hy2 : SqT K _ y2 [V.int 2] := SqT.of (upd_at z4)
    have hs19 := z4 _ _ hs18
    have hy1' := sqT_same hy1 z4
    generalize upd HW y2 _ = HX at *
    have ls2 : (((steps.map V.int).length : Nat) : Int) = (n : Int) := by rw [List.length_map, lsteps]
    refine ⟨_, rfl, ls, _, rfl, .inl (SqL.of hs19), y2, V.int 2, n, rfl, congrArg V.int ls2, hy2, n1, by omega, fun y3 HY z5 hy3 => ?_⟩
    have hs20 := z5 _ _ hs19
    refine ⟨_, rfl, ls, _, rfl, .inl ⟨SqL.of hs20, fun y4 ny4 => ?_⟩⟩
    have z6 := same_upd (o := .tup (steps.map V.int)) ny4
    refine ⟨(by show 4 ≤ sizeLine; decide), fun y5 ny5 => ?_⟩
    have z7 := same_upd (o := .tup [V.str "ruled", .ref y1, .ref y3, .ref y4]) ny5
    have zz := ((z3.trans z4).trans z5).trans (z6.trans z7)
    have hy3' : SqT K HY y3 ((List.replicate n (2 : Int)).map V.int) := by rw [List.map_replicate]; exact hy3
    have nst : ¬ Tree.Fine (.leaf (.ruled [1] (List.replicate n 2) steps)) := fun f => by
      have g : RuledGood [1] (List.replicate n 2) steps := f.1
      exact absurd (g.nn (-1) msteps) (by decide)
    have BS15 := Bads.snoc (t := .leaf (.ruled [1] (List.replicate n 2) steps)) (BS14.same zz) ⟨y1, y3, y4, SqT.of (upd_at z7), sqT_same hy1' (z5.trans (z6.trans z7)), sqT_same hy3' (z6.trans z7), sqT_same (SqT.of (upd_at z6)) z7⟩ nst
    have R15 := R14.same zz
    have hsome15 := zz _ _ hsome14
    have hr18 := zz _ _ hr17
    have hone15 := hone14.same zz
    have nrsm : lr ≠ sm := (ne_of_none hr14 nsm)
    generalize upd (upd HY y4 _) y5 _ = HZ at *
    refine ⟨sm, _, _, rfl, rfl, hsome15, (by rw [lvs2]; show 28 + 2 < sizeLine; decide), ?_⟩
    have kp16 : ∀ b o, HZ b = some o → ¬ b = sm → (upd HZ sm (.lst (ws ++ [V.ref y5]))) b = some o := fun b o e n => by rw [upd_ne n]; exact e
    have R16 := R15.put (ys := ws ++ [V.ref y5]) hsome15 nsmr
    have hsome16 : (upd HZ sm (.lst (ws ++ [V.ref y5]))) sm = some (.lst (ws ++ [V.ref y5])) := upd_same
    have hr19 := kp16 _ _ hr18 nrsm
    have BS16 := BS15.but (N := fun b => b = sm) kp16 (lstNo hsome15)
    have hone16 := Tree.At.but (N := fun b => b = sm) kp16 (lstNo hsome15) hone15
    generalize upd HZ sm _ = I1 at *
    have lvs3 : (ws ++ [V.ref y5]).length = 28 + 3 := by rw [List.length_append, lvs2]; rfl
    generalize ws ++ [V.ref y5] = us at *
    -- six deep
    refine ⟨(by show 4 ≤ sizeLine; decide), fun d0 nd0 => ?_⟩
    have c1 := same_upd (o := .tup [V.str "root", .int 3, .int 7, .int 2]) nd0
    have hd0 : Tree.At K _ (.leaf (.root 3 7 2)) d0 := SqT.of (upd_at c1)
    have R17 := R16.same c1
    have hsome17 := c1 _ _ hsome16
    have hr20 := c1 _ _ hr19
    have BS17 := BS16.same c1
    have hone17 := hone16.same c1
    generalize upd I1 d0 _ = I2 at *
    refine ⟨5, rfl, by decide, by decide, for_range (lo := 0) (n := 5) (fun i σ H' => ∃ (d : Addr) (t : Tree) (v7 v8 v9 : Option V), σ = [some (.ref r), some (.int 1000000000001), some (.ref sm), some (.ref one), some (.ref lr), some (.ref ls), some (.ref d), v7, v8, v9, none] ∧ t.At K H' d ∧ i ≤ t.ht ∧ RowAt K H' r a ns ∧ H' sm = some (.lst us) ∧ H' lr = some (.lst (ring.map V.int)) ∧ Bads K H' us ∧ Tree.At K H' (.leaf (.frac 1 2)) one)
      ⟨d0, .leaf (.root 3 7 2), none, none, none, rfl, hd0, Nat.zero_le _, R17, hsome17, hr20, BS17, hone17⟩ ?_ ?_⟩
    · rintro i σ H' hi ⟨d, t, v7, v8, v9, rfl, ht, hht, R', hsm', hr', BS', hone'⟩
      refine ⟨(by show 8 ≤ sizeLine; decide), fun e1 ne1 => ?_⟩
      have w1 := same_upd (o := .tup [V.int 0, .int 1, .int 1, .int 0, .int 0, .int 0, .int 0, .int 1]) ne1
      have he1 : SqT K (upd H' e1 (.tup [V.int 0, .int 1, .int 1, .int 0, .int 0, .int 0, .int 0, .int 1])) e1 (([0, 1, 1, 0, 0, 0, 0, 1] : List Int).map V.int) := SqT.of (upd_at w1)
      refine ⟨(by show 4 ≤ sizeLine; decide), fun e2 ne2 => ⟨_, rfl, (by show 3 ≤ sizeLine; decide), fun e3 ne3 => ?_⟩⟩
      have w2 := same_upd (o := .tup [V.int 1, .int 1, .int 0, .int 1]) ne2
      have w3 := same_upd (o := .tup [V.str "four", .ref e2, .ref d]) ne3
      refine ⟨_, rfl, _, rfl, _, rfl, (by show 4 ≤ sizeLine; decide), fun e4 ne4 => ?_⟩
      have w4 := same_upd (o := .tup [V.str "eight", .ref e1, .ref one, .ref d]) ne4
      refine ⟨_, rfl, _, rfl, _, rfl, (by show 4 ≤ sizeLine; decide), fun e5 ne5 => ?_⟩
      have w5 := same_upd (o := .tup [V.str "eight", .ref e1, .ref d, .ref one]) ne5
      refine ⟨(by show 3 ≤ sizeLine; decide), fun e6 ne6 => ?_⟩
      have w6 := same_upd (o := .lst [V.ref e3, .ref e4, .ref e5]) ne6
      refine ⟨_, rfl, _, rfl, (by show 3 ≤ sizeLine; decide), fun e7 ne7 => ?_⟩
      have w7 := same_upd (o := .tup [V.str "power", .ref d, .int 1]) ne7
      refine ⟨(by show 1 ≤ sizeLine; decide), fun e8 ne8 => ?_⟩
      have w8 := same_upd (o := .lst [V.ref e7]) ne8
      have q2 := w3.trans (w4.trans (w5.trans (w6.trans (w7.trans w8))))
      have q3 := w4.trans (w5.trans (w6.trans (w7.trans w8)))
      have q4 := w5.trans (w6.trans (w7.trans w8))
      have q5 := w6.trans (w7.trans w8)
      have qq := w1.trans (w2.trans q2)
      have hd' := ht.same qq
      have ho' := hone'.same qq
      have T3 : Tree.At K _ (.four [1, 1, 0, 1] t) e3 := ⟨e2, d, sqT_same (SqT.of (upd_at w3)) q3, sqT_same (SqT.of (upd_at w2)) q2, hd'⟩
      have T4 : Tree.At K _ (.eight [0, 1, 1, 0, 0, 0, 0, 1] (.leaf (.frac 1 2)) t) e4 := ⟨e1, one, d, sqT_same (SqT.of (upd_at w4)) q4, sqT_same he1 (w2.trans q2), ho', hd'⟩
      have T5 : Tree.At K _ (.eight [0, 1, 1, 0, 0, 0, 0, 1] t (.leaf (.frac 1 2))) e5 := ⟨e1, d, one, sqT_same (SqT.of (upd_at w5)) q5, sqT_same he1 (w2.trans q2), hd', ho'⟩
      have T7 : Tree.At K _ (.power t 1) e7 := ⟨d, sqT_same (SqT.of (upd_at w7)) w8, hd'⟩
      have he6 := (w7.trans w8) _ _ (upd_at w6)
      have he8 := upd_at w8
      have R1 := R'.same qq
      have hsm1 := qq _ _ hsm'
      have hr1 := qq _ _ hr'
      have BS1 := BS'.same qq
      generalize upd (upd (upd (upd (upd (upd (upd (upd H' e1 _) e2 _) e3 _) e4 _) e5 _) e6 _) e7 _) e8 _ = J1 at *
      refine ⟨e6, e8, _, _, rfl, rfl, he6, he8, (by show 3 + 1 ≤ sizeLine; decide), fun e9 ne9 => ?_⟩
      have w9 := same_upd (o := .lst ([V.ref e3, .ref e4, .ref e5] ++ [V.ref e7])) ne9
      have he9 : (upd J1 e9 (.lst ([V.ref e3, .ref e4, .ref e5] ++ [V.ref e7]))) e9 = some (.lst [V.ref e3, .ref e4, .ref e5, .ref e7]) := upd_at w9
      have R2 := R1.same w9
      have hsm2 := w9 _ _ hsm1
      have hr2 := w9 _ _ hr1
      have BS2 := BS1.same w9
      have T3 := T3.same w9
      have T4 := T4.same w9
      have T5 := T5.same w9
      have T7 := T7.same w9
      have ho2 := ho'.same w9
      have n9r : e9 ≠ r := by
        obtain ⟨x, xs, e⟩ := R1.at_
        exact (ne_of_none e ne9).symm
      generalize upd J1 e9 _ = J2 at *
      refine ⟨_, rfl, r, a, ns, _, rfl, R2, by decide, wd _ (by decide), fun g0 J3 g1 g2 R3 kpg => ?_⟩
      have he9' := kpg _ _ he9 n9r
      have pick : ∃ (e : Addr) (t' : Tree), atI [V.ref e3, .ref e4, .ref e5, .ref e7] g0 = some (.ref e) ∧ t'.At K J3 e ∧ i + 1 ≤ t'.ht := by
        obtain e | e | e | e : g0 = 0 ∨ g0 = 1 ∨ g0 = 2 ∨ g0 = 3 := by omega
        all_goals subst e
        · exact ⟨e3, _, rfl, T3.row R2 kpg, by show i + 1 ≤ t.ht + 1; omega⟩
        · exact ⟨e4, _, rfl, T4.row R2 kpg, by show i + 1 ≤ max 0 t.ht + 1; omega⟩
        · exact ⟨e5, _, rfl, T5.row R2 kpg, by show i + 1 ≤ max t.ht 0 + 1; omega⟩
        · exact ⟨e7, _, rfl, T7.row R2 kpg, by show i + 1 ≤ t.ht + 1; omega⟩
      obtain ⟨e, t', hat, hAt, hh⟩ := pick
      refine ⟨e9, _, _, _, rfl, rfl, SqL.of he9', hat, ?_⟩
      exact ⟨e, t', _, _, _, rfl, hAt, hh, R3, kpg _ _ hsm2 nsmr, kpg _ _ hr2 nlrr, BS2.row R2 kpg, ho2.row R2 kpg⟩
    rintro σ I3 ⟨d, t, v7, v8, v9, rfl, ht, hht, R18, hsome18, hr21, BS18, hone18⟩
    have ndeep : ¬ t.Fine := fun f => by have := f.2; omega
    -- a ring that is none, without steps
    refine ⟨(by show 1 ≤ sizeLine; decide), fun y6 ny6 => ?_⟩
    have c2 := same_upd (o := .tup [V.int 1]) ny6
    have hy6 : SqT K (upd I3 y6 (.tup [V.int 1])) y6 (([1] : List Int).map V.int) := SqT.of (upd_at c2)
    have hr22 := c2 _ _ hr21
    generalize upd I3 y6 _ = I4 at *
    refine ⟨_, rfl, lr, _, rfl, .inl ⟨SqL.of hr22, fun y7 ny7 => ?_⟩⟩
    have c3 := same_upd (o := .tup (ring.map V.int)) ny7
    have hy7 : SqT K _ y7 (ring.map V.int) := SqT.of (upd_at c3)
    have hr23 := c3 _ _ hr22
    have hy6' := sqT_same hy6 c3
    generalize upd I4 y7 _ = I5 at *
    refine ⟨(by show 1 ≤ sizeLine; decide), fun y8 ny8 => ?_⟩
    have c4 := same_upd (o := .tup [V.int 0]) ny8
    have hy8 : SqT K _ y8 [V.int 0] := SqT.of (upd_at c4)
    have hr24 := c4 _ _ hr23
    have hy6'' := sqT_same hy6' c4
    have hy7' := sqT_same hy7 c4
    generalize upd I5 y8 _ = I6 at *
    have lr2 : (((ring.map V.int).length : Nat) : Int) = (n : Int) := by rw [List.length_map, lring]
    refine ⟨_, rfl, lr, _, rfl, .inl (SqL.of hr24), y8, V.int 0, n, rfl, congrArg V.int lr2, hy8, n1, by omega, fun y9 I7 c5 hy9 => ?_⟩
    refine ⟨(by show 4 ≤ sizeLine; decide), fun bd nbd => ?_⟩
    have c6 := same_upd (o := .tup [V.str "ruled", .ref y6, .ref y7, .ref y9]) nbd
    have hy9' : SqT K I7 y9 ((List.replicate n (0 : Int)).map V.int) := by rw [List.map_replicate]; exact hy9
    have hbd : Tree.At K _ (.leaf (.ruled [1] ring (List.replicate n 0))) bd := ⟨y6, y7, y9, SqT.of (upd_at c6), sqT_same hy6'' (c5.trans c6), sqT_same hy7' (c5.trans c6), sqT_same hy9' c6⟩
    have cc := ((c2.trans c3).trans c4).trans (c5.trans c6)
    have R19 := R18.same cc
    have hsome19 := cc _ _ hsome18
    have BS19 := BS18.same cc
    have ht19 := ht.same cc
    generalize upd I7 bd _ = I8 at *
    -- which one
    refine ⟨_, rfl, _, rfl, _, rfl, _, rfl, _, rfl, _, rfl, _, rfl, (by show 6 ≤ sizeLine; decide), fun f1 nf1 => ?_⟩
    have o1 := same_upd (o := .lst [V.ref d, .ref d, .ref d, .ref bd, .ref bd, .ref bd]) nf1
    have hf1 := upd_at o1
    have hsome20 := o1 _ _ hsome19
    refine ⟨sm, f1, _, _, rfl, rfl, hsome20, hf1, (by rw [lvs3]; show 28 + 3 + 6 ≤ sizeLine; decide), fun f2 nf2 => ?_⟩
    have o2 := same_upd (o := .lst (us ++ [V.ref d, .ref d, .ref d, .ref bd, .ref bd, .ref bd])) nf2
    have hf2 := upd_at o2
    have oo := o1.trans o2
    have BD : Bads K I8 [V.ref d, .ref d, .ref d, .ref bd, .ref bd, .ref bd] := fun x hx => by
      simp only [List.mem_cons, List.not_mem_nil, or_false] at hx
      rcases hx with h | h | h | h | h | h
      · exact ⟨d, t, h, ht19, ndeep⟩
      · exact ⟨d, t, h, ht19, ndeep⟩
      · exact ⟨d, t, h, ht19, ndeep⟩
      · exact ⟨bd, _, h, hbd, badRing _⟩
      · exact ⟨bd, _, h, hbd, badRing _⟩
      · exact ⟨bd, _, h, hbd, badRing _⟩
    have BS20 := (BS19.app BD).same oo
    have R20 := R19.same oo
    have hsome21 := oo _ _ hsome19
    have nf2r : f2 ≠ r := by
      obtain ⟨x, xs, e⟩ := R19.at_
      exact (ne_of_none (o1 _ _ e) nf2).symm
    have len : (us ++ [V.ref d, .ref d, .ref d, .ref bd, .ref bd, .ref bd]).length = 28 + 9 := by rw [List.length_append, lvs3]; rfl
    generalize upd (upd I8 f1 _) f2 _ = I9 at *
    have eL : ((us.length : Nat) : Int) + 6 = 28 + 9 := by rw [lvs3]; rfl
    refine ⟨_, rfl, _, rfl, sm, _, rfl, .inl (SqL.of hsome21), _, _, rfl, rfl, r, a, ns, _, rfl, R20, (by show (0 : Int) < ((us.length : Nat) : Int) + 6; omega), (by show ((us.length : Nat) : Int) + 6 < _; rw [eL]; exact wd _ (by decide)), fun g0 J g1 g2 R21 kpz => ?_⟩
    have g2' : g0 < ((us.length : Nat) : Int) + 6 := g2
    generalize us ++ [V.ref d, .ref d, .ref d, .ref bd, .ref bd, .ref bd] = all at *
    have hlt : g0.toNat < all.length := by rw [len]; omega
    obtain ⟨x, hx⟩ : ∃ x, all[g0.toNat]? = some x := ⟨_, List.getElem?_eq_getElem hlt⟩
    obtain ⟨ea, et, ex, eAt, en⟩ := (BS20.row R20 kpz) x (List.mem_of_getElem? hx)
    refine ⟨f2, _, _, _, rfl, rfl, SqL.of (kpz _ _ hf2 nf2r), at_of (j := g0.toNat) (by omega) (by rw [hx, ex]), ?_⟩
    exact k ea et J eAt en R21
end
/-! ### the law -/
def sp_law (K : PySem.W.Frag) : Sp := fun vs H Q _ => ∃ (a : Addr) (ns : List Int), vs = [.ref a] ∧ ScrAt K H a ns ∧ ns.length ≤ 63 ∧ ∀ H', Q (.bl true) H'
def Goods (K : PySem.W.Frag) (H : Hp) (vs : List V) : Prop := ∀ x ∈ vs, ∃ (a : Addr) (f : Leaf), x = V.ref a ∧ f.At K H a ∧ f.Good
theorem Round.bad {n : Nat} {t t' : Tree} (h : Round n t t') (b : ¬ t.Fine) : ¬ t'.Fine := fun f => b ⟨h.1.mp f.1, Nat.le_trans h.2.1 f.2⟩
theorem ones12 : RuledGood [1, 1, 1, 1, 1, 1, 1, 1, 1, 1, 1, 1] [1, 1, 1, 1, 1, 1, 1, 1, 1, 1, 1, 1] [0, 0, 0, 0, 0, 0, 0, 0, 0, 0, 0, 0] :=
  ⟨⟨by decide, by decide, by decide, rfl, tameL (by decide), tameL (by decide), tameL (by decide)⟩, by decide, by decide, fun z => nomatch z⟩
section
variable {P : Program} {w : World} {K : PySem.W.Frag} {mg : Str → Option Value} {base : Heap} {A : Ad} {XA : XAd}
theorem ok_law (T : CT K mg A) (TT : TB K w mg A) (XE : XET K mg A XA) (D : DT K mg A) {f : Addr} {fd : FuncData} (F : Fun K "law" "law" s_law f fd) : FnOk P w K mg base CX0 30 f fd ["_law_script"] (sp_law K) := by
  have G_law_row : COk P w K mg base CX0 1 "_law_row" ["_law_script"] (sp_law_row K) := COk.by D.law_row fun f fd F => ok_law_row F
  have G_law_taken : COk P w K mg base CX0 1 "_law_taken" ["_law_row_here", "_law_many"] (sp_law_taken K) := COk.by D.law_taken fun f fd F => ok_law_taken F T.toBT
  have G_law_signed : COk P w K mg base CX0 2 "_law_signed" ["_law_row_here", "_law_most"] (sp_law_signed K) := COk.by D.law_signed fun f fd F => ok_law_signed F G_law_taken
  have G_law_bad := ok_law_bad (P := P) (w := w) (base := base) T D G_law_taken
  have G_law_around := ok_law_around (P := P) (w := w) (base := base) T D G_law_taken
  have G_law_refused := ok_law_refused (P := P) (w := w) (base := base) T TT XE D
  refine F.ok (k := 29) sc_law (fun vs H Q E h => ?_) (fun cdv Ar outer s H vs Q E hr h => ?_)
  · obtain ⟨a, ns, rfl, _⟩ := h
    rfl
  · obtain ⟨a, ns, rfl, hS, hlen, k⟩ := h
    refine ⟨_, (pss_cons (ps_set (i := 1) sc_law.nd rfl (Or.inl rfl) (pe_c G_law_row (hr.mono (by first | decide | omega)) (pa_cons (pv 0) pa_nil)))
    (pss_cons (ps_set (i := 2) sc_law.nd rfl (Or.inl rfl) (pe_c G_law_around (hr.mono (by first | decide | omega)) (pa_cons (pv 1) (pa_cons (pe_c G_law_bad (hr.mono (by first | decide | omega)) (pa_cons (pv 1) pa_nil)) (pa_cons (pe_c G_law_taken (hr.mono (by first | decide | omega)) (pa_cons (pv 1) (pa_cons pe_int pa_nil))) pa_nil)))))
    (pss_cons (ps_for PassesOwn.never rfl (pi_range1 rfl T.b_range (pa_cons pe_int pa_nil)) (pg_name (i := 3) sc_law.nd rfl (Or.inl rfl))
      (pss_one (ps_if (pt_not (pt_val (pe_c G_law_refused (hr.mono (by first | decide | omega)) (pa_cons (pv 3) (pa_cons (pv 2) pa_nil)))))
      (pss_one (ps_ret pe_bl)) pss_nil)))
    (pss_cons (ps_set (i := 4) sc_law.nd rfl (Or.inl rfl) (pe_c G_law_signed (hr.mono (by first | decide | omega)) (pa_cons (pv 1) (pa_cons (pe_powc (v := 1000000000000) (by decide) ⟨by decide, by decide, by decide⟩) pa_nil))))
    (pss_cons (ps_set (i := 5) sc_law.nd rfl (Or.inl rfl) (pe_lst (pa_cons (pe_tup (pa_cons pe_str (pa_cons (pv 4) (pa_cons (pe_powc (v := 1000000000000) (by decide) ⟨by decide, by decide, by decide⟩) pa_nil)))) (pa_cons (pe_tup (pa_cons pe_str (pa_cons (pe_op op_sub pe_int (pv 4)) (pa_cons (pe_callB call_abs (by rfl) T.b_abs (by decide +kernel) (pa_cons (pv 4) pa_nil)) (pa_cons (pe_un un_neg pe_int) pa_nil))))) (pa_cons (pe_tup (pa_cons pe_str (pa_cons (pe_tup (pa_cons (pv 4) (pa_cons pe_int (pa_cons pe_int pa_nil)))) (pa_cons (pe_tup pa_nil) (pa_cons (pe_tup pa_nil) pa_nil))))) pa_nil)))))
    (pss_cons (ps_set (i := 5) sc_law.nd rfl (Or.inl rfl) (pe_op op_cat (pv 5) (pe_lst (pa_cons (pe_tup (pa_cons pe_str (pa_cons (pe_tup (pa_cons (pv 4) pa_nil)) (pa_cons (pe_tup pa_nil) (pa_cons (pe_tup pa_nil) pa_nil))))) (pa_cons (pe_tup (pa_cons pe_str (pa_cons (pe_op op_repT (pe_tup (pa_cons pe_int pa_nil)) pe_int) (pa_cons (pe_op op_repT (pe_tup (pa_cons pe_int pa_nil)) pe_int) (pa_cons (pe_op op_repT (pe_tup (pa_cons pe_int pa_nil)) pe_int) pa_nil))))) pa_nil)))))
    (pss_cons (ps_for PassesOwn.never rfl (pi_list (pv 5)) (pg_name (i := 6) sc_law.nd rfl (Or.inl rfl))
      (pss_one (ps_if (pt_val (pe_c G_law_refused (hr.mono (by first | decide | omega)) (pa_cons pe_int (pa_cons (pe_c G_law_around (hr.mono (by first | decide | omega)) (pa_cons (pv 1) (pa_cons (pv 6) (pa_cons pe_int pa_nil)))) pa_nil))))
      (pss_one (ps_ret pe_bl)) pss_nil)))
    (pss_one (ps_ret pe_bl))))))))), ?_⟩
    have w4 : (4 : Int) < 2 ^ 8000 := by decide +kernel
    refine ⟨_, rfl, a, ns, rfl, hS, hlen, fun r H1 nr s1 R1 => ?_⟩
    refine ⟨_, rfl, _, rfl, r, a, ns, rfl, R1, fun v t H2 ht nf R2 => ?_⟩
    refine ⟨_, rfl, r, a, ns, _, rfl, R2, by decide, w4, fun m0 H3 m1 m2 R3 kp3 => ?_⟩
    obtain ⟨n, rfl⟩ := Int.eq_ofNat_of_zero_le m1
    refine ⟨r, a, ns, v, t, n, rfl, R3, ht.row R2 kp3, by omega, fun v' t' H4 ht' rd R4 kp4 => ?_⟩
    have nf' := rd.bad nf
    refine ⟨5, rfl, by decide, by decide, for_range (lo := 0) (n := 5) (fun i σ H' => ∃ v3 : Option V, σ = [some (.ref a), some (.ref r), some (.ref v'), v3, none, none, none] ∧ Same H4 H') ⟨none, rfl, Same.refl _⟩ ?_ ?_⟩
    · rintro i σ H' hi ⟨v3, rfl, sH⟩
      refine ⟨_, rfl, _, rfl, i, v', t', (by rw [show (0 : Int) + (i : Int) = (i : Int) from Int.zero_add _]; rfl), hi, ht'.same sH, (fun _ H5 s5 => ⟨_, rfl, iteF ⟨_, rfl, sH.trans s5⟩⟩), fun f => absurd f nf'⟩
    rintro σ H5 ⟨v3, rfl, s5⟩
    have R5 := R4.same s5
    refine ⟨_, rfl, r, a, ns, 1000000000000, rfl, R5, by decide, by decide, fun top H6 t1 t2 R6 kp6 => ?_⟩
    have tt : tame top := ⟨t1, t2⟩
    have tn : tame (0 - top) := ⟨by omega, by omega⟩
    have abs_ : (if top < 0 then -top else top) = (top.natAbs : Int) := by split <;> omega
    -- the good ones
    refine ⟨_, rfl, (by show 3 ≤ sizeLine; decide), fun p1 np1 => ?_⟩
    have u1 := same_upd (o := .tup [V.str "fraction", .int top, .int 1000000000000]) np1
    have g1 : Leaf.At K _ p1 (.frac top 1000000000000) := SqT.of (upd_at u1)
    generalize upd H6 p1 _ = H7 at *
    refine ⟨_, rfl, _, _, rfl, rfl, _, rfl, _, rfl, _, rfl, (by show 4 ≤ sizeLine; decide), fun p2 np2 => ?_⟩
    have u2 := same_upd (o := .tup [V.str "root", .int (0 - top), .int (if top < 0 then -top else top), .int (-3)]) np2
    have g2 : Leaf.At K _ p2 (.root (0 - top) (if top < 0 then -top else top) (-3)) := SqT.of (upd_at u2)
    have g1 := g1.same u2
    generalize upd H7 p2 _ = H8 at *
    refine ⟨_, rfl, (by show 3 ≤ sizeLine; decide), fun p3 np3 => ⟨(by show 0 ≤ sizeLine; decide), fun p4 np4 => ⟨(by show 0 ≤ sizeLine; decide), fun p5 np5 => ⟨(by show 4 ≤ sizeLine; decide), fun p6 np6 => ?_⟩⟩⟩⟩
    have u3 := same_upd (o := .tup [V.int top, .int 1, .int 2]) np3
    have u4 := same_upd (o := .tup []) np4
    have u5 := same_upd (o := .tup []) np5
    have u6 := same_upd (o := .tup [V.str "ruled", .ref p3, .ref p4, .ref p5]) np6
    have g3 : Leaf.At K _ p6 (.ruled [top, 1, 2] [] []) := ⟨p3, p4, p5, SqT.of (upd_at u6), sqT_same (SqT.of (upd_at u3)) (u4.trans (u5.trans u6)), sqT_same (SqT.of (upd_at u4)) (u5.trans u6), sqT_same (SqT.of (upd_at u5)) u6⟩
    have uu := u3.trans (u4.trans (u5.trans u6))
    have g1 := g1.same uu
    have g2 := g2.same uu
    have sA := (u1.trans u2).trans uu
    generalize upd (upd (upd (upd H8 p3 _) p4 _) p5 _) p6 _ = H9 at *
    refine ⟨(by show 3 ≤ sizeLine; decide), fun l1 nl1 => ?_⟩
    have u7 := same_upd (o := .lst [V.ref p1, .ref p2, .ref p6]) nl1
    have hl1 := upd_at u7
    have g1 := g1.same u7
    have g2 := g2.same u7
    have g3 := g3.same u7
    have sA := sA.trans u7
    generalize upd H9 l1 _ = H10 at *
    refine ⟨_, rfl, _, rfl, (by show 1 ≤ sizeLine; decide), fun p7 np7 => ⟨(by show 0 ≤ sizeLine; decide), fun p8 np8 => ⟨(by show 0 ≤ sizeLine; decide), fun p9 np9 => ⟨(by show 4 ≤ sizeLine; decide), fun p10 np10 => ?_⟩⟩⟩⟩
    have y1 := same_upd (o := .tup [V.int top]) np7
    have y2 := same_upd (o := .tup []) np8
    have y3 := same_upd (o := .tup []) np9
    have y4 := same_upd (o := .tup [V.str "ruled", .ref p7, .ref p8, .ref p9]) np10
    have g4 : Leaf.At K _ p10 (.ruled [top] [] []) := ⟨p7, p8, p9, SqT.of (upd_at y4), sqT_same (SqT.of (upd_at y1)) (y2.trans (y3.trans y4)), sqT_same (SqT.of (upd_at y2)) (y3.trans y4), sqT_same (SqT.of (upd_at y3)) y4⟩
    have yy := y1.trans (y2.trans (y3.trans y4))
    have g1 := g1.same yy
    have g2 := g2.same yy
    have g3 := g3.same yy
    have hl1 := yy _ _ hl1
    have sA := sA.trans yy
    generalize upd (upd (upd (upd H10 p7 _) p8 _) p9 _) p10 _ = H11 at *
    refine ⟨(by show 1 ≤ sizeLine; decide), fun p11 np11 => ?_⟩
    have x1 := same_upd (o := .tup [V.int 1]) np11
    have hx1 : SqT K _ p11 [V.int 1] := SqT.of (upd_at x1)
    generalize upd H11 p11 _ = H12 at *
    refine ⟨p11, _, _, rfl, rfl, hx1, (fun z => nomatch z), by decide, by decide, (by show 1 ≤ 1000; decide), fun p12 np12 => ?_⟩
    have x2 := same_upd (o := .tup (List.replicate (12 : Int).toNat [V.int 1]).flatten) np12
    have hx2 : SqT K (upd H12 p12 (.tup (List.replicate (12 : Int).toNat [V.int 1]).flatten)) p12 (([1, 1, 1, 1, 1, 1, 1, 1, 1, 1, 1, 1] : List Int).map V.int) := SqT.of (upd_at x2)
    generalize upd H12 p12 _ = H13 at *
    refine ⟨(by show 1 ≤ sizeLine; decide), fun p13 np13 => ?_⟩
    have x3 := same_upd (o := .tup [V.int 1]) np13
    have hx3 : SqT K _ p13 [V.int 1] := SqT.of (upd_at x3)
    have hx2 := sqT_same hx2 x3
    generalize upd H13 p13 _ = H14 at *
    refine ⟨p13, _, _, rfl, rfl, hx3, (fun z => nomatch z), by decide, by decide, (by show 1 ≤ 1000; decide), fun p14 np14 => ?_⟩
    have x4 := same_upd (o := .tup (List.replicate (12 : Int).toNat [V.int 1]).flatten) np14
    have hx4 : SqT K (upd H14 p14 (.tup (List.replicate (12 : Int).toNat [V.int 1]).flatten)) p14 (([1, 1, 1, 1, 1, 1, 1, 1, 1, 1, 1, 1] : List Int).map V.int) := SqT.of (upd_at x4)
    have hx2 := sqT_same hx2 x4
    generalize upd H14 p14 _ = H15 at *
    refine ⟨(by show 1 ≤ sizeLine; decide), fun p15 np15 => ?_⟩
    have x5 := same_upd (o := .tup [V.int 0]) np15
    have hx5 : SqT K _ p15 [V.int 0] := SqT.of (upd_at x5)
    have hx2 := sqT_same hx2 x5
    have hx4 := sqT_same hx4 x5
    generalize upd H15 p15 _ = H16 at *
    refine ⟨p15, _, _, rfl, rfl, hx5, (fun z => nomatch z), by decide, by decide, (by show 1 ≤ 1000; decide), fun p16 np16 => ?_⟩
    have x6 := same_upd (o := .tup (List.replicate (12 : Int).toNat [V.int 0]).flatten) np16
    have hx6 : SqT K (upd H16 p16 (.tup (List.replicate (12 : Int).toNat [V.int 0]).flatten)) p16 (([0, 0, 0, 0, 0, 0, 0, 0, 0, 0, 0, 0] : List Int).map V.int) := SqT.of (upd_at x6)
    have hx2 := sqT_same hx2 x6
    have hx4 := sqT_same hx4 x6
    generalize upd H16 p16 _ = H17 at *
    refine ⟨(by show 4 ≤ sizeLine; decide), fun p17 np17 => ?_⟩
    have x7 := same_upd (o := .tup [V.str "ruled", .ref p12, .ref p14, .ref p16]) np17
    have g5 : Leaf.At K _ p17 (.ruled [1, 1, 1, 1, 1, 1, 1, 1, 1, 1, 1, 1] [1, 1, 1, 1, 1, 1, 1, 1, 1, 1, 1, 1] [0, 0, 0, 0, 0, 0, 0, 0, 0, 0, 0, 0]) := ⟨p12, p14, p16, SqT.of (upd_at x7), sqT_same hx2 x7, sqT_same hx4 x7, sqT_same hx6 x7⟩
    have xx := x1.trans (x2.trans (x3.trans (x4.trans (x5.trans (x6.trans x7)))))
    have g1 := g1.same xx
    have g2 := g2.same xx
    have g3 := g3.same xx
    have g4 := g4.same xx
    have hl1 := xx _ _ hl1
    have sA := sA.trans xx
    generalize upd H17 p17 _ = H18 at *
    refine ⟨(by show 2 ≤ sizeLine; decide), fun l2 nl2 => ?_⟩
    have e1 := same_upd (o := .lst [V.ref p10, .ref p17]) nl2
    have hl2 := upd_at e1
    have hl1 := e1 _ _ hl1
    refine ⟨l1, l2, _, _, rfl, rfl, hl1, hl2, (by show 3 + 2 ≤ sizeLine; decide), fun l3 nl3 => ?_⟩
    have e2 := same_upd (o := .lst ([V.ref p1, .ref p2, .ref p6] ++ [V.ref p10, .ref p17])) nl3
    have hl3 : (upd (upd H18 l2 (.lst [V.ref p10, .ref p17])) l3 (.lst ([V.ref p1, .ref p2, .ref p6] ++ [V.ref p10, .ref p17]))) l3 = some (HO.lst [V.ref p1, .ref p2, .ref p6, .ref p10, .ref p17]) := upd_at e2
    have ee := e1.trans e2
    have sA := sA.trans ee
    have R7 := R6.same sA
    have last3 : RuledGood [top, 1, 2] [] [] := ⟨⟨by simp, (by show 3 ≤ 12; decide), by decide, rfl, (fun z hz => by
      simp only [List.mem_cons, List.not_mem_nil, or_false] at hz
      rcases hz with rfl | rfl | rfl
      · exact tt
      · exact ⟨by decide, by decide⟩
      · exact ⟨by decide, by decide⟩), (fun z hz => by cases hz), (fun z hz => by cases hz)⟩, (fun z hz => by
      have hz : z ∈ [(1 : Int), 2] := by simpa using hz
      simp only [List.mem_cons, List.not_mem_nil, or_false] at hz
      rcases hz with rfl | rfl <;> decide), (fun z hz => by cases hz), fun _ => .inr ⟨2, rfl, by decide⟩⟩
    have last1 : RuledGood [top] [] [] := ⟨⟨by simp, (by show 1 ≤ 12; decide), by decide, rfl, (fun z hz => by
      rw [List.mem_singleton] at hz
      subst hz
      exact tt), (fun z hz => by cases hz), (fun z hz => by cases hz)⟩, (fun z hz => by simp at hz), (fun z hz => by cases hz), fun _ => .inl rfl⟩
    have GS : Goods K _ [V.ref p1, .ref p2, .ref p6, .ref p10, .ref p17] := fun x hx => by
      simp only [List.mem_cons, List.not_mem_nil, or_false] at hx
      rcases hx with h | h | h | h | h
      · exact ⟨p1, _, h, g1.same ee, tt, ⟨by decide, by decide⟩, by decide⟩
      · refine ⟨p2, _, h, g2.same ee, tn, ?_, ?_, ⟨by decide, by decide⟩, by decide⟩
        · rw [abs_]; exact ⟨by omega, by omega⟩
        · rw [abs_]; omega
      · exact ⟨p6, _, h, g3.same ee, last3⟩
      · exact ⟨p10, _, h, g4.same ee, last1⟩
      · exact ⟨p17, _, h, g5.same ee, ones12⟩
    have nl3r : l3 ≠ r := by
      obtain ⟨x, xs, e⟩ := (R6.same (sA.trans (Same.refl _))).at_
      exact ne_of hl3 e (by intro z; have := congrArg (fun o => match o with | HO.lst ys => ys.length | _ => 0) z; revert this; obtain ⟨⟨i, l, mx, e', _⟩, _⟩ := R7; rw [e'] at e; cases e; intro y; cases y)
    generalize upd (upd H18 l2 _) l3 _ = H19 at *
    refine ⟨_, rfl, l3, rfl, ⟨_, SqL.of hl3⟩, for_list (K := K) (a := l3) (xs := [V.ref p1, .ref p2, .ref p6, .ref p10, .ref p17]) (fun i σ H' => ∃ v6 : Option V, σ = [some (.ref a), some (.ref r), some (.ref v'), v3, some (.int top), some (.ref l3), v6] ∧ RowAt K H' r a ns ∧ KpR r H19 H' ∧ H' l3 = some (.lst [V.ref p1, .ref p2, .ref p6, .ref p10, .ref p17]))
      ⟨none, rfl, R7, fun _ _ e _ => e, hl3⟩ (fun i σ H' _ z => by obtain ⟨_, _, _, _, h⟩ := z; exact SqL.of h) ?_ ?_⟩
    · rintro i x σ H' hx ⟨v6, rfl, R', kp', hl'⟩
      obtain ⟨pa, f, rfl, hAt, hG⟩ := GS x (List.mem_of_getElem? hx)
      have hAt' : Tree.At K H' (.leaf f) pa := Tree.At.row (t := .leaf f) hAt R7 kp'
      refine ⟨_, rfl, _, rfl, r, a, ns, pa, .leaf f, 4, rfl, R', hAt', by decide, fun v'' t'' H5 ht'' rd R5' kp5 => ?_⟩
      have fine : t''.Fine := ⟨rd.1.mpr hG, by have := rd.2.2; show t''.ht ≤ 4; exact this⟩
      refine ⟨0, v'', t'', rfl, by decide, ht'', (fun nf => absurd fine nf), fun _ => ⟨rfl, fun H6 s6 => ⟨_, rfl, iteF ?_⟩⟩⟩
      exact ⟨_, rfl, R5'.same s6, kp'.trans (kp5.trans (.same s6)), s6 _ _ (kp5 _ _ hl' nl3r)⟩
    · rintro σ H' ⟨v6, rfl, _⟩
      exact k _
end
theorem fun_ofD {K : PySem.W.Frag} {x qual : Str} {st : Stmt} {f : Addr} {fd : FuncData} (F : FunD K x qual (defArgs st) (defBody st) (defScope st) [] [] f fd) : Fun K x qual st f fd := by
  obtain ⟨⟨oc, od, dV, kV, doc, pm, an, cdv, ct, osl, rfl, lk, hcd, hd, hk⟩, kp⟩ := F
  rcases hd with ⟨_, rfl⟩ | ⟨z, _⟩
  · exact ⟨⟨oc, od, kV, doc, pm, an, cdv, ct, osl, rfl, lk, hcd⟩, kp⟩
  · exact absurd rfl z
def adOf (K : PySem.W.Frag) : Ad := ⟨He.ga K "Meter", He.ga K "FractionChain", He.ga K "RootChain", He.ga K "RuledChain", He.ga K "Leaf", He.ga K "FractionBox", He.ga K "FourBox", He.ga K "EightBox", He.ga K "Reading", He.ga K "END", He.ga K "WAITS", He.ga K "TIMES", He.ga K "LENGTHS", He.ga K "CHECKS", He.ga K "BadTree", He.ga K "NoValue"⟩
section
variable {w : World} {K : PySem.W.Frag} {h : Heap} {mg : Str → Option Value}
theorem ct_of (X : K.In h) (G : h.Ns mainGlobals mg) (c : He.SaysX faL fnL tsL [] exL w h K) : CT K mg (adOf K) := by
  have d := c.t.d
  have ex : exL K = true := c.more
  obtain ⟨e0, ex⟩ := He.ba ex
  obtain ⟨e1, ex⟩ := He.ba ex
  obtain ⟨e2, ex⟩ := He.ba ex
  obtain ⟨e3, ex⟩ := He.ba ex
  obtain ⟨e4, ex⟩ := He.ba ex
  have e5 := ex
  exact {
    b_len := He.free_ok X G (d.fact 0 (f := .free "len") (by rfl)),
    b_isinstance := He.free_ok X G (d.fact 1 (f := .free "isinstance") (by rfl)),
    b_range := He.free_ok X G (d.fact 2 (f := .free "range") (by rfl)),
    b_zip := He.free_ok X G (d.fact 3 (f := .free "zip") (by rfl)),
    b_abs := He.free_ok X G (d.fact 4 (f := .free "abs") (by rfl)),
    b_divmod := He.free_ok X G (d.fact 5 (f := .free "divmod") (by rfl)),
    b_min := He.free_ok X G (d.fact 6 (f := .free "min") (by rfl)),
    b_all := He.free_ok X G (d.fact 7 (f := .free "all") (by rfl)),
    b_any := He.free_ok X G (d.fact 8 (f := .free "any") (by rfl)),
    b_list := He.free_ok X G (d.fact 9 (f := .free "list") (by rfl)),
    b_tuple := He.free_ok X G (d.fact 10 (f := .free "tuple") (by rfl)),
    b_str := He.free_ok X G (d.fact 11 (f := .free "str") (by rfl)),
    b_int := He.free_ok X G (d.fact 12 (f := .free "int") (by rfl)),
    b_bool := He.free_ok X G (d.fact 13 (f := .free "bool") (by rfl)),
    b_sum := He.free_ok X G (d.fact 14 (f := .free "sum") (by rfl)),
    b_max := He.free_ok X G (d.fact 15 (f := .free "max") (by rfl)),
    cl_Meter := He.cls_ok (d.fact 29 (f := .cls "Meter") (by rfl)),
    n_Meter_left := He.noat_ok (d.fact 33 (f := .noat "Meter" "left") (by rfl)),
    n_Meter_spent := He.noat_ok (d.fact 34 (f := .noat "Meter" "spent") (by rfl)),
    g_Meter := He.glo_ok X G (d.fact 28 (f := .glo "Meter") (by rfl)),
    cl_FractionChain := He.cls_ok (d.fact 36 (f := .cls "FractionChain") (by rfl)),
    n_FractionChain_top := He.noat_ok (d.fact 40 (f := .noat "FractionChain" "top") (by rfl)),
    n_FractionChain_below := He.noat_ok (d.fact 41 (f := .noat "FractionChain" "below") (by rfl)),
    g_FractionChain := He.glo_ok X G (d.fact 35 (f := .glo "FractionChain") (by rfl)),
    cl_RootChain := He.cls_ok (d.fact 43 (f := .cls "RootChain") (by rfl)),
    n_RootChain_top := He.noat_ok (d.fact 48 (f := .noat "RootChain" "top") (by rfl)),
    n_RootChain_square := He.noat_ok (d.fact 49 (f := .noat "RootChain" "square") (by rfl)),
    n_RootChain_below := He.noat_ok (d.fact 50 (f := .noat "RootChain" "below") (by rfl)),
    n_RootChain_root := He.noat_ok (d.fact 51 (f := .noat "RootChain" "root") (by rfl)),
    g_RootChain := He.glo_ok X G (d.fact 42 (f := .glo "RootChain") (by rfl)),
    cl_RuledChain := He.cls_ok (d.fact 53 (f := .cls "RuledChain") (by rfl)),
    n_RuledChain_parts := He.noat_ok (d.fact 57 (f := .noat "RuledChain" "parts") (by rfl)),
    n_RuledChain_ring := He.noat_ok (d.fact 58 (f := .noat "RuledChain" "ring") (by rfl)),
    n_RuledChain_steps := He.noat_ok (d.fact 59 (f := .noat "RuledChain" "steps") (by rfl)),
    n_RuledChain_at := He.noat_ok (d.fact 60 (f := .noat "RuledChain" "at") (by rfl)),
    g_RuledChain := He.glo_ok X G (d.fact 52 (f := .glo "RuledChain") (by rfl)),
    cl_Leaf := He.cls_ok (d.fact 62 (f := .cls "Leaf") (by rfl)),
    n_Leaf_chain := He.noat_ok (d.fact 65 (f := .noat "Leaf" "chain") (by rfl)),
    g_Leaf := He.glo_ok X G (d.fact 61 (f := .glo "Leaf") (by rfl)),
    cl_FractionBox := He.cls_ok (d.fact 69 (f := .cls "FractionBox") (by rfl)),
    n_FractionBox_top := He.noat_ok (d.fact 73 (f := .noat "FractionBox" "top") (by rfl)),
    n_FractionBox_below := He.noat_ok (d.fact 74 (f := .noat "FractionBox" "below") (by rfl)),
    n_FractionBox_told := He.noat_ok (d.fact 75 (f := .noat "FractionBox" "told") (by rfl)),
    g_FractionBox := He.glo_ok X G (d.fact 68 (f := .glo "FractionBox") (by rfl)),
    cl_FourBox := He.cls_ok (d.fact 77 (f := .cls "FourBox") (by rfl)),
    n_FourBox_numbers := He.noat_ok (d.fact 82 (f := .noat "FourBox" "numbers") (by rfl)),
    n_FourBox_tree := He.noat_ok (d.fact 83 (f := .noat "FourBox" "tree") (by rfl)),
    n_FourBox_started := He.noat_ok (d.fact 84 (f := .noat "FourBox" "started") (by rfl)),
    n_FourBox_told := He.noat_ok (d.fact 85 (f := .noat "FourBox" "told") (by rfl)),
    n_FourBox_rest := He.noat_ok (d.fact 86 (f := .noat "FourBox" "rest") (by rfl)),
    g_FourBox := He.glo_ok X G (d.fact 76 (f := .glo "FourBox") (by rfl)),
    cl_EightBox := He.cls_ok (d.fact 88 (f := .cls "EightBox") (by rfl)),
    n_EightBox_numbers := He.noat_ok (d.fact 94 (f := .noat "EightBox" "numbers") (by rfl)),
    n_EightBox_trees := He.noat_ok (d.fact 95 (f := .noat "EightBox" "trees") (by rfl)),
    n_EightBox_taken := He.noat_ok (d.fact 96 (f := .noat "EightBox" "taken") (by rfl)),
    n_EightBox_told := He.noat_ok (d.fact 97 (f := .noat "EightBox" "told") (by rfl)),
    n_EightBox_rest := He.noat_ok (d.fact 98 (f := .noat "EightBox" "rest") (by rfl)),
    g_EightBox := He.glo_ok X G (d.fact 87 (f := .glo "EightBox") (by rfl)),
    cl_Reading := He.cls_ok (d.fact 126 (f := .cls "Reading") (by rfl)),
    n_Reading_box := He.noat_ok (d.fact 130 (f := .noat "Reading" "box") (by rfl)),
    n_Reading_meter := He.noat_ok (d.fact 131 (f := .noat "Reading" "meter") (by rfl)),
    g_Reading := He.glo_ok X G (d.fact 125 (f := .glo "Reading") (by rfl)),
    g_END := He.glo_ok X G (d.fact 26 (f := .glo "END") (by rfl)),
    t_END := fun H => He.tupB_ok e0 H,
    g_WAITS := He.glo_ok X G (d.fact 27 (f := .glo "WAITS") (by rfl)),
    t_WAITS := fun H => He.tupB_ok e1 H,
    g_TIMES := He.glo_ok X G (d.fact 124 (f := .glo "TIMES") (by rfl)),
    t_TIMES := fun H => He.tupB_ok e4 H,
    i_MOST_NUMBER := He.int_ok X G (d.fact 106 (f := .int "MOST_NUMBER" 1000000000000) (by rfl)),
    i_MOST_DEPTH := He.int_ok X G (d.fact 107 (f := .int "MOST_DEPTH" 5) (by rfl)),
    i_MOST_PARTS := He.int_ok X G (d.fact 108 (f := .int "MOST_PARTS" 12) (by rfl)),
    i_MOST_POWER := He.int_ok X G (d.fact 109 (f := .int "MOST_POWER" 4) (by rfl)),
    g_LENGTHS := He.glo_ok X G (d.fact 122 (f := .glo "LENGTHS") (by rfl)),
    g_CHECKS := He.glo_ok X G (d.fact 123 (f := .glo "CHECKS") (by rfl)),
    x_BadTree := ⟨He.glo_ok X G (d.fact 22 (f := .glo "BadTree") (by rfl)), (He.exc_ok (d.fact 16 (f := .exc "BadTree") (by rfl))).1, (He.exc_ok (d.fact 16 (f := .exc "BadTree") (by rfl))).2.1, (He.exc_ok (d.fact 16 (f := .exc "BadTree") (by rfl))).2.2.1, (He.exc_ok (d.fact 16 (f := .exc "BadTree") (by rfl))).2.2.2⟩,
    x_NoValue := ⟨He.glo_ok X G (d.fact 23 (f := .glo "NoValue") (by rfl)), (He.exc_ok (d.fact 17 (f := .exc "NoValue") (by rfl))).1, (He.exc_ok (d.fact 17 (f := .exc "NoValue") (by rfl))).2.1, (He.exc_ok (d.fact 17 (f := .exc "NoValue") (by rfl))).2.2.1, (He.exc_ok (d.fact 17 (f := .exc "NoValue") (by rfl))).2.2.2⟩ }
theorem tb_of (X : K.In h) (G : h.Ns mainGlobals mg) (c : He.SaysX faL fnL tsL [] exL w h K) : TB K w mg (adOf K) := by
  have d := c.t.d
  have ex : exL K = true := c.more
  obtain ⟨e0, ex⟩ := He.ba ex
  obtain ⟨e1, ex⟩ := He.ba ex
  obtain ⟨e2, ex⟩ := He.ba ex
  obtain ⟨e3, ex⟩ := He.ba ex
  obtain ⟨e4, ex⟩ := He.ba ex
  have e5 := ex
  refine ⟨c.t.tab 0 (t := (fun K => He.ga K "LENGTHS", ["fraction", "root", "ruled", "four", "eight", "power"])) (by rfl), c.t.tab 1 (t := (fun K => He.ga K "CHECKS", ["fraction", "root", "ruled", "four", "eight", "power"])) (by rfl), fun x n hm => ?_, fun x y f hm hf => ?_⟩
  · simp only [List.mem_cons, Prod.mk.injEq, List.not_mem_nil, or_false] at hm
    rcases hm with ⟨rfl, rfl⟩ | ⟨rfl, rfl⟩ | ⟨rfl, rfl⟩ | ⟨rfl, rfl⟩ | ⟨rfl, rfl⟩ | ⟨rfl, rfl⟩
    · obtain ⟨u, e, t, rfl⟩ := He.valsB_ok e2 (q := ("fraction", .int 3)) (by simp)
      exact ⟨t, e⟩
    · obtain ⟨u, e, t, rfl⟩ := He.valsB_ok e2 (q := ("root", .int 4)) (by simp)
      exact ⟨t, e⟩
    · obtain ⟨u, e, t, rfl⟩ := He.valsB_ok e2 (q := ("ruled", .int 4)) (by simp)
      exact ⟨t, e⟩
    · obtain ⟨u, e, t, rfl⟩ := He.valsB_ok e2 (q := ("four", .int 3)) (by simp)
      exact ⟨t, e⟩
    · obtain ⟨u, e, t, rfl⟩ := He.valsB_ok e2 (q := ("eight", .int 4)) (by simp)
      exact ⟨t, e⟩
    · obtain ⟨u, e, t, rfl⟩ := He.valsB_ok e2 (q := ("power", .int 3)) (by simp)
      exact ⟨t, e⟩
  · simp only [List.mem_cons, Prod.mk.injEq, List.not_mem_nil, or_false] at hm
    rcases hm with ⟨rfl, rfl⟩ | ⟨rfl, rfl⟩ | ⟨rfl, rfl⟩ | ⟨rfl, rfl⟩ | ⟨rfl, rfl⟩ | ⟨rfl, rfl⟩
    · obtain ⟨u, e, r⟩ := He.valsB_ok e3 (q := ("fraction", .glo "check_fraction")) (by simp)
      have g := (He.glo_ok X G (d.fact 115 (f := .glo "check_fraction") (by rfl))).symm.trans hf
      cases g
      cases r
      exact e
    · obtain ⟨u, e, r⟩ := He.valsB_ok e3 (q := ("root", .glo "check_root")) (by simp)
      have g := (He.glo_ok X G (d.fact 116 (f := .glo "check_root") (by rfl))).symm.trans hf
      cases g
      cases r
      exact e
    · obtain ⟨u, e, r⟩ := He.valsB_ok e3 (q := ("ruled", .glo "check_ruled")) (by simp)
      have g := (He.glo_ok X G (d.fact 117 (f := .glo "check_ruled") (by rfl))).symm.trans hf
      cases g
      cases r
      exact e
    · obtain ⟨u, e, r⟩ := He.valsB_ok e3 (q := ("four", .glo "check_four")) (by simp)
      have g := (He.glo_ok X G (d.fact 118 (f := .glo "check_four") (by rfl))).symm.trans hf
      cases g
      cases r
      exact e
    · obtain ⟨u, e, r⟩ := He.valsB_ok e3 (q := ("eight", .glo "check_eight")) (by simp)
      have g := (He.glo_ok X G (d.fact 119 (f := .glo "check_eight") (by rfl))).symm.trans hf
      cases g
      cases r
      exact e
    · obtain ⟨u, e, r⟩ := He.valsB_ok e3 (q := ("power", .glo "check_power")) (by simp)
      have g := (He.glo_ok X G (d.fact 121 (f := .glo "check_power") (by rfl))).symm.trans hf
      cases g
      cases r
      exact e
def xadOf (K : PySem.W.Frag) : XAd := ⟨He.ga K "PartError", He.ga K "TooLong"⟩
theorem xet_of (X : K.In h) (G : h.Ns mainGlobals mg) (c : He.SaysX faL fnL tsL [] exL w h K) : XET K mg (adOf K) (xadOf K) := by
  have d := c.t.d
  have ex : exL K = true := c.more
  obtain ⟨e0, ex⟩ := He.ba ex
  obtain ⟨e1, ex⟩ := He.ba ex
  obtain ⟨e2, ex⟩ := He.ba ex
  obtain ⟨e3, ex⟩ := He.ba ex
  obtain ⟨e4, ex⟩ := He.ba ex
  have e5 := ex
  obtain ⟨x1, z⟩ := He.ba e5
  obtain ⟨x2, z⟩ := He.ba z
  obtain ⟨x3, x4⟩ := He.ba z
  exact ⟨He.glo_ok X G (d.fact 21 (f := .glo "PartError") (by rfl)), He.glo_ok X G (d.fact 24 (f := .glo "TooLong") (by rfl)), He.free_ok X G (d.fact 18 (f := .free "ValueError") (by rfl)), excC_of x1, He.exm_ok (d.fact 19 (f := .exm "BadTree" "PartError" true) (by rfl)), of_decide_eq_true x2, of_decide_eq_true x3, of_decide_eq_true x4⟩
theorem dt_of (X : K.In h) (G : h.Ns mainGlobals mg) (c : He.SaysX faL fnL tsL [] exL w h K) : DT K mg (adOf K) := by
  have d := c.t.d
  exact {
    wall := by
      obtain ⟨fd, F0⟩ := d.def_ 0 (d := d_wall) (by rfl)
      have F := fun_ofD (st := s_wall) F0
      exact ⟨_, fd, F, He.glo_ok X G (d.fact 20 (f := .glo "_wall") (by rfl)), (F.binds (ps := ["k"]) fun _ _ _ _ _ _ us hl => match us, hl with | [_], _ => rfl)⟩
    root_below := by
      obtain ⟨fd, F0⟩ := d.def_ 1 (d := d_root_below) (by rfl)
      have F := fun_ofD (st := s_root_below) F0
      exact ⟨_, fd, F, He.glo_ok X G (d.fact 25 (f := .glo "root_below") (by rfl)), (F.binds (ps := ["number"]) fun _ _ _ _ _ _ us hl => match us, hl with | [_], _ => rfl)⟩
    Meter_init := by
      obtain ⟨fd, F0⟩ := d.def_ 2 (d := d_Meter_init) (by rfl)
      have F := fun_ofD (st := s_Meter_init) F0
      exact ⟨_, fd, F, He.mkr_ok (d.fact 30 (f := .mkr "Meter") (by rfl)), (F.binds (ps := ["self"]) fun _ _ _ _ _ _ us hl => match us, hl with | [_], _ => rfl)⟩
    Meter_allow := by
      obtain ⟨fd, F0⟩ := d.def_ 3 (d := d_Meter_allow) (by rfl)
      have F := fun_ofD (st := s_Meter_allow) F0
      exact ⟨_, fd, F, He.meth_ok (d.fact 31 (f := .meth "Meter" "allow") (by rfl)), (F.binds (ps := ["self", "most"]) fun _ _ _ _ _ _ us hl => match us, hl with | [_, _], _ => rfl)⟩
    Meter_pay := by
      obtain ⟨fd, F0⟩ := d.def_ 4 (d := d_Meter_pay) (by rfl)
      have F := fun_ofD (st := s_Meter_pay) F0
      exact ⟨_, fd, F, He.meth_ok (d.fact 32 (f := .meth "Meter" "pay") (by rfl)), (F.binds (ps := ["self"]) fun _ _ _ _ _ _ us hl => match us, hl with | [_], _ => rfl)⟩
    FractionChain_init := by
      obtain ⟨fd, F0⟩ := d.def_ 5 (d := d_FractionChain_init) (by rfl)
      have F := fun_ofD (st := s_FractionChain_init) F0
      exact ⟨_, fd, F, He.mkr_ok (d.fact 37 (f := .mkr "FractionChain") (by rfl)), (F.binds (ps := ["self", "top", "below"]) fun _ _ _ _ _ _ us hl => match us, hl with | [_, _, _], _ => rfl)⟩
    FractionChain_has_ended := by
      obtain ⟨fd, F0⟩ := d.def_ 6 (d := d_FractionChain_has_ended) (by rfl)
      have F := fun_ofD (st := s_FractionChain_has_ended) F0
      exact ⟨_, fd, F, He.meth_ok (d.fact 38 (f := .meth "FractionChain" "has_ended") (by rfl)), (F.binds (ps := ["self"]) fun _ _ _ _ _ _ us hl => match us, hl with | [_], _ => rfl)⟩
    FractionChain_next_part := by
      obtain ⟨fd, F0⟩ := d.def_ 7 (d := d_FractionChain_next_part) (by rfl)
      have F := fun_ofD (st := s_FractionChain_next_part) F0
      exact ⟨_, fd, F, He.meth_ok (d.fact 39 (f := .meth "FractionChain" "next_part") (by rfl)), (F.binds (ps := ["self"]) fun _ _ _ _ _ _ us hl => match us, hl with | [_], _ => rfl)⟩
    RootChain_init := by
      obtain ⟨fd, F0⟩ := d.def_ 8 (d := d_RootChain_init) (by rfl)
      have F := fun_ofD (st := s_RootChain_init) F0
      exact ⟨_, fd, F, He.mkr_ok (d.fact 44 (f := .mkr "RootChain") (by rfl)), (F.binds (ps := ["self", "top", "square", "below"]) fun _ _ _ _ _ _ us hl => match us, hl with | [_, _, _, _], _ => rfl)⟩
    RootChain_has_ended := by
      obtain ⟨fd, F0⟩ := d.def_ 9 (d := d_RootChain_has_ended) (by rfl)
      have F := fun_ofD (st := s_RootChain_has_ended) F0
      exact ⟨_, fd, F, He.meth_ok (d.fact 45 (f := .meth "RootChain" "has_ended") (by rfl)), (F.binds (ps := ["self"]) fun _ _ _ _ _ _ us hl => match us, hl with | [_], _ => rfl)⟩
    RootChain_next_part := by
      obtain ⟨fd, F0⟩ := d.def_ 10 (d := d_RootChain_next_part) (by rfl)
      have F := fun_ofD (st := s_RootChain_next_part) F0
      exact ⟨_, fd, F, He.meth_ok (d.fact 46 (f := .meth "RootChain" "next_part") (by rfl)), (F.binds (ps := ["self"]) fun _ _ _ _ _ _ us hl => match us, hl with | [_], _ => rfl)⟩
    RootChain_what_is_left := by
      obtain ⟨fd, F0⟩ := d.def_ 11 (d := d_RootChain_what_is_left) (by rfl)
      have F := fun_ofD (st := s_RootChain_what_is_left) F0
      exact ⟨_, fd, F, He.meth_ok (d.fact 47 (f := .meth "RootChain" "what_is_left") (by rfl)), (F.binds (ps := ["self"]) fun _ _ _ _ _ _ us hl => match us, hl with | [_], _ => rfl)⟩
    RuledChain_init := by
      obtain ⟨fd, F0⟩ := d.def_ 12 (d := d_RuledChain_init) (by rfl)
      have F := fun_ofD (st := s_RuledChain_init) F0
      exact ⟨_, fd, F, He.mkr_ok (d.fact 54 (f := .mkr "RuledChain") (by rfl)), (F.binds (ps := ["self", "parts", "ring", "steps"]) fun _ _ _ _ _ _ us hl => match us, hl with | [_, _, _, _], _ => rfl)⟩
    RuledChain_has_ended := by
      obtain ⟨fd, F0⟩ := d.def_ 13 (d := d_RuledChain_has_ended) (by rfl)
      have F := fun_ofD (st := s_RuledChain_has_ended) F0
      exact ⟨_, fd, F, He.meth_ok (d.fact 55 (f := .meth "RuledChain" "has_ended") (by rfl)), (F.binds (ps := ["self"]) fun _ _ _ _ _ _ us hl => match us, hl with | [_], _ => rfl)⟩
    RuledChain_next_part := by
      obtain ⟨fd, F0⟩ := d.def_ 14 (d := d_RuledChain_next_part) (by rfl)
      have F := fun_ofD (st := s_RuledChain_next_part) F0
      exact ⟨_, fd, F, He.meth_ok (d.fact 56 (f := .meth "RuledChain" "next_part") (by rfl)), (F.binds (ps := ["self"]) fun _ _ _ _ _ _ us hl => match us, hl with | [_], _ => rfl)⟩
    Leaf_init := by
      obtain ⟨fd, F0⟩ := d.def_ 15 (d := d_Leaf_init) (by rfl)
      have F := fun_ofD (st := s_Leaf_init) F0
      exact ⟨_, fd, F, He.mkr_ok (d.fact 63 (f := .mkr "Leaf") (by rfl)), (F.binds (ps := ["self", "chain"]) fun _ _ _ _ _ _ us hl => match us, hl with | [_, _], _ => rfl)⟩
    Leaf_ask := by
      obtain ⟨fd, F0⟩ := d.def_ 16 (d := d_Leaf_ask) (by rfl)
      have F := fun_ofD (st := s_Leaf_ask) F0
      exact ⟨_, fd, F, He.meth_ok (d.fact 64 (f := .meth "Leaf" "ask") (by rfl)), (F.binds (ps := ["self", "meter"]) fun _ _ _ _ _ _ us hl => match us, hl with | [_, _], _ => rfl)⟩
    leaf_of := by
      obtain ⟨fd, F0⟩ := d.def_ 17 (d := d_leaf_of) (by rfl)
      have F := fun_ofD (st := s_leaf_of) F0
      exact ⟨_, fd, F, He.glo_ok X G (d.fact 66 (f := .glo "leaf_of") (by rfl)), (F.binds (ps := ["tree"]) fun _ _ _ _ _ _ us hl => match us, hl with | [_], _ => rfl)⟩
    root_chain := by
      obtain ⟨fd, F0⟩ := d.def_ 18 (d := d_root_chain) (by rfl)
      have F := fun_ofD (st := s_root_chain) F0
      exact ⟨_, fd, F, He.glo_ok X G (d.fact 67 (f := .glo "root_chain") (by rfl)), (F.binds (ps := ["top", "square", "below"]) fun _ _ _ _ _ _ us hl => match us, hl with | [_, _, _], _ => rfl)⟩
    FractionBox_init := by
      obtain ⟨fd, F0⟩ := d.def_ 19 (d := d_FractionBox_init) (by rfl)
      have F := fun_ofD (st := s_FractionBox_init) F0
      exact ⟨_, fd, F, He.mkr_ok (d.fact 70 (f := .mkr "FractionBox") (by rfl)), (F.binds (ps := ["self", "top", "below", "told"]) fun _ _ _ _ _ _ us hl => match us, hl with | [_, _, _, _], _ => rfl)⟩
    FractionBox_ask := by
      obtain ⟨fd, F0⟩ := d.def_ 20 (d := d_FractionBox_ask) (by rfl)
      have F := fun_ofD (st := s_FractionBox_ask) F0
      exact ⟨_, fd, F, He.meth_ok (d.fact 71 (f := .meth "FractionBox" "ask") (by rfl)), (F.binds (ps := ["self", "meter"]) fun _ _ _ _ _ _ us hl => match us, hl with | [_, _], _ => rfl)⟩
    FractionBox_nothing_left := by
      obtain ⟨fd, F0⟩ := d.def_ 21 (d := d_FractionBox_nothing_left) (by rfl)
      have F := fun_ofD (st := s_FractionBox_nothing_left) F0
      exact ⟨_, fd, F, He.meth_ok (d.fact 72 (f := .meth "FractionBox" "nothing_left") (by rfl)), (F.binds (ps := ["self"]) fun _ _ _ _ _ _ us hl => match us, hl with | [_], _ => rfl)⟩
    FourBox_init := by
      obtain ⟨fd, F0⟩ := d.def_ 22 (d := d_FourBox_init) (by rfl)
      have F := fun_ofD (st := s_FourBox_init) F0
      exact ⟨_, fd, F, He.mkr_ok (d.fact 78 (f := .mkr "FourBox") (by rfl)), (F.binds (ps := ["self", "numbers", "tree", "started", "told"]) fun _ _ _ _ _ _ us hl => match us, hl with | [_, _, _, _, _], _ => rfl)⟩
    FourBox_ask := by
      obtain ⟨fd, F0⟩ := d.def_ 23 (d := d_FourBox_ask) (by rfl)
      have F := fun_ofD (st := s_FourBox_ask) F0
      exact ⟨_, fd, F, He.meth_ok (d.fact 79 (f := .meth "FourBox" "ask") (by rfl)), (F.binds (ps := ["self", "meter"]) fun _ _ _ _ _ _ us hl => match us, hl with | [_, _], _ => rfl)⟩
    FourBox_tell := by
      obtain ⟨fd, F0⟩ := d.def_ 24 (d := d_FourBox_tell) (by rfl)
      have F := fun_ofD (st := s_FourBox_tell) F0
      exact ⟨_, fd, F, He.meth_ok (d.fact 80 (f := .meth "FourBox" "tell") (by rfl)), (F.binds (ps := ["self", "part"]) fun _ _ _ _ _ _ us hl => match us, hl with | [_, _], _ => rfl)⟩
    FourBox_take := by
      obtain ⟨fd, F0⟩ := d.def_ 25 (d := d_FourBox_take) (by rfl)
      have F := fun_ofD (st := s_FourBox_take) F0
      exact ⟨_, fd, F, He.meth_ok (d.fact 81 (f := .meth "FourBox" "take") (by rfl)), (F.binds (ps := ["self", "answer"]) fun _ _ _ _ _ _ us hl => match us, hl with | [_, _], _ => rfl)⟩
    EightBox_init := by
      obtain ⟨fd, F0⟩ := d.def_ 26 (d := d_EightBox_init) (by rfl)
      have F := fun_ofD (st := s_EightBox_init) F0
      exact ⟨_, fd, F, He.mkr_ok (d.fact 89 (f := .mkr "EightBox") (by rfl)), (F.binds (ps := ["self", "numbers", "one", "other"]) fun _ _ _ _ _ _ us hl => match us, hl with | [_, _, _, _], _ => rfl)⟩
    EightBox_ask := by
      obtain ⟨fd, F0⟩ := d.def_ 27 (d := d_EightBox_ask) (by rfl)
      have F := fun_ofD (st := s_EightBox_ask) F0
      exact ⟨_, fd, F, He.meth_ok (d.fact 90 (f := .meth "EightBox" "ask") (by rfl)), (F.binds (ps := ["self", "meter"]) fun _ _ _ _ _ _ us hl => match us, hl with | [_, _], _ => rfl)⟩
    EightBox_tell := by
      obtain ⟨fd, F0⟩ := d.def_ 28 (d := d_EightBox_tell) (by rfl)
      have F := fun_ofD (st := s_EightBox_tell) F0
      exact ⟨_, fd, F, He.meth_ok (d.fact 91 (f := .meth "EightBox" "tell") (by rfl)), (F.binds (ps := ["self", "part"]) fun _ _ _ _ _ _ us hl => match us, hl with | [_, _], _ => rfl)⟩
    EightBox_take := by
      obtain ⟨fd, F0⟩ := d.def_ 29 (d := d_EightBox_take) (by rfl)
      have F := fun_ofD (st := s_EightBox_take) F0
      exact ⟨_, fd, F, He.meth_ok (d.fact 92 (f := .meth "EightBox" "take") (by rfl)), (F.binds (ps := ["self", "which", "answer"]) fun _ _ _ _ _ _ us hl => match us, hl with | [_, _, _], _ => rfl)⟩
    EightBox_left_without := by
      obtain ⟨fd, F0⟩ := d.def_ 30 (d := d_EightBox_left_without) (by rfl)
      have F := fun_ofD (st := s_EightBox_left_without) F0
      exact ⟨_, fd, F, He.meth_ok (d.fact 93 (f := .meth "EightBox" "left_without") (by rfl)), (F.binds (ps := ["self", "which"]) fun _ _ _ _ _ _ us hl => match us, hl with | [_, _], _ => rfl)⟩
    box_of_one := by
      obtain ⟨fd, F0⟩ := d.def_ 31 (d := d_box_of_one) (by rfl)
      have F := fun_ofD (st := s_box_of_one) F0
      exact ⟨_, fd, F, He.glo_ok X G (d.fact 99 (f := .glo "box_of_one") (by rfl)), (F.binds (ps := ["numbers", "tree", "told"]) fun _ _ _ _ _ _ us hl => match us, hl with | [_, _, _], _ => rfl)⟩
    with_first_part := by
      obtain ⟨fd, F0⟩ := d.def_ 32 (d := d_with_first_part) (by rfl)
      have F := fun_ofD (st := s_with_first_part) F0
      exact ⟨_, fd, F, He.glo_ok X G (d.fact 100 (f := .glo "with_first_part") (by rfl)), (F.binds (ps := ["numbers", "part"]) fun _ _ _ _ _ _ us hl => match us, hl with | [_, _], _ => rfl)⟩
    with_second_part := by
      obtain ⟨fd, F0⟩ := d.def_ 33 (d := d_with_second_part) (by rfl)
      have F := fun_ofD (st := s_with_second_part) F0
      exact ⟨_, fd, F, He.glo_ok X G (d.fact 101 (f := .glo "with_second_part") (by rfl)), (F.binds (ps := ["numbers", "part"]) fun _ _ _ _ _ _ us hl => match us, hl with | [_, _], _ => rfl)⟩
    turned_over := by
      obtain ⟨fd, F0⟩ := d.def_ 34 (d := d_turned_over) (by rfl)
      have F := fun_ofD (st := s_turned_over) F0
      exact ⟨_, fd, F, He.glo_ok X G (d.fact 102 (f := .glo "turned_over") (by rfl)), (F.binds (ps := ["numbers", "part"]) fun _ _ _ _ _ _ us hl => match us, hl with | [_, _], _ => rfl)⟩
    four_corners := by
      obtain ⟨fd, F0⟩ := d.def_ 35 (d := d_four_corners) (by rfl)
      have F := fun_ofD (st := s_four_corners) F0
      exact ⟨_, fd, F, He.glo_ok X G (d.fact 103 (f := .glo "four_corners") (by rfl)), (F.binds (ps := ["numbers"]) fun _ _ _ _ _ _ us hl => match us, hl with | [_], _ => rfl)⟩
    eight_corners := by
      obtain ⟨fd, F0⟩ := d.def_ 36 (d := d_eight_corners) (by rfl)
      have F := fun_ofD (st := s_eight_corners) F0
      exact ⟨_, fd, F, He.glo_ok X G (d.fact 104 (f := .glo "eight_corners") (by rfl)), (F.binds (ps := ["numbers"]) fun _ _ _ _ _ _ us hl => match us, hl with | [_], _ => rfl)⟩
    sure_part := by
      obtain ⟨fd, F0⟩ := d.def_ 37 (d := d_sure_part) (by rfl)
      have F := fun_ofD (st := s_sure_part) F0
      exact ⟨_, fd, F, He.glo_ok X G (d.fact 105 (f := .glo "sure_part") (by rfl)), (F.binds (ps := ["corners"]) fun _ _ _ _ _ _ us hl => match us, hl with | [_], _ => rfl)⟩
    check_tree := by
      obtain ⟨fd, F0⟩ := d.def_ 38 (d := d_check_tree) (by rfl)
      have F := fun_ofD (st := s_check_tree) F0
      exact ⟨_, fd, F, He.glo_ok X G (d.fact 110 (f := .glo "check_tree") (by rfl)), (F.binds (ps := ["tree"]) fun _ _ _ _ _ _ us hl => match us, hl with | [_], _ => rfl)⟩
    check_at_depth := by
      obtain ⟨fd, F0⟩ := d.def_ 39 (d := d_check_at_depth) (by rfl)
      have F := fun_ofD (st := s_check_at_depth) F0
      exact ⟨_, fd, F, He.glo_ok X G (d.fact 111 (f := .glo "check_at_depth") (by rfl)), (F.binds (ps := ["tree", "depth"]) fun _ _ _ _ _ _ us hl => match us, hl with | [_, _], _ => rfl)⟩
    require := by
      obtain ⟨fd, F0⟩ := d.def_ 40 (d := d_require) (by rfl)
      have F := fun_ofD (st := s_require) F0
      exact ⟨_, fd, F, He.glo_ok X G (d.fact 112 (f := .glo "require") (by rfl)), (F.binds (ps := ["holds", "why"]) fun _ _ _ _ _ _ us hl => match us, hl with | [_, _], _ => rfl)⟩
    check_row := by
      obtain ⟨fd, F0⟩ := d.def_ 41 (d := d_check_row) (by rfl)
      have F := fun_ofD (st := s_check_row) F0
      exact ⟨_, fd, F, He.glo_ok X G (d.fact 113 (f := .glo "check_row") (by rfl)), (F.binds (ps := ["row", "fewest", "most"]) fun _ _ _ _ _ _ us hl => match us, hl with | [_, _, _], _ => rfl)⟩
    is_whole := by
      obtain ⟨fd, F0⟩ := d.def_ 42 (d := d_is_whole) (by rfl)
      have F := fun_ofD (st := s_is_whole) F0
      exact ⟨_, fd, F, He.glo_ok X G (d.fact 114 (f := .glo "is_whole") (by rfl)), (F.binds (ps := ["number"]) fun _ _ _ _ _ _ us hl => match us, hl with | [_], _ => rfl)⟩
    check_fraction := by
      obtain ⟨fd, F0⟩ := d.def_ 43 (d := d_check_fraction) (by rfl)
      have F := fun_ofD (st := s_check_fraction) F0
      exact ⟨_, fd, F, He.glo_ok X G (d.fact 115 (f := .glo "check_fraction") (by rfl)), (F.binds (ps := ["tree", "depth"]) fun _ _ _ _ _ _ us hl => match us, hl with | [_, _], _ => rfl)⟩
    check_root := by
      obtain ⟨fd, F0⟩ := d.def_ 44 (d := d_check_root) (by rfl)
      have F := fun_ofD (st := s_check_root) F0
      exact ⟨_, fd, F, He.glo_ok X G (d.fact 116 (f := .glo "check_root") (by rfl)), (F.binds (ps := ["tree", "depth"]) fun _ _ _ _ _ _ us hl => match us, hl with | [_, _], _ => rfl)⟩
    check_ruled := by
      obtain ⟨fd, F0⟩ := d.def_ 45 (d := d_check_ruled) (by rfl)
      have F := fun_ofD (st := s_check_ruled) F0
      exact ⟨_, fd, F, He.glo_ok X G (d.fact 117 (f := .glo "check_ruled") (by rfl)), (F.binds (ps := ["tree", "depth"]) fun _ _ _ _ _ _ us hl => match us, hl with | [_, _], _ => rfl)⟩
    check_four := by
      obtain ⟨fd, F0⟩ := d.def_ 46 (d := d_check_four) (by rfl)
      have F := fun_ofD (st := s_check_four) F0
      exact ⟨_, fd, F, He.glo_ok X G (d.fact 118 (f := .glo "check_four") (by rfl)), (F.binds (ps := ["tree", "depth"]) fun _ _ _ _ _ _ us hl => match us, hl with | [_, _], _ => rfl)⟩
    check_eight := by
      obtain ⟨fd, F0⟩ := d.def_ 47 (d := d_check_eight) (by rfl)
      have F := fun_ofD (st := s_check_eight) F0
      exact ⟨_, fd, F, He.glo_ok X G (d.fact 119 (f := .glo "check_eight") (by rfl)), (F.binds (ps := ["tree", "depth"]) fun _ _ _ _ _ _ us hl => match us, hl with | [_, _], _ => rfl)⟩
    check_line := by
      obtain ⟨fd, F0⟩ := d.def_ 48 (d := d_check_line) (by rfl)
      have F := fun_ofD (st := s_check_line) F0
      exact ⟨_, fd, F, He.glo_ok X G (d.fact 120 (f := .glo "check_line") (by rfl)), (F.binds (ps := ["numbers"]) fun _ _ _ _ _ _ us hl => match us, hl with | [_], _ => rfl)⟩
    check_power := by
      obtain ⟨fd, F0⟩ := d.def_ 49 (d := d_check_power) (by rfl)
      have F := fun_ofD (st := s_check_power) F0
      exact ⟨_, fd, F, He.glo_ok X G (d.fact 121 (f := .glo "check_power") (by rfl)), (F.binds (ps := ["tree", "depth"]) fun _ _ _ _ _ _ us hl => match us, hl with | [_, _], _ => rfl)⟩
    Reading_init := by
      obtain ⟨fd, F0⟩ := d.def_ 50 (d := d_Reading_init) (by rfl)
      have F := fun_ofD (st := s_Reading_init) F0
      exact ⟨_, fd, F, He.mkr_ok (d.fact 127 (f := .mkr "Reading") (by rfl)), (F.binds (ps := ["self", "box"]) fun _ _ _ _ _ _ us hl => match us, hl with | [_, _], _ => rfl)⟩
    Reading_part := by
      obtain ⟨fd, F0⟩ := d.def_ 51 (d := d_Reading_part) (by rfl)
      have F := fun_ofD (st := s_Reading_part) F0
      exact ⟨_, fd, F, He.meth_ok (d.fact 128 (f := .meth "Reading" "part") (by rfl)), (F.binds (ps := ["self", "most"]) fun _ _ _ _ _ _ us hl => match us, hl with | [_, _], _ => rfl)⟩
    Reading_took := by
      obtain ⟨fd, F0⟩ := d.def_ 52 (d := d_Reading_took) (by rfl)
      have F := fun_ofD (st := s_Reading_took) F0
      exact ⟨_, fd, F, He.meth_ok (d.fact 129 (f := .meth "Reading" "took") (by rfl)), (F.binds (ps := ["self"]) fun _ _ _ _ _ _ us hl => match us, hl with | [_], _ => rfl)⟩
    reader := by
      obtain ⟨fd, F0⟩ := d.def_ 53 (d := d_reader) (by rfl)
      have F := fun_ofD (st := s_reader) F0
      exact ⟨_, fd, F, He.glo_ok X G (d.fact 132 (f := .glo "reader") (by rfl)), (F.binds (ps := ["tree"]) fun _ _ _ _ _ _ us hl => match us, hl with | [_], _ => rfl)⟩
    box_of := by
      obtain ⟨fd, F0⟩ := d.def_ 54 (d := d_box_of) (by rfl)
      have F := fun_ofD (st := s_box_of) F0
      exact ⟨_, fd, F, He.glo_ok X G (d.fact 133 (f := .glo "box_of") (by rfl)), (F.binds (ps := ["tree"]) fun _ _ _ _ _ _ us hl => match us, hl with | [_], _ => rfl)⟩
    power_box := by
      obtain ⟨fd, F0⟩ := d.def_ 55 (d := d_power_box) (by rfl)
      have F := fun_ofD (st := s_power_box) F0
      exact ⟨_, fd, F, He.glo_ok X G (d.fact 134 (f := .glo "power_box") (by rfl)), (F.binds (ps := ["tree", "times"]) fun _ _ _ _ _ _ us hl => match us, hl with | [_, _], _ => rfl)⟩
    first_parts := by
      obtain ⟨fd, F0⟩ := d.def_ 56 (d := d_first_parts) (by rfl)
      have F := fun_ofD (st := s_first_parts) F0
      exact ⟨_, fd, F, He.glo_ok X G (d.fact 135 (f := .glo "first_parts") (by rfl)), (F.binds (ps := ["tree", "many", "most"]) fun _ _ _ _ _ _ us hl => match us, hl with | [_, _, _], _ => rfl)⟩
    compared := by
      obtain ⟨fd, F0⟩ := d.def_ 57 (d := d_compared) (by rfl)
      have F := fun_ofD (st := s_compared) F0
      exact ⟨_, fd, F, He.glo_ok X G (d.fact 136 (f := .glo "compared") (by rfl)), (F.binds (ps := ["one", "other", "most"]) fun _ _ _ _ _ _ us hl => match us, hl with | [_, _, _], _ => rfl)⟩
    order_of := by
      obtain ⟨fd, F0⟩ := d.def_ 58 (d := d_order_of) (by rfl)
      have F := fun_ofD (st := s_order_of) F0
      exact ⟨_, fd, F, He.glo_ok X G (d.fact 137 (f := .glo "order_of") (by rfl)), (F.binds (ps := ["one", "other", "most"]) fun _ _ _ _ _ _ us hl => match us, hl with | [_, _, _], _ => rfl)⟩
    order_at := by
      obtain ⟨fd, F0⟩ := d.def_ 59 (d := d_order_at) (by rfl)
      have F := fun_ofD (st := s_order_at) F0
      exact ⟨_, fd, F, He.glo_ok X G (d.fact 138 (f := .glo "order_at") (by rfl)), (F.binds (ps := ["at", "first", "second"]) fun _ _ _ _ _ _ us hl => match us, hl with | [_, _, _], _ => rfl)⟩
    is_greater := by
      obtain ⟨fd, F0⟩ := d.def_ 60 (d := d_is_greater) (by rfl)
      have F := fun_ofD (st := s_is_greater) F0
      exact ⟨_, fd, F, He.glo_ok X G (d.fact 139 (f := .glo "is_greater") (by rfl)), (F.binds (ps := ["first", "second"]) fun _ _ _ _ _ _ us hl => match us, hl with | [_, _], _ => rfl)⟩
    nearest := by
      obtain ⟨fd, F0⟩ := d.def_ 61 (d := d_nearest) (by rfl)
      have F := fun_ofD (st := s_nearest) F0
      exact ⟨_, fd, F, He.glo_ok X G (d.fact 140 (f := .glo "nearest") (by rfl)), (F.binds (ps := ["tree", "size", "most"]) fun _ _ _ _ _ _ us hl => match us, hl with | [_, _, _], _ => rfl)⟩
    read_sides := by
      obtain ⟨fd, F0⟩ := d.def_ 62 (d := d_read_sides) (by rfl)
      have F := fun_ofD (st := s_read_sides) F0
      exact ⟨_, fd, F, He.glo_ok X G (d.fact 141 (f := .glo "read_sides") (by rfl)), (F.binds (ps := ["reading", "size", "most"]) fun _ _ _ _ _ _ us hl => match us, hl with | [_, _, _], _ => rfl)⟩
    stepped := by
      obtain ⟨fd, F0⟩ := d.def_ 63 (d := d_stepped) (by rfl)
      have F := fun_ofD (st := s_stepped) F0
      exact ⟨_, fd, F, He.glo_ok X G (d.fact 142 (f := .glo "stepped") (by rfl)), (F.binds (ps := ["before", "last", "times"]) fun _ _ _ _ _ _ us hl => match us, hl with | [_, _, _], _ => rfl)⟩
    sides_within := by
      obtain ⟨fd, F0⟩ := d.def_ 64 (d := d_sides_within) (by rfl)
      have F := fun_ofD (st := s_sides_within) F0
      exact ⟨_, fd, F, He.glo_ok X G (d.fact 143 (f := .glo "sides_within") (by rfl)), (F.binds (ps := ["before", "last", "size"]) fun _ _ _ _ _ _ us hl => match us, hl with | [_, _, _], _ => rfl)⟩
    middle_reading := by
      obtain ⟨fd, F0⟩ := d.def_ 65 (d := d_middle_reading) (by rfl)
      have F := fun_ofD (st := s_middle_reading) F0
      exact ⟨_, fd, F, He.glo_ok X G (d.fact 144 (f := .glo "middle_reading") (by rfl)), (F.binds (ps := ["low", "high"]) fun _ _ _ _ _ _ us hl => match us, hl with | [_, _], _ => rfl)⟩
    nearer_side := by
      obtain ⟨fd, F0⟩ := d.def_ 66 (d := d_nearer_side) (by rfl)
      have F := fun_ofD (st := s_nearer_side) F0
      exact ⟨_, fd, F, He.glo_ok X G (d.fact 145 (f := .glo "nearer_side") (by rfl)), (F.binds (ps := ["order", "low", "high"]) fun _ _ _ _ _ _ us hl => match us, hl with | [_, _, _], _ => rfl)⟩
    law_row := by
      obtain ⟨fd, F0⟩ := d.def_ 67 (d := d_law_row) (by rfl)
      have F := fun_ofD (st := s_law_row) F0
      exact ⟨_, fd, F, He.glo_ok X G (d.fact 146 (f := .glo "_law_row") (by rfl)), (F.binds (ps := ["_law_script"]) fun _ _ _ _ _ _ us hl => match us, hl with | [_], _ => rfl)⟩
    law_taken := by
      obtain ⟨fd, F0⟩ := d.def_ 68 (d := d_law_taken) (by rfl)
      have F := fun_ofD (st := s_law_taken) F0
      exact ⟨_, fd, F, He.glo_ok X G (d.fact 147 (f := .glo "_law_taken") (by rfl)), (F.binds (ps := ["_law_row_here", "_law_many"]) fun _ _ _ _ _ _ us hl => match us, hl with | [_, _], _ => rfl)⟩
    law_signed := by
      obtain ⟨fd, F0⟩ := d.def_ 69 (d := d_law_signed) (by rfl)
      have F := fun_ofD (st := s_law_signed) F0
      exact ⟨_, fd, F, He.glo_ok X G (d.fact 148 (f := .glo "_law_signed") (by rfl)), (F.binds (ps := ["_law_row_here", "_law_most"]) fun _ _ _ _ _ _ us hl => match us, hl with | [_, _], _ => rfl)⟩
    law_bad := by
      obtain ⟨fd, F0⟩ := d.def_ 70 (d := d_law_bad) (by rfl)
      have F := fun_ofD (st := s_law_bad) F0
      exact ⟨_, fd, F, He.glo_ok X G (d.fact 149 (f := .glo "_law_bad") (by rfl)), (F.binds (ps := ["_law_row_here"]) fun _ _ _ _ _ _ us hl => match us, hl with | [_], _ => rfl)⟩
    law_around := by
      obtain ⟨fd, F0⟩ := d.def_ 71 (d := d_law_around) (by rfl)
      have F := fun_ofD (st := s_law_around) F0
      exact ⟨_, fd, F, He.glo_ok X G (d.fact 150 (f := .glo "_law_around") (by rfl)), (F.binds (ps := ["_law_row_here", "_law_tree", "_law_many"]) fun _ _ _ _ _ _ us hl => match us, hl with | [_, _, _], _ => rfl)⟩
    law_refused := by
      obtain ⟨fd, F0⟩ := d.def_ 72 (d := d_law_refused) (by rfl)
      have F := fun_ofD (st := s_law_refused) F0
      exact ⟨_, fd, F, He.glo_ok X G (d.fact 151 (f := .glo "_law_refused") (by rfl)), (F.binds (ps := ["_law_way", "_law_tree"]) fun _ _ _ _ _ _ us hl => match us, hl with | [_, _], _ => rfl)⟩
    law := by
      obtain ⟨fd, F0⟩ := d.def_ 73 (d := d_law) (by rfl)
      have F := fun_ofD (st := s_law) F0
      exact ⟨_, fd, F, He.glo_ok X G (d.fact 152 (f := .glo "law") (by rfl)), (F.binds (ps := ["_law_script"]) fun _ _ _ _ _ _ us hl => match us, hl with | [_], _ => rfl)⟩ }
theorem facts {P : Program} {fa : Addr} (X : K.In h) (G : h.Ns mainGlobals mg) (hfa : mg "law" = some (.ref fa)) (c : He.SaysX faL fnL tsL [] exL w h K) :
    ∃ fd : FuncData, (∀ (s : Shared) (v : Value), BindsTo s fd ⟨[v], []⟩ [("_law_script", v)]) ∧ ∀ base : Heap, K.In base → base.Ns mainGlobals mg → FnOk P w K mg base CX0 30 fa fd ["_law_script"] (sp_law K) := by
  have T := ct_of X G c
  have TT := tb_of X G c
  have D := dt_of X G c
  have XE := xet_of X G c
  obtain ⟨fd0, F0⟩ := c.t.d.def_ 73 (d := d_law) (by rfl)
  have e := hfa.symm.trans (He.glo_ok X G (c.t.d.fact 152 (f := .glo "law") (by rfl)))
  cases e
  refine ⟨fd0, fun s v => ?_, fun base _ _ => ?_⟩
  · exact (FunD.bindsA (ps := ["_law_script"]) F0 fun _ _ _ _ _ _ us hl => match us, hl with | [_], _ => rfl) s [v] rfl
  · exact ok_law T TT XE D (fun_ofD (st := s_law) F0)
end
end Cp
open PySem PySem.W PySem.Calls PyProof.Rows
set_option maxRecDepth 100000 in
set_option maxHeartbeats 0 in
theorem PySem.Challenge.cw_chainparts_k07_trees_that_are_none_holds : PySem.Challenge.rw_chainparts_k07_trees_that_are_none.Holds := by
  w_on; o_law
  refine HandSHeadRun.head_any (r := OpenLaw.row PySem.Challenge.rw_chainparts_k07_trees_that_are_none) (q := view (OpenLaw.row PySem.Challenge.rw_chainparts_k07_trees_that_are_none).prog [74]) (H := Cp.hk) (ob := Cp.ob) (M := 7500) (loose := Cp.looseL) (d := HandSHeadRun.topDef (OpenLaw.row PySem.Challenge.rw_chainparts_k07_trees_that_are_none).prog 74) (kwd := []) Cp.ob_eq
    (by kernel_rfl) (fun s => by kernel_rfl) Cp.run (by kernel_rfl) (by kernel_rfl) (by kernel_rfl) (by rfl) (by first | assumption | decide +kernel) (by decide +kernel) ⟨rfl, rfl, rfl, rfl, rfl, by decide +kernel⟩ ?hw ?hc
  case hw => w_witness2
  case hc =>
    refine L2.walk_ofE (l := PySem.Challenge.rw_chainparts_k07_trees_that_are_none) (n := 63) (k := 30) (x := "_law_script") (CX := L2.CX0) rfl (by decide) (by kernel_rfl) ⟨rfl, by decide, by decide⟩ ?F (fun _ _ _ _ z => z)
    intro w mg fa h Y G hmg0
    obtain ⟨K, KX, c⟩ := Y
    have hmg : mg ("law" : PySem.Str) = some (.ref fa) := by
      have e : (HandSHeadRun.topDef (OpenLaw.row PySem.Challenge.rw_chainparts_k07_trees_that_are_none).prog 74).name = ("law" : PySem.Str) := by kernel_rfl
      rw [← e]
      exact hmg0
    obtain ⟨fd, hb, hF⟩ := Cp.facts (P := (PySem.Challenge.rw_chainparts_k07_trees_that_are_none).prog) (w := w) KX G hmg c
    exact ⟨K, fd, Cp.sp_law K, KX, hb, fun H a ns hl hO hS => ⟨a, ns, rfl, Cp.ScrAt.of hO hS, hl, fun _ => rfl⟩, hF⟩
