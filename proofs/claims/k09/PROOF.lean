import PyProof.Rows.All
import Wide.All
import OpenK.AllK
import Wide.FinOn
import HandS.RaiseMore
import HandS.TupMul
import HandS.ForMost
import HandS.Style
import KE.KRevSl
import KE.KEqSeq
import HandS.Wide
import HandS.WideBits
import HandS.IsInst
import HandS.Codes
import HandS.More
import HandS.CallLocal
import HandS.TupAny
import HandS.Zip
import HandS.ForExc
import HandS.ExcIs
import HandS.Deep
import HandS.TryOnly
import KE.GoesZip
import KE.GoesMore
import KE.KStateDown
import HandS.ForExc
import HandS.Defaults
import HandS.Head0
import HandS.Head1
import HandS.Head2
import HandS.HeadEnd
import HandS.HeadHook1
import HandS.HeadHook2
import HandS.HeadHook3
import HandS.HeadHook4
import PySem.Challenge.RW_chainparts_k09_four_of_roots
set_option Elab.async false
set_option linter.all false
set_option maxRecDepth 100000
set_option maxHeartbeats 4000000
namespace Cp
open PySem L2
def topS (i : Nat) : Stmt := PySem.Challenge.pw_chainparts_k09_four_of_roots.main.body.getD i (.Pass ⟨0, 0, 0, 0⟩)
abbrev s_wall : Stmt := topS 0
theorem sc_wall : FnScope ["k"] ["k"] (defScope s_wall) := ⟨rfl, rfl, rfl, by decide +kernel, rfl, by decide +kernel, by decide +kernel⟩
abbrev s_root_below : Stmt := topS 6
theorem sc_root_below : FnScope ["number", "guess", "better"] ["number"] (defScope s_root_below) := ⟨rfl, rfl, rfl, by decide +kernel, rfl, by decide +kernel, by decide +kernel⟩
abbrev s_Meter_init : Stmt := inClass (topS 10) 0
theorem sc_Meter_init : FnScope ["self"] ["self"] (defScope s_Meter_init) := ⟨rfl, rfl, rfl, by decide +kernel, rfl, by decide +kernel, by decide +kernel⟩
abbrev s_Meter_allow : Stmt := inClass (topS 10) 1
theorem sc_Meter_allow : FnScope ["self", "most"] ["self", "most"] (defScope s_Meter_allow) := ⟨rfl, rfl, rfl, by decide +kernel, rfl, by decide +kernel, by decide +kernel⟩
abbrev s_Meter_pay : Stmt := inClass (topS 10) 2
theorem sc_Meter_pay : FnScope ["self"] ["self"] (defScope s_Meter_pay) := ⟨rfl, rfl, rfl, by decide +kernel, rfl, by decide +kernel, by decide +kernel⟩
abbrev s_FractionChain_init : Stmt := inClass (topS 11) 0
theorem sc_FractionChain_init : FnScope ["self", "top", "below"] ["self", "top", "below"] (defScope s_FractionChain_init) := ⟨rfl, rfl, rfl, by decide +kernel, rfl, by decide +kernel, by decide +kernel⟩
abbrev s_FractionChain_has_ended : Stmt := inClass (topS 11) 1
theorem sc_FractionChain_has_ended : FnScope ["self"] ["self"] (defScope s_FractionChain_has_ended) := ⟨rfl, rfl, rfl, by decide +kernel, rfl, by decide +kernel, by decide +kernel⟩
abbrev s_FractionChain_next_part : Stmt := inClass (topS 11) 2
theorem sc_FractionChain_next_part : FnScope ["self", "part"] ["self"] (defScope s_FractionChain_next_part) := ⟨rfl, rfl, rfl, by decide +kernel, rfl, by decide +kernel, by decide +kernel⟩
abbrev s_RootChain_init : Stmt := inClass (topS 12) 0
theorem sc_RootChain_init : FnScope ["self", "top", "square", "below", "wide"] ["self", "top", "square", "below"] (defScope s_RootChain_init) := ⟨rfl, rfl, rfl, by decide +kernel, rfl, by decide +kernel, by decide +kernel⟩
abbrev s_RootChain_has_ended : Stmt := inClass (topS 12) 1
theorem sc_RootChain_has_ended : FnScope ["self"] ["self"] (defScope s_RootChain_has_ended) := ⟨rfl, rfl, rfl, by decide +kernel, rfl, by decide +kernel, by decide +kernel⟩
abbrev s_RootChain_next_part : Stmt := inClass (topS 12) 2
theorem sc_RootChain_next_part : FnScope ["self", "upward", "part"] ["self"] (defScope s_RootChain_next_part) := ⟨rfl, rfl, rfl, by decide +kernel, rfl, by decide +kernel, by decide +kernel⟩
abbrev s_RootChain_what_is_left : Stmt := inClass (topS 12) 3
theorem sc_RootChain_what_is_left : FnScope ["self"] ["self"] (defScope s_RootChain_what_is_left) := ⟨rfl, rfl, rfl, by decide +kernel, rfl, by decide +kernel, by decide +kernel⟩
abbrev s_RuledChain_init : Stmt := inClass (topS 13) 0
theorem sc_RuledChain_init : FnScope ["self", "parts", "ring", "steps"] ["self", "parts", "ring", "steps"] (defScope s_RuledChain_init) := ⟨rfl, rfl, rfl, by decide +kernel, rfl, by decide +kernel, by decide +kernel⟩
abbrev s_RuledChain_has_ended : Stmt := inClass (topS 13) 1
theorem sc_RuledChain_has_ended : FnScope ["self"] ["self"] (defScope s_RuledChain_has_ended) := ⟨rfl, rfl, rfl, by decide +kernel, rfl, by decide +kernel, by decide +kernel⟩
abbrev s_RuledChain_next_part : Stmt := inClass (topS 13) 2
theorem sc_RuledChain_next_part : FnScope ["self", "at", "turn", "place"] ["self"] (defScope s_RuledChain_next_part) := ⟨rfl, rfl, rfl, by decide +kernel, rfl, by decide +kernel, by decide +kernel⟩
abbrev s_Leaf_init : Stmt := inClass (topS 14) 0
theorem sc_Leaf_init : FnScope ["self", "chain"] ["self", "chain"] (defScope s_Leaf_init) := ⟨rfl, rfl, rfl, by decide +kernel, rfl, by decide +kernel, by decide +kernel⟩
abbrev s_Leaf_ask : Stmt := inClass (topS 14) 1
theorem sc_Leaf_ask : FnScope ["self", "meter"] ["self", "meter"] (defScope s_Leaf_ask) := ⟨rfl, rfl, rfl, by decide +kernel, rfl, by decide +kernel, by decide +kernel⟩
abbrev s_leaf_of : Stmt := topS 15
theorem sc_leaf_of : FnScope ["tree"] ["tree"] (defScope s_leaf_of) := ⟨rfl, rfl, rfl, by decide +kernel, rfl, by decide +kernel, by decide +kernel⟩
abbrev s_root_chain : Stmt := topS 16
theorem sc_root_chain : FnScope ["top", "square", "below", "root"] ["top", "square", "below"] (defScope s_root_chain) := ⟨rfl, rfl, rfl, by decide +kernel, rfl, by decide +kernel, by decide +kernel⟩
abbrev s_FractionBox_init : Stmt := inClass (topS 18) 0
theorem sc_FractionBox_init : FnScope ["self", "top", "below", "told"] ["self", "top", "below", "told"] (defScope s_FractionBox_init) := ⟨rfl, rfl, rfl, by decide +kernel, rfl, by decide +kernel, by decide +kernel⟩
abbrev s_FractionBox_ask : Stmt := inClass (topS 18) 1
theorem sc_FractionBox_ask : FnScope ["self", "meter", "part"] ["self", "meter"] (defScope s_FractionBox_ask) := ⟨rfl, rfl, rfl, by decide +kernel, rfl, by decide +kernel, by decide +kernel⟩
abbrev s_FractionBox_nothing_left : Stmt := inClass (topS 18) 2
theorem sc_FractionBox_nothing_left : FnScope ["self"] ["self"] (defScope s_FractionBox_nothing_left) := ⟨rfl, rfl, rfl, by decide +kernel, rfl, by decide +kernel, by decide +kernel⟩
abbrev s_FourBox_init : Stmt := inClass (topS 19) 0
theorem sc_FourBox_init : FnScope ["self", "numbers", "tree", "started", "told"] ["self", "numbers", "tree", "started", "told"] (defScope s_FourBox_init) := ⟨rfl, rfl, rfl, by decide +kernel, rfl, by decide +kernel, by decide +kernel⟩
abbrev s_FourBox_ask : Stmt := inClass (topS 19) 1
theorem sc_FourBox_ask : FnScope ["self", "meter", "part", "answer"] ["self", "meter"] (defScope s_FourBox_ask) := ⟨rfl, rfl, rfl, by decide +kernel, rfl, by decide +kernel, by decide +kernel⟩
abbrev s_FourBox_tell : Stmt := inClass (topS 19) 2
theorem sc_FourBox_tell : FnScope ["self", "part"] ["self", "part"] (defScope s_FourBox_tell) := ⟨rfl, rfl, rfl, by decide +kernel, rfl, by decide +kernel, by decide +kernel⟩
abbrev s_FourBox_take : Stmt := inClass (topS 19) 3
theorem sc_FourBox_take : FnScope ["self", "answer", "a", "b", "c", "d", "part"] ["self", "answer"] (defScope s_FourBox_take) := ⟨rfl, rfl, rfl, by decide +kernel, rfl, by decide +kernel, by decide +kernel⟩
abbrev s_EightBox_init : Stmt := inClass (topS 20) 0
theorem sc_EightBox_init : FnScope ["self", "numbers", "one", "other"] ["self", "numbers", "one", "other"] (defScope s_EightBox_init) := ⟨rfl, rfl, rfl, by decide +kernel, rfl, by decide +kernel, by decide +kernel⟩
abbrev s_EightBox_ask : Stmt := inClass (topS 20) 1
theorem sc_EightBox_ask : FnScope ["self", "meter", "part", "which", "answer"] ["self", "meter"] (defScope s_EightBox_ask) := ⟨rfl, rfl, rfl, by decide +kernel, rfl, by decide +kernel, by decide +kernel⟩
abbrev s_EightBox_tell : Stmt := inClass (topS 20) 2
theorem sc_EightBox_tell : FnScope ["self", "part"] ["self", "part"] (defScope s_EightBox_tell) := ⟨rfl, rfl, rfl, by decide +kernel, rfl, by decide +kernel, by decide +kernel⟩
abbrev s_EightBox_take : Stmt := inClass (topS 20) 3
theorem sc_EightBox_take : FnScope ["self", "which", "answer"] ["self", "which", "answer"] (defScope s_EightBox_take) := ⟨rfl, rfl, rfl, by decide +kernel, rfl, by decide +kernel, by decide +kernel⟩
abbrev s_EightBox_left_without : Stmt := inClass (topS 20) 4
theorem sc_EightBox_left_without : FnScope ["self", "which", "a", "b", "c", "d", "e", "f", "g", "h"] ["self", "which"] (defScope s_EightBox_left_without) := ⟨rfl, rfl, rfl, by decide +kernel, rfl, by decide +kernel, by decide +kernel⟩
abbrev s_box_of_one : Stmt := topS 21
theorem sc_box_of_one : FnScope ["numbers", "tree", "told", "a", "b", "c", "d"] ["numbers", "tree", "told"] (defScope s_box_of_one) := ⟨rfl, rfl, rfl, by decide +kernel, rfl, by decide +kernel, by decide +kernel⟩
abbrev s_with_first_part : Stmt := topS 22
theorem sc_with_first_part : FnScope ["numbers", "part", "a", "b", "c", "d", "e", "f", "g", "h"] ["numbers", "part"] (defScope s_with_first_part) := ⟨rfl, rfl, rfl, by decide +kernel, rfl, by decide +kernel, by decide +kernel⟩
abbrev s_with_second_part : Stmt := topS 23
theorem sc_with_second_part : FnScope ["numbers", "part", "a", "b", "c", "d", "e", "f", "g", "h"] ["numbers", "part"] (defScope s_with_second_part) := ⟨rfl, rfl, rfl, by decide +kernel, rfl, by decide +kernel, by decide +kernel⟩
abbrev s_turned_over : Stmt := topS 24
theorem sc_turned_over : FnScope ["numbers", "part", "half", "above", "below", "left", "top", "under"] ["numbers", "part"] (defScope s_turned_over) := ⟨rfl, rfl, rfl, by decide +kernel, rfl, by decide +kernel, by decide +kernel⟩
abbrev s_four_corners : Stmt := topS 25
theorem sc_four_corners : FnScope ["numbers", "a", "b", "c", "d"] ["numbers"] (defScope s_four_corners) := ⟨rfl, rfl, rfl, by decide +kernel, rfl, by decide +kernel, by decide +kernel⟩
abbrev s_eight_corners : Stmt := topS 26
theorem sc_eight_corners : FnScope ["numbers", "a", "b", "c", "d", "e", "f", "g", "h"] ["numbers"] (defScope s_eight_corners) := ⟨rfl, rfl, rfl, by decide +kernel, rfl, by decide +kernel, by decide +kernel⟩
abbrev s_sure_part : Stmt := topS 27
theorem sc_sure_part : FnScope ["corners", "top", "below", "part"] ["corners"] (defScope s_sure_part) := ⟨rfl, rfl, rfl, by decide +kernel, rfl, by decide +kernel, by decide +kernel⟩
abbrev s_check_tree : Stmt := topS 33
theorem sc_check_tree : FnScope ["tree"] ["tree"] (defScope s_check_tree) := ⟨rfl, rfl, rfl, by decide +kernel, rfl, by decide +kernel, by decide +kernel⟩
abbrev s_check_at_depth : Stmt := topS 34
theorem sc_check_at_depth : FnScope ["tree", "depth", "word", "check"] ["tree", "depth"] (defScope s_check_at_depth) := ⟨rfl, rfl, rfl, by decide +kernel, rfl, by decide +kernel, by decide +kernel⟩
abbrev s_require : Stmt := topS 35
theorem sc_require : FnScope ["holds", "why"] ["holds", "why"] (defScope s_require) := ⟨rfl, rfl, rfl, by decide +kernel, rfl, by decide +kernel, by decide +kernel⟩
abbrev s_check_row : Stmt := topS 36
theorem sc_check_row : FnScope ["row", "fewest", "most", "number"] ["row", "fewest", "most"] (defScope s_check_row) := ⟨rfl, rfl, rfl, by decide +kernel, rfl, by decide +kernel, by decide +kernel⟩
abbrev s_is_whole : Stmt := topS 37
theorem sc_is_whole : FnScope ["number"] ["number"] (defScope s_is_whole) := ⟨rfl, rfl, rfl, by decide +kernel, rfl, by decide +kernel, by decide +kernel⟩
abbrev s_check_fraction : Stmt := topS 38
theorem sc_check_fraction : FnScope ["tree", "depth"] ["tree", "depth"] (defScope s_check_fraction) := ⟨rfl, rfl, rfl, by decide +kernel, rfl, by decide +kernel, by decide +kernel⟩
abbrev s_check_root : Stmt := topS 39
theorem sc_check_root : FnScope ["tree", "depth"] ["tree", "depth"] (defScope s_check_root) := ⟨rfl, rfl, rfl, by decide +kernel, rfl, by decide +kernel, by decide +kernel⟩
abbrev s_check_ruled : Stmt := topS 40
theorem sc_check_ruled : FnScope ["tree", "depth", "parts", "ring", "steps", "part", "step", "ends"] ["tree", "depth"] (defScope s_check_ruled) := ⟨rfl, rfl, rfl, by decide +kernel, rfl, by decide +kernel, by decide +kernel⟩
abbrev s_check_four : Stmt := topS 41
theorem sc_check_four : FnScope ["tree", "depth"] ["tree", "depth"] (defScope s_check_four) := ⟨rfl, rfl, rfl, by decide +kernel, rfl, by decide +kernel, by decide +kernel⟩
abbrev s_check_eight : Stmt := topS 42
theorem sc_check_eight : FnScope ["tree", "depth"] ["tree", "depth"] (defScope s_check_eight) := ⟨rfl, rfl, rfl, by decide +kernel, rfl, by decide +kernel, by decide +kernel⟩
abbrev s_check_line : Stmt := topS 43
theorem sc_check_line : FnScope ["numbers", "half", "above", "below", "crossed", "i", "k"] ["numbers"] (defScope s_check_line) := ⟨rfl, rfl, rfl, by decide +kernel, rfl, by decide +kernel, by decide +kernel⟩
abbrev s_check_power : Stmt := topS 44
theorem sc_check_power : FnScope ["tree", "depth"] ["tree", "depth"] (defScope s_check_power) := ⟨rfl, rfl, rfl, by decide +kernel, rfl, by decide +kernel, by decide +kernel⟩
abbrev s_Reading_init : Stmt := inClass (topS 49) 0
theorem sc_Reading_init : FnScope ["self", "box"] ["self", "box"] (defScope s_Reading_init) := ⟨rfl, rfl, rfl, by decide +kernel, rfl, by decide +kernel, by decide +kernel⟩
abbrev s_Reading_part : Stmt := inClass (topS 49) 1
theorem sc_Reading_part : FnScope ["self", "most"] ["self", "most"] (defScope s_Reading_part) := ⟨rfl, rfl, rfl, by decide +kernel, rfl, by decide +kernel, by decide +kernel⟩
abbrev s_Reading_took : Stmt := inClass (topS 49) 2
theorem sc_Reading_took : FnScope ["self"] ["self"] (defScope s_Reading_took) := ⟨rfl, rfl, rfl, by decide +kernel, rfl, by decide +kernel, by decide +kernel⟩
abbrev s_reader : Stmt := topS 50
theorem sc_reader : FnScope ["tree"] ["tree"] (defScope s_reader) := ⟨rfl, rfl, rfl, by decide +kernel, rfl, by decide +kernel, by decide +kernel⟩
abbrev s_box_of : Stmt := topS 51
theorem sc_box_of : FnScope ["tree", "word"] ["tree"] (defScope s_box_of) := ⟨rfl, rfl, rfl, by decide +kernel, rfl, by decide +kernel, by decide +kernel⟩
abbrev s_power_box : Stmt := topS 52
theorem sc_power_box : FnScope ["tree", "times"] ["tree", "times"] (defScope s_power_box) := ⟨rfl, rfl, rfl, by decide +kernel, rfl, by decide +kernel, by decide +kernel⟩
abbrev s_law_row : Stmt := topS 54
theorem sc_law_row : FnScope ["_law_script", "_law_mixed", "_law_cell"] ["_law_script"] (defScope s_law_row) := ⟨rfl, rfl, rfl, by decide +kernel, rfl, by decide +kernel, by decide +kernel⟩
abbrev s_law_taken : Stmt := topS 55
theorem sc_law_taken : FnScope ["_law_row_here", "_law_many", "_law_found", "_law_cell"] ["_law_row_here", "_law_many"] (defScope s_law_taken) := ⟨rfl, rfl, rfl, by decide +kernel, rfl, by decide +kernel, by decide +kernel⟩
abbrev s_law_whole : Stmt := topS 56
theorem sc_law_whole : FnScope ["_law_found"] ["_law_found"] (defScope s_law_whole) := ⟨rfl, rfl, rfl, by decide +kernel, rfl, by decide +kernel, by decide +kernel⟩
abbrev s_law_signed : Stmt := topS 57
theorem sc_law_signed : FnScope ["_law_row_here", "_law_most"] ["_law_row_here", "_law_most"] (defScope s_law_signed) := ⟨rfl, rfl, rfl, by decide +kernel, rfl, by decide +kernel, by decide +kernel⟩
abbrev s_law_root : Stmt := topS 58
theorem sc_law_root : FnScope ["_law_number", "_law_low", "_law_high", "_law_middle"] ["_law_number"] (defScope s_law_root) := ⟨rfl, rfl, rfl, by decide +kernel, rfl, by decide +kernel, by decide +kernel⟩
abbrev s_law_common : Stmt := topS 59
theorem sc_law_common : FnScope ["_law_one", "_law_other"] ["_law_one", "_law_other"] (defScope s_law_common) := ⟨rfl, rfl, rfl, by decide +kernel, rfl, by decide +kernel, by decide +kernel⟩
abbrev s_law_lowest : Stmt := topS 60
theorem sc_law_lowest : FnScope ["_law_top", "_law_below_here", "_law_part"] ["_law_top", "_law_below_here"] (defScope s_law_lowest) := ⟨rfl, rfl, rfl, by decide +kernel, rfl, by decide +kernel, by decide +kernel⟩
abbrev s_law_made : Stmt := topS 61
theorem sc_law_made : FnScope ["_law_a", "_law_b", "_law_c", "_law_part"] ["_law_a", "_law_b", "_law_c"] (defScope s_law_made) := ⟨rfl, rfl, rfl, by decide +kernel, rfl, by decide +kernel, by decide +kernel⟩
abbrev s_law_sum : Stmt := topS 62
theorem sc_law_sum : FnScope ["_law_one", "_law_other", "_law_by", "_law_a"] ["_law_one", "_law_other", "_law_by"] (defScope s_law_sum) := ⟨rfl, rfl, rfl, by decide +kernel, rfl, by decide +kernel, by decide +kernel⟩
abbrev s_law_product : Stmt := topS 63
theorem sc_law_product : FnScope ["_law_one", "_law_other", "_law_d", "_law_a"] ["_law_one", "_law_other", "_law_d"] (defScope s_law_product) := ⟨rfl, rfl, rfl, by decide +kernel, rfl, by decide +kernel, by decide +kernel⟩
abbrev s_law_quotient : Stmt := topS 64
theorem sc_law_quotient : FnScope ["_law_one", "_law_other", "_law_d", "_law_size"] ["_law_one", "_law_other", "_law_d"] (defScope s_law_quotient) := ⟨rfl, rfl, rfl, by decide +kernel, rfl, by decide +kernel, by decide +kernel⟩
abbrev s_law_below : Stmt := topS 65
theorem sc_law_below : FnScope ["_law_one", "_law_d", "_law_size", "_law_root_here"] ["_law_one", "_law_d"] (defScope s_law_below) := ⟨rfl, rfl, rfl, by decide +kernel, rfl, by decide +kernel, by decide +kernel⟩
abbrev s_law_parts : Stmt := topS 66
theorem sc_law_parts : FnScope ["_law_one", "_law_d", "_law_many", "_law_found", "_law_part"] ["_law_one", "_law_d", "_law_many"] (defScope s_law_parts) := ⟨rfl, rfl, rfl, by decide +kernel, rfl, by decide +kernel, by decide +kernel⟩
abbrev s_law_mix : Stmt := topS 67
theorem sc_law_mix : FnScope ["_law_numbers", "_law_values", "_law_found", "_law_number", "_law_one"] ["_law_numbers", "_law_values"] (defScope s_law_mix) := ⟨rfl, rfl, rfl, by decide +kernel, rfl, by decide +kernel, by decide +kernel⟩
abbrev s_law_boxed : Stmt := topS 68
theorem sc_law_boxed : FnScope ["_law_numbers", "_law_values", "_law_d", "_law_many"] ["_law_numbers", "_law_values", "_law_d"] (defScope s_law_boxed) := ⟨rfl, rfl, rfl, by decide +kernel, rfl, by decide +kernel, by decide +kernel⟩
abbrev s_law_square : Stmt := topS 69
theorem sc_law_square : FnScope ["_law_row_here", "_law_d"] ["_law_row_here"] (defScope s_law_square) := ⟨rfl, rfl, rfl, by decide +kernel, rfl, by decide +kernel, by decide +kernel⟩
abbrev s_law_read : Stmt := topS 70
theorem sc_law_read : FnScope ["_law_made_here", "_law_many", "_law_most", "_law_found", "_law_k", "_law_step"] ["_law_made_here", "_law_many", "_law_most"] (defScope s_law_read) := ⟨rfl, rfl, rfl, by decide +kernel, rfl, by decide +kernel, by decide +kernel⟩
abbrev s_law_four : Stmt := topS 71
theorem sc_law_four : FnScope ["_law_row_here", "_law_numbers", "_law_k"] ["_law_row_here"] (defScope s_law_four) := ⟨rfl, rfl, rfl, by decide +kernel, rfl, by decide +kernel, by decide +kernel⟩
abbrev s_law : Stmt := topS 72
theorem sc_law : FnScope ["_law_script", "_law_row_here", "_law_d", "_law_numbers", "_law_top", "_law_times", "_law_below_here", "_law_one", "_law_due", "_law_found"] ["_law_script"] (defScope s_law) := ⟨rfl, rfl, rfl, by decide +kernel, rfl, by decide +kernel, by decide +kernel⟩
/-! ### the head: facts by names, the run -/
def d_wall : He.DefD := ⟨("_wall", none), "_wall", "_wall", defArgs s_wall, defBody s_wall, defScope s_wall, [], []⟩
def d_root_below : He.DefD := ⟨("root_below", none), "root_below", "root_below", defArgs s_root_below, defBody s_root_below, defScope s_root_below, [], []⟩
def d_Meter_init : He.DefD := ⟨("Meter", some "__init__"), "__init__", "Meter.__init__", defArgs s_Meter_init, defBody s_Meter_init, defScope s_Meter_init, [], []⟩
def d_Meter_allow : He.DefD := ⟨("Meter", some "allow"), "allow", "Meter.allow", defArgs s_Meter_allow, defBody s_Meter_allow, defScope s_Meter_allow, [], []⟩
def d_Meter_pay : He.DefD := ⟨("Meter", some "pay"), "pay", "Meter.pay", defArgs s_Meter_pay, defBody s_Meter_pay, defScope s_Meter_pay, [], []⟩
def d_FractionChain_init : He.DefD := ⟨("FractionChain", some "__init__"), "__init__", "FractionChain.__init__", defArgs s_FractionChain_init, defBody s_FractionChain_init, defScope s_FractionChain_init, [], []⟩
def d_FractionChain_has_ended : He.DefD := ⟨("FractionChain", some "has_ended"), "has_ended", "FractionChain.has_ended", defArgs s_FractionChain_has_ended, defBody s_FractionChain_has_ended, defScope s_FractionChain_has_ended, [], []⟩
def d_FractionChain_next_part : He.DefD := ⟨("FractionChain", some "next_part"), "next_part", "FractionChain.next_part", defArgs s_FractionChain_next_part, defBody s_FractionChain_next_part, defScope s_FractionChain_next_part, [], []⟩
def d_RootChain_init : He.DefD := ⟨("RootChain", some "__init__"), "__init__", "RootChain.__init__", defArgs s_RootChain_init, defBody s_RootChain_init, defScope s_RootChain_init, [], []⟩
def d_RootChain_has_ended : He.DefD := ⟨("RootChain", some "has_ended"), "has_ended", "RootChain.has_ended", defArgs s_RootChain_has_ended, defBody s_RootChain_has_ended, defScope s_RootChain_has_ended, [], []⟩
def d_RootChain_next_part : He.DefD := ⟨("RootChain", some "next_part"), "next_part", "RootChain.next_part", defArgs s_RootChain_next_part, defBody s_RootChain_next_part, defScope s_RootChain_next_part, [], []⟩
def d_RootChain_what_is_left : He.DefD := ⟨("RootChain", some "what_is_left"), "what_is_left", "RootChain.what_is_left", defArgs s_RootChain_what_is_left, defBody s_RootChain_what_is_left, defScope s_RootChain_what_is_left, [], []⟩
def d_RuledChain_init : He.DefD := ⟨("RuledChain", some "__init__"), "__init__", "RuledChain.__init__", defArgs s_RuledChain_init, defBody s_RuledChain_init, defScope s_RuledChain_init, [], []⟩
def d_RuledChain_has_ended : He.DefD := ⟨("RuledChain", some "has_ended"), "has_ended", "RuledChain.has_ended", defArgs s_RuledChain_has_ended, defBody s_RuledChain_has_ended, defScope s_RuledChain_has_ended, [], []⟩
def d_RuledChain_next_part : He.DefD := ⟨("RuledChain", some "next_part"), "next_part", "RuledChain.next_part", defArgs s_RuledChain_next_part, defBody s_RuledChain_next_part, defScope s_RuledChain_next_part, [], []⟩
def d_Leaf_init : He.DefD := ⟨("Leaf", some "__init__"), "__init__", "Leaf.__init__", defArgs s_Leaf_init, defBody s_Leaf_init, defScope s_Leaf_init, [], []⟩
def d_Leaf_ask : He.DefD := ⟨("Leaf", some "ask"), "ask", "Leaf.ask", defArgs s_Leaf_ask, defBody s_Leaf_ask, defScope s_Leaf_ask, [], []⟩
def d_leaf_of : He.DefD := ⟨("leaf_of", none), "leaf_of", "leaf_of", defArgs s_leaf_of, defBody s_leaf_of, defScope s_leaf_of, [], []⟩
def d_root_chain : He.DefD := ⟨("root_chain", none), "root_chain", "root_chain", defArgs s_root_chain, defBody s_root_chain, defScope s_root_chain, [], []⟩
def d_FractionBox_init : He.DefD := ⟨("FractionBox", some "__init__"), "__init__", "FractionBox.__init__", defArgs s_FractionBox_init, defBody s_FractionBox_init, defScope s_FractionBox_init, [], []⟩
def d_FractionBox_ask : He.DefD := ⟨("FractionBox", some "ask"), "ask", "FractionBox.ask", defArgs s_FractionBox_ask, defBody s_FractionBox_ask, defScope s_FractionBox_ask, [], []⟩
def d_FractionBox_nothing_left : He.DefD := ⟨("FractionBox", some "nothing_left"), "nothing_left", "FractionBox.nothing_left", defArgs s_FractionBox_nothing_left, defBody s_FractionBox_nothing_left, defScope s_FractionBox_nothing_left, [], []⟩
def d_FourBox_init : He.DefD := ⟨("FourBox", some "__init__"), "__init__", "FourBox.__init__", defArgs s_FourBox_init, defBody s_FourBox_init, defScope s_FourBox_init, [], []⟩
def d_FourBox_ask : He.DefD := ⟨("FourBox", some "ask"), "ask", "FourBox.ask", defArgs s_FourBox_ask, defBody s_FourBox_ask, defScope s_FourBox_ask, [], []⟩
def d_FourBox_tell : He.DefD := ⟨("FourBox", some "tell"), "tell", "FourBox.tell", defArgs s_FourBox_tell, defBody s_FourBox_tell, defScope s_FourBox_tell, [], []⟩
def d_FourBox_take : He.DefD := ⟨("FourBox", some "take"), "take", "FourBox.take", defArgs s_FourBox_take, defBody s_FourBox_take, defScope s_FourBox_take, [], []⟩
def d_EightBox_init : He.DefD := ⟨("EightBox", some "__init__"), "__init__", "EightBox.__init__", defArgs s_EightBox_init, defBody s_EightBox_init, defScope s_EightBox_init, [], []⟩
def d_EightBox_ask : He.DefD := ⟨("EightBox", some "ask"), "ask", "EightBox.ask", defArgs s_EightBox_ask, defBody s_EightBox_ask, defScope s_EightBox_ask, [], []⟩
def d_EightBox_tell : He.DefD := ⟨("EightBox", some "tell"), "tell", "EightBox.tell", defArgs s_EightBox_tell, defBody s_EightBox_tell, defScope s_EightBox_tell, [], []⟩
def d_EightBox_take : He.DefD := ⟨("EightBox", some "take"), "take", "EightBox.take", defArgs s_EightBox_take, defBody s_EightBox_take, defScope s_EightBox_take, [], []⟩
def d_EightBox_left_without : He.DefD := ⟨("EightBox", some "left_without"), "left_without", "EightBox.left_without", defArgs s_EightBox_left_without, defBody s_EightBox_left_without, defScope s_EightBox_left_without, [], []⟩
def d_box_of_one : He.DefD := ⟨("box_of_one", none), "box_of_one", "box_of_one", defArgs s_box_of_one, defBody s_box_of_one, defScope s_box_of_one, [], []⟩
def d_with_first_part : He.DefD := ⟨("with_first_part", none), "with_first_part", "with_first_part", defArgs s_with_first_part, defBody s_with_first_part, defScope s_with_first_part, [], []⟩
def d_with_second_part : He.DefD := ⟨("with_second_part", none), "with_second_part", "with_second_part", defArgs s_with_second_part, defBody s_with_second_part, defScope s_with_second_part, [], []⟩
def d_turned_over : He.DefD := ⟨("turned_over", none), "turned_over", "turned_over", defArgs s_turned_over, defBody s_turned_over, defScope s_turned_over, [], []⟩
def d_four_corners : He.DefD := ⟨("four_corners", none), "four_corners", "four_corners", defArgs s_four_corners, defBody s_four_corners, defScope s_four_corners, [], []⟩
def d_eight_corners : He.DefD := ⟨("eight_corners", none), "eight_corners", "eight_corners", defArgs s_eight_corners, defBody s_eight_corners, defScope s_eight_corners, [], []⟩
def d_sure_part : He.DefD := ⟨("sure_part", none), "sure_part", "sure_part", defArgs s_sure_part, defBody s_sure_part, defScope s_sure_part, [], []⟩
def d_check_tree : He.DefD := ⟨("check_tree", none), "check_tree", "check_tree", defArgs s_check_tree, defBody s_check_tree, defScope s_check_tree, [], []⟩
def d_check_at_depth : He.DefD := ⟨("check_at_depth", none), "check_at_depth", "check_at_depth", defArgs s_check_at_depth, defBody s_check_at_depth, defScope s_check_at_depth, [], []⟩
def d_require : He.DefD := ⟨("require", none), "require", "require", defArgs s_require, defBody s_require, defScope s_require, [], []⟩
def d_check_row : He.DefD := ⟨("check_row", none), "check_row", "check_row", defArgs s_check_row, defBody s_check_row, defScope s_check_row, [], []⟩
def d_is_whole : He.DefD := ⟨("is_whole", none), "is_whole", "is_whole", defArgs s_is_whole, defBody s_is_whole, defScope s_is_whole, [], []⟩
def d_check_fraction : He.DefD := ⟨("check_fraction", none), "check_fraction", "check_fraction", defArgs s_check_fraction, defBody s_check_fraction, defScope s_check_fraction, [], []⟩
def d_check_root : He.DefD := ⟨("check_root", none), "check_root", "check_root", defArgs s_check_root, defBody s_check_root, defScope s_check_root, [], []⟩
def d_check_ruled : He.DefD := ⟨("check_ruled", none), "check_ruled", "check_ruled", defArgs s_check_ruled, defBody s_check_ruled, defScope s_check_ruled, [], []⟩
def d_check_four : He.DefD := ⟨("check_four", none), "check_four", "check_four", defArgs s_check_four, defBody s_check_four, defScope s_check_four, [], []⟩
def d_check_eight : He.DefD := ⟨("check_eight", none), "check_eight", "check_eight", defArgs s_check_eight, defBody s_check_eight, defScope s_check_eight, [], []⟩
def d_check_line : He.DefD := ⟨("check_line", none), "check_line", "check_line", defArgs s_check_line, defBody s_check_line, defScope s_check_line, [], []⟩
def d_check_power : He.DefD := ⟨("check_power", none), "check_power", "check_power", defArgs s_check_power, defBody s_check_power, defScope s_check_power, [], []⟩
def d_Reading_init : He.DefD := ⟨("Reading", some "__init__"), "__init__", "Reading.__init__", defArgs s_Reading_init, defBody s_Reading_init, defScope s_Reading_init, [], []⟩
def d_Reading_part : He.DefD := ⟨("Reading", some "part"), "part", "Reading.part", defArgs s_Reading_part, defBody s_Reading_part, defScope s_Reading_part, [], []⟩
def d_Reading_took : He.DefD := ⟨("Reading", some "took"), "took", "Reading.took", defArgs s_Reading_took, defBody s_Reading_took, defScope s_Reading_took, [], []⟩
def d_reader : He.DefD := ⟨("reader", none), "reader", "reader", defArgs s_reader, defBody s_reader, defScope s_reader, [], []⟩
def d_box_of : He.DefD := ⟨("box_of", none), "box_of", "box_of", defArgs s_box_of, defBody s_box_of, defScope s_box_of, [], []⟩
def d_power_box : He.DefD := ⟨("power_box", none), "power_box", "power_box", defArgs s_power_box, defBody s_power_box, defScope s_power_box, [], []⟩
def d_law_row : He.DefD := ⟨("_law_row", none), "_law_row", "_law_row", defArgs s_law_row, defBody s_law_row, defScope s_law_row, [], []⟩
def d_law_taken : He.DefD := ⟨("_law_taken", none), "_law_taken", "_law_taken", defArgs s_law_taken, defBody s_law_taken, defScope s_law_taken, [], []⟩
def d_law_whole : He.DefD := ⟨("_law_whole", none), "_law_whole", "_law_whole", defArgs s_law_whole, defBody s_law_whole, defScope s_law_whole, [], []⟩
def d_law_signed : He.DefD := ⟨("_law_signed", none), "_law_signed", "_law_signed", defArgs s_law_signed, defBody s_law_signed, defScope s_law_signed, [], []⟩
def d_law_root : He.DefD := ⟨("_law_root", none), "_law_root", "_law_root", defArgs s_law_root, defBody s_law_root, defScope s_law_root, [], []⟩
def d_law_common : He.DefD := ⟨("_law_common", none), "_law_common", "_law_common", defArgs s_law_common, defBody s_law_common, defScope s_law_common, [], []⟩
def d_law_lowest : He.DefD := ⟨("_law_lowest", none), "_law_lowest", "_law_lowest", defArgs s_law_lowest, defBody s_law_lowest, defScope s_law_lowest, [], []⟩
def d_law_made : He.DefD := ⟨("_law_made", none), "_law_made", "_law_made", defArgs s_law_made, defBody s_law_made, defScope s_law_made, [], []⟩
def d_law_sum : He.DefD := ⟨("_law_sum", none), "_law_sum", "_law_sum", defArgs s_law_sum, defBody s_law_sum, defScope s_law_sum, [], []⟩
def d_law_product : He.DefD := ⟨("_law_product", none), "_law_product", "_law_product", defArgs s_law_product, defBody s_law_product, defScope s_law_product, [], []⟩
def d_law_quotient : He.DefD := ⟨("_law_quotient", none), "_law_quotient", "_law_quotient", defArgs s_law_quotient, defBody s_law_quotient, defScope s_law_quotient, [], []⟩
def d_law_below : He.DefD := ⟨("_law_below", none), "_law_below", "_law_below", defArgs s_law_below, defBody s_law_below, defScope s_law_below, [], []⟩
def d_law_parts : He.DefD := ⟨("_law_parts", none), "_law_parts", "_law_parts", defArgs s_law_parts, defBody s_law_parts, defScope s_law_parts, [], []⟩
def d_law_mix : He.DefD := ⟨("_law_mix", none), "_law_mix", "_law_mix", defArgs s_law_mix, defBody s_law_mix, defScope s_law_mix, [], []⟩
def d_law_boxed : He.DefD := ⟨("_law_boxed", none), "_law_boxed", "_law_boxed", defArgs s_law_boxed, defBody s_law_boxed, defScope s_law_boxed, [], []⟩
def d_law_square : He.DefD := ⟨("_law_square", none), "_law_square", "_law_square", defArgs s_law_square, defBody s_law_square, defScope s_law_square, [], []⟩
def d_law_read : He.DefD := ⟨("_law_read", none), "_law_read", "_law_read", defArgs s_law_read, defBody s_law_read, defScope s_law_read, [], []⟩
def d_law_four : He.DefD := ⟨("_law_four", none), "_law_four", "_law_four", defArgs s_law_four, defBody s_law_four, defScope s_law_four, [], []⟩
def d_law : He.DefD := ⟨("law", none), "law", "law", defArgs s_law, defBody s_law, defScope s_law, [], []⟩
def fnL : List He.DefD := ([d_wall, d_root_below, d_Meter_init, d_Meter_allow, d_Meter_pay, d_FractionChain_init, d_FractionChain_has_ended, d_FractionChain_next_part, d_RootChain_init, d_RootChain_has_ended, d_RootChain_next_part, d_RootChain_what_is_left, d_RuledChain_init, d_RuledChain_has_ended, d_RuledChain_next_part, d_Leaf_init, d_Leaf_ask, d_leaf_of, d_root_chain, d_FractionBox_init, d_FractionBox_ask, d_FractionBox_nothing_left, d_FourBox_init, d_FourBox_ask, d_FourBox_tell, d_FourBox_take, d_EightBox_init, d_EightBox_ask, d_EightBox_tell, d_EightBox_take] : List He.DefD) ++ ([d_EightBox_left_without, d_box_of_one, d_with_first_part, d_with_second_part, d_turned_over, d_four_corners, d_eight_corners, d_sure_part, d_check_tree, d_check_at_depth, d_require, d_check_row, d_is_whole, d_check_fraction, d_check_root, d_check_ruled, d_check_four, d_check_eight, d_check_line, d_check_power, d_Reading_init, d_Reading_part, d_Reading_took, d_reader, d_box_of, d_power_box, d_law_row, d_law_taken, d_law_whole, d_law_signed] : List He.DefD) ++ ([d_law_root, d_law_common, d_law_lowest, d_law_made, d_law_sum, d_law_product, d_law_quotient, d_law_below, d_law_parts, d_law_mix, d_law_boxed, d_law_square, d_law_read, d_law_four, d_law] : List He.DefD)
def faL : List He.Fa := ([.free "len", .free "isinstance", .free "range", .free "zip", .free "abs", .free "divmod", .free "min", .free "all", .free "any", .free "list", .free "tuple", .free "str", .free "int", .free "bool", .free "sum", .free "max", .exc "NoValue", .exm "NoValue" "NoValue" true, .glo "_wall", .glo "PartError", .glo "BadTree", .glo "NoValue", .glo "root_below", .glo "END", .glo "WAITS", .glo "Meter", .cls "Meter", .mkr "Meter", .meth "Meter" "allow", .meth "Meter" "pay"] : List He.Fa) ++ ([.noat "Meter" "left", .noat "Meter" "spent", .glo "FractionChain", .cls "FractionChain", .mkr "FractionChain", .meth "FractionChain" "has_ended", .meth "FractionChain" "next_part", .noat "FractionChain" "top", .noat "FractionChain" "below", .glo "RootChain", .cls "RootChain", .mkr "RootChain", .meth "RootChain" "has_ended", .meth "RootChain" "next_part", .meth "RootChain" "what_is_left", .noat "RootChain" "top", .noat "RootChain" "square", .noat "RootChain" "below", .noat "RootChain" "root", .glo "RuledChain", .cls "RuledChain", .mkr "RuledChain", .meth "RuledChain" "has_ended", .meth "RuledChain" "next_part", .noat "RuledChain" "parts", .noat "RuledChain" "ring", .noat "RuledChain" "steps", .noat "RuledChain" "at", .glo "Leaf", .cls "Leaf"] : List He.Fa) ++ ([.mkr "Leaf", .meth "Leaf" "ask", .noat "Leaf" "chain", .glo "leaf_of", .glo "root_chain", .glo "FractionBox", .cls "FractionBox", .mkr "FractionBox", .meth "FractionBox" "ask", .meth "FractionBox" "nothing_left", .noat "FractionBox" "top", .noat "FractionBox" "below", .noat "FractionBox" "told", .glo "FourBox", .cls "FourBox", .mkr "FourBox", .meth "FourBox" "ask", .meth "FourBox" "tell", .meth "FourBox" "take", .noat "FourBox" "numbers", .noat "FourBox" "tree", .noat "FourBox" "started", .noat "FourBox" "told", .noat "FourBox" "rest", .glo "EightBox", .cls "EightBox", .mkr "EightBox", .meth "EightBox" "ask", .meth "EightBox" "tell", .meth "EightBox" "take"] : List He.Fa) ++ ([.meth "EightBox" "left_without", .noat "EightBox" "numbers", .noat "EightBox" "trees", .noat "EightBox" "taken", .noat "EightBox" "told", .noat "EightBox" "rest", .glo "box_of_one", .glo "with_first_part", .glo "with_second_part", .glo "turned_over", .glo "four_corners", .glo "eight_corners", .glo "sure_part", .int "MOST_NUMBER" 1000000000000, .int "MOST_DEPTH" 5, .int "MOST_PARTS" 12, .int "MOST_POWER" 4, .glo "check_tree", .glo "check_at_depth", .glo "require", .glo "check_row", .glo "is_whole", .glo "check_fraction", .glo "check_root", .glo "check_ruled", .glo "check_four", .glo "check_eight", .glo "check_line", .glo "check_power", .glo "LENGTHS"] : List He.Fa) ++ ([.glo "CHECKS", .glo "TIMES", .glo "Reading", .cls "Reading", .mkr "Reading", .meth "Reading" "part", .meth "Reading" "took", .noat "Reading" "box", .noat "Reading" "meter", .glo "reader", .glo "box_of", .glo "power_box", .glo "_law_row", .glo "_law_taken", .glo "_law_whole", .glo "_law_signed", .glo "_law_root", .glo "_law_common", .glo "_law_lowest", .glo "_law_made", .glo "_law_sum", .glo "_law_product", .glo "_law_quotient", .glo "_law_below", .glo "_law_parts", .glo "_law_mix", .glo "_law_boxed", .glo "_law_square", .glo "_law_read", .glo "_law_four"] : List He.Fa) ++ ([.glo "law"] : List He.Fa)
def tsL : List He.Tab := [(fun K => He.ga K "LENGTHS", ["fraction", "root", "ruled", "four", "eight", "power"]), (fun K => He.ga K "CHECKS", ["fraction", "root", "ruled", "four", "eight", "power"])]
/-! ### a head whose piece of the heap holds the interpreter's own tables, too -/
section
open PySem PySem.W PySem.Calls PyProof.Rows
def frY (n : Nat) (g : Addr → Option Obj) : Frag := He.frT g (He.asD g n ++ [cStatics, sysModules])
def obsY (n : Nat) (fa : List He.Fa) (fn : List He.DefD) (ts : List He.Tab) (ex : Frag → Bool) (g : Addr → Option Obj) : He.AlX := (He.obsT fa fn ts (frY n g), ex (frY n g))
def hookY (n : Nat) (fa : List He.Fa) (fn : List He.DefD) (ts : List He.Tab) (ex : Frag → Bool) : Hook where
  α := He.AlX
  val := He.valX fn ts
  obs := fun s => obsY n fa fn ts ex (fun a => s.heap.get? a)
  says := fun w h => ∃ K : Frag, K.In h ∧ He.SaysX fa fn ts [] ex w h K
  of := fun _ s e => ⟨frY n s.heap.get?, He.frT_in, congrArg (fun z : He.AlX => z.1) e, congrArg (fun z : He.AlX => z.2) e, nofun, nofun, nofun⟩
  keeps := fun _ _ _ z k => ⟨z.choose, z.choose_spec.1.keeps k, z.choose_spec.2.t, z.choose_spec.2.more, nofun, nofun, nofun⟩
theorem obsY_eq {n : Nat} {fa : List He.Fa} {fn : List He.DefD} {ts : List He.Tab} {ex : Frag → Bool} {g : Addr → Option Obj} {s : Shared} (h : ∀ a, g a = s.heap.get? a) : obsY n fa fn ts ex g = (hookY n fa fn ts ex).obs s := by
  obtain rfl : g = fun a => s.heap.get? a := funext h
  rfl
def noneB (K : Frag) (a : Addr) (x : Str) : Bool := match nsIn K a x with
  | some none => true
  | _ => false
def modB (K : Frag) : Bool := match nsIn K mainGlobals "__builtins__" with
  | some (some (.ref b)) => (match K.lookup b with
    | some o => (match o.cls with
      | .type x => x == "module" && decide (o.dict = some builtinsNs)
      | _ => false)
    | none => false)
  | _ => false
def seerB (K : Frag) : Bool := nsOkIn K cStatics && (noneB K cStatics "sys.audit-hooks" && (noneB K cStatics "sys.dict" && (nsOkIn K sysModules && (noneB K sysModules "_pylong" && modB K))))
theorem noneB_ok {K : Frag} {a : Addr} {x : Str} (h : noneB K a x = true) : nsIn K a x = some none := by
  unfold noneB at h
  split at h
  · assumption
  · cases h
theorem modB_ok {K : Frag} (h : modB K = true) : ∃ b o, nsIn K mainGlobals "__builtins__" = some (some (.ref b)) ∧ K.lookup b = some o ∧ o.cls = .type "module" ∧ o.dict = some builtinsNs := by
  unfold modB at h
  split at h
  · rename_i b e
    split at h
    · rename_i o lk
      split at h
      · rename_i x ec
        obtain ⟨h1, h2⟩ := He.ba h
        rw [beq_iff_eq.mp h1] at ec
        exact ⟨b, o, e, lk, ec, of_decide_eq_true h2⟩
      · cases h
    · cases h
  · cases h
theorem seer_ok {K : Frag} {mg : Str → Option Value} (h : seerB K = true) : ∀ b : Heap, L2.Mod K mg b → b.NoSeer := by
  intro hp M
  obtain ⟨c1, h⟩ := He.ba h
  obtain ⟨c2, h⟩ := He.ba h
  obtain ⟨c3, h⟩ := He.ba h
  obtain ⟨m1, h⟩ := He.ba h
  obtain ⟨m2, h⟩ := He.ba h
  obtain ⟨b, o, e1, e2, e3, e4⟩ := modB_ok h
  exact ⟨⟨_, .of_isNs (isNs_of_in M.kin c1), nsMap_none_of_in M.kin c1 (noneB_ok c2), nsMap_none_of_in M.kin c1 (noneB_ok c3)⟩, ⟨_, .of_isNs (isNs_of_in M.kin m1), nsMap_none_of_in M.kin m1 (noneB_ok m2)⟩, M.blt, ⟨mg, b, o, M.glob, mg_of M.kin M.glob e1, M.kin _ _ e2, e3, e4⟩⟩
end
open He in
def exL (K : PySem.W.Frag) : Bool := tupB K "END" [.str "end"] && (tupB K "WAITS" [.str "waits"] && (valsB K (ga K "LENGTHS") [("fraction", .int 3), ("root", .int 4), ("ruled", .int 4), ("four", .int 3), ("eight", .int 4), ("power", .int 3)] && (valsB K (ga K "CHECKS") [("fraction", .glo "check_fraction"), ("root", .glo "check_root"), ("ruled", .glo "check_ruled"), ("four", .glo "check_four"), ("eight", .glo "check_eight"), ("power", .glo "check_power")] && (tupB K "TIMES" [.int 1, .int 0, .int 0, .int 0, .int 0, .int 0, .int 0, .int 1] && (seerB K)))))
def looseL : List Str := (["_wall", "PartError", "BadTree", "NoValue", "root_below", "END", "WAITS", "Meter", "FractionChain", "RootChain", "RuledChain", "Leaf", "leaf_of", "root_chain", "FractionBox", "FourBox", "EightBox", "box_of_one", "with_first_part", "with_second_part", "turned_over", "four_corners", "eight_corners", "sure_part", "MOST_NUMBER", "MOST_DEPTH", "MOST_PARTS", "MOST_POWER", "check_tree", "check_at_depth"] : List Str) ++ (["require", "check_row", "is_whole", "check_fraction", "check_root", "check_ruled", "check_four", "check_eight", "check_line", "check_power", "LENGTHS", "CHECKS", "TIMES", "Reading", "reader", "box_of", "power_box", "_law_row", "_law_taken", "_law_whole", "_law_signed", "_law_root", "_law_common", "_law_lowest", "_law_made", "_law_sum", "_law_product", "_law_quotient", "_law_below", "_law_parts"] : List Str) ++ (["_law_mix", "_law_boxed", "_law_square", "_law_read", "_law_four"] : List Str)
abbrev hk : PySem.W.Hook := hookY 4 faL fnL tsL exL
def ob (s : PySem.W.SharedT) : He.AlX := obsY 4 faL fnL tsL exL (HandSHeadRun.getT s)
theorem ob_eq (s : PySem.W.SharedT) : ob s = hk.obs s.abs := obsY_eq (HandSHeadRun.getT_eq s)
section
open PySem PySem.W PySem.Calls PyProof.Rows HandSHeadRun
theorem map3 {α β γ δ : Type _} {o : Option α} {f : α → β} {g : α → γ} {h : α → δ} {x : β} {y : γ} {z : δ} (a : o.map f = some x) (b : o.map g = some y) (c : o.map h = some z) : o.map (fun s => (f s, g s, h s)) = some (x, y, z) := by
  cases o with
  | none => cases a
  | some s => cases a; cases b; cases c; rfl
def RunA (r : OpenRow) (M : Nat) (w : World) : Prop := ∀ os : OsState, (endF (stepQ (denQ tabQ) r.prog w) M r.prog w os).map (fun s => looksF r.prog (boot_heap w.params) s.abs) = some true
def RunB (r : OpenRow) (q : Program) (M : Nat) (loose : List PySem.Str) (w : World) : Prop := ∀ os : OsState, (endF (stepQ (denQ tabQ) r.prog w) M r.prog w os).map (fun s => seenQ q loose (importedModules r.prog.main.body) (fun s => xlAt q [] s && recOk r.toRowW.records s) s.abs) = some (openGood q loose)
def RunC (r : OpenRow) (H : Hook) (ob : SharedT → H.α) (M : Nat) (w : World) : Prop := ∀ os : OsState, (endF (stepQ (denQ tabQ) r.prog w) M r.prog w os).map (fun s => ob s) = some (H.val w)
theorem run_of {r : OpenRow} {q : Program} {H : Hook} {ob : SharedT → H.α} {M : Nat} {loose : List PySem.Str} {w : World} (a : RunA r M w) (b : RunB r q M loose w) (c : RunC r H ob M w) : RunEq r q H ob M loose w := fun os => map3 (a os) (b os) (c os)
end
set_option maxHeartbeats 0 in
theorem run0a (w : World) : RunA (PySem.W.OpenLaw.row PySem.Challenge.rw_chainparts_k09_four_of_roots) 7500 (w.withFollow "special-get-raises" false) := by
  intro os
  kernel_rfl
set_option maxHeartbeats 0 in
theorem run0b (w : World) : RunB (PySem.W.OpenLaw.row PySem.Challenge.rw_chainparts_k09_four_of_roots) (PySem.W.view (PySem.W.OpenLaw.row PySem.Challenge.rw_chainparts_k09_four_of_roots).prog [72]) 7500 looseL (w.withFollow "special-get-raises" false) := by
  intro os
  kernel_rfl
set_option maxHeartbeats 0 in
theorem run0c (w : World) : RunC (PySem.W.OpenLaw.row PySem.Challenge.rw_chainparts_k09_four_of_roots) hk ob 7500 (w.withFollow "special-get-raises" false) := by
  intro os
  kernel_rfl
theorem run0 (w : World) : HandSHeadRun.RunEq (PySem.W.OpenLaw.row PySem.Challenge.rw_chainparts_k09_four_of_roots) (PySem.W.view (PySem.W.OpenLaw.row PySem.Challenge.rw_chainparts_k09_four_of_roots).prog [72]) hk ob 7500 looseL (w.withFollow "special-get-raises" false) := run_of (run0a w) (run0b w) (run0c w)
set_option maxHeartbeats 0 in
theorem run1a (w : World) : RunA (PySem.W.OpenLaw.row PySem.Challenge.rw_chainparts_k09_four_of_roots) 7500 (w.withFollow "special-get-raises" true) := by
  intro os
  kernel_rfl
set_option maxHeartbeats 0 in
theorem run1b (w : World) : RunB (PySem.W.OpenLaw.row PySem.Challenge.rw_chainparts_k09_four_of_roots) (PySem.W.view (PySem.W.OpenLaw.row PySem.Challenge.rw_chainparts_k09_four_of_roots).prog [72]) 7500 looseL (w.withFollow "special-get-raises" true) := by
  intro os
  kernel_rfl
set_option maxHeartbeats 0 in
theorem run1c (w : World) : RunC (PySem.W.OpenLaw.row PySem.Challenge.rw_chainparts_k09_four_of_roots) hk ob 7500 (w.withFollow "special-get-raises" true) := by
  intro os
  kernel_rfl
theorem run1 (w : World) : HandSHeadRun.RunEq (PySem.W.OpenLaw.row PySem.Challenge.rw_chainparts_k09_four_of_roots) (PySem.W.view (PySem.W.OpenLaw.row PySem.Challenge.rw_chainparts_k09_four_of_roots).prog [72]) hk ob 7500 looseL (w.withFollow "special-get-raises" true) := run_of (run1a w) (run1b w) (run1c w)
theorem run (w : World) : HandSHeadRun.RunEq (PySem.W.OpenLaw.row PySem.Challenge.rw_chainparts_k09_four_of_roots) (PySem.W.view (PySem.W.OpenLaw.row PySem.Challenge.rw_chainparts_k09_four_of_roots).prog [72]) hk ob 7500 looseL w := PySem.W.byRow2 "special-get-raises" (P := fun w => HandSHeadRun.RunEq (PySem.W.OpenLaw.row PySem.Challenge.rw_chainparts_k09_four_of_roots) (PySem.W.view (PySem.W.OpenLaw.row PySem.Challenge.rw_chainparts_k09_four_of_roots).prog [72]) hk ob 7500 looseL w) run0 run1 w
/-! ### calls of defs, in short -/
/-- no files were given with the program -/
class NoTree (P : Program) : Prop where
  tree : P.given.tree = none
/-- * of two factors of together less than a hundred million bits -/
def CMulW (i j : Int) : Prop := i.natAbs.log2 + j.natAbs.log2 < 100000000
theorem CMulW.ok {i j : Int} (h : CMulW i j) : PySem.IntMulOk i j := by
  intro z
  have bd : ∀ x : Int, Builtin.Int.intBits x ≤ x.natAbs.log2 + 1 := by
    intro x
    unfold Builtin.Int.intBits
    split <;> omega
  have b1 := bd i
  have b2 := bd j
  have hh : i.natAbs.log2 + j.natAbs.log2 < 100000000 := h
  have z1 := (Bool.and_eq_true_iff.mp z).2
  unfold Builtin.Int.intTooBig at z1
  have z2 := of_decide_eq_true z1
  rw [show bitsLine = 134217728 from by decide] at z2
  omega
theorem op_mulW {X : Cx} : OpR X (binaryOp .Mult) (rI CMulW fun i j => .int (i * j)) := opI fun i j _ _ _ _ _ c r => PyProof.Rows.mul_int r (CMulW.ok c)
theorem wide_mul {i j : Int} {a b : Nat} (ha : i.natAbs < 2 ^ a) (hb : j.natAbs < 2 ^ b) (h0 : 0 < a) (h1 : 0 < b) (h : a + b ≤ 100000000) : CMulW i j := by
  have l1 := PySem.Flt.log2_lt_of h0 ha
  have l2 := PySem.Flt.log2_lt_of h1 hb
  show i.natAbs.log2 + j.natAbs.log2 < 100000000
  omega
/-- the def x of the text stands at f, no one else bears its name -/
structure DefAt (K : PySem.W.Frag) (mg : Str → Option Value) (x : Str) (st : Stmt) (ps : List Str) (f : Addr) (fd : FuncData) : Prop where
  fn : Fun K x x st f fd
  mgx : mg x = some (.ref f)
  bd : Binds K fd ps []
/-- the def x keeps the promise sp, at level k -/
def COk (P : Program) (w : World) (K : PySem.W.Frag) (mg : Str → Option Value) (base : Heap) (CX : CXT) (k : Nat) (x : Str) (ps : List Str) (sp : Sp) : Prop :=
  ∃ (f : Addr) (fd : FuncData), FnOk P w K mg base CX k f fd ps sp ∧ mg x = some (.ref f) ∧ PySem.W.keepIn K (.ref f) = true ∧ Binds K fd ps []
theorem COk.of {P : Program} {w : World} {K : PySem.W.Frag} {mg : Str → Option Value} {base : Heap} {CX : CXT} {k : Nat} {x : Str} {st : Stmt} {ps : List Str} {sp : Sp} {f : Addr} {fd : FuncData}
    (D : DefAt K mg x st ps f fd) (h : FnOk P w K mg base CX k f fd ps sp) : COk P w K mg base CX k x ps sp := ⟨f, fd, h, D.mgx, D.fn.kp, D.bd⟩
theorem COk.mono {P : Program} {w : World} {K : PySem.W.Frag} {mg : Str → Option Value} {base : Heap} {CX : CXT} {k j : Nat} {x : Str} {ps : List Str} {sp : Sp}
    (h : COk P w K mg base CX k x ps sp) (hk : k ≤ j) : COk P w K mg base CX j x ps sp := by
  obtain ⟨f, fd, F, a, b, c⟩ := h
  exact ⟨f, fd, F.mono hk, a, b, c⟩
section
variable {X : Cx} {k : Nat} {x : Str} {ps : List Str} {sp : Sp} {e : Expr} {es : List Expr} {t : TA} {p pos : Pos}
theorem pe_c (C : COk X.prog X.w X.K X.mg X.base CX0 k x ps sp) (hr : Room k X.A) (ha : PA X (e :: es) t) (hg : Gl X x := by rfl)
    (hdb : (x == ("__debug__" : Str)) = false := by decide) (he : starEach (e :: es) X.env = (false, eval e X.env) :: starEach es X.env := by rfl) (hpl : (backTo pos (starEach es X.env)).any (·.1) = false := by rfl) :
    PE X (.Call (.Name x p) (e :: es) [] pos) (tCall sp [] E0 t) := by
  obtain ⟨f, fd, F, a, b, c⟩ := C
  exact pe_call F hr hg a b c .nil pass0 ha hdb he hpl
/-- one of two readings -/
theorem pe_alt {e : Expr} {t u : TE} (h : PE X e t) (h' : PE X e u) : PE X e (fun σ H Q => t σ H Q ∨ u σ H Q) :=
  ⟨fun pins s σ H Q I q => q.elim (h.run pins s σ H Q I) (h'.run pins s σ H Q I)⟩
/-- // by any divisor but nought -/
def CDivS (_ j : Int) : Prop := j ≠ 0 ∧ j.natAbs < 2 ^ 8000
theorem op_fdivS : OpR X (binaryOp .FloorDiv) (rI CDivS fun i j => .int (i.fdiv j)) := opI fun _ _ _ _ _ _ _ hc q =>
  PyProof.Rows.floordiv_int hc.1 q (.inl (PyProof.noPylong_of_log2 (Nat.lt_of_lt_of_le (PySem.Flt.log2_lt_of (k := 8000) (by decide) hc.2) (by decide))))
/-- ** of great ints -/
def CPowW (i j : Int) : Prop := 0 ≤ j ∧ (Builtin.Int.intBits i : Int) * j ≤ 2 ^ 27
/-- a written power -/
theorem pe_powc {a n v : Int} {j j' : Nat} {p p' pos : Pos} (h : a ^ n.toNat = v) (hc : CPow a n) : PE X (.BinOp (.Constant (.int a) j p) .Pow (.Constant (.int n) j' p') pos) (tC (.int v)) := by
  refine ⟨fun pins s σ H Q I q => ?_⟩
  have q' : Q (.int (a ^ n.toNat)) H := by rw [h]; exact q
  exact (pe_op op_pow pe_int pe_int).run pins s σ H Q I ⟨a, n, rfl, rfl, hc, q'⟩
/-- x ** 2 -/
def CSq (i : Int) : Prop := (Builtin.Int.intBits i : Int) * 2 ≤ 2 ^ 27
theorem op_sq : OpR X (binaryOp .Pow) (fun x y H Q => ∃ i, x = .int i ∧ y = .int 2 ∧ CSq i ∧ Q (.int (i * i)) H) := by
  intro pins s σ H x y v u Q I rx ry h
  obtain ⟨i, rfl, rfl, hc, q⟩ := h
  have e : i ^ (2 : Int).toNat = i * i := by
    show i ^ 2 = i * i
    grind
  exact (opI fun _ _ _ _ _ _ _ hc q => PyProof.Rows.pow_int hc.1 hc.2 q : OpR X (binaryOp .Pow) (rI CPowW fun i j => .int (i ^ j.toNat))) pins s σ H _ _ v u Q I rx ry ⟨i, 2, rfl, rfl, ⟨by decide, hc⟩, by show Q (.int (i ^ (2 : Int).toNat)) H; rw [e]; exact q⟩
theorem op_powW : OpR X (binaryOp .Pow) (rI CPowW fun i j => .int (i ^ j.toNat)) := opI fun _ _ _ _ _ _ _ hc q => PyProof.Rows.pow_int hc.1 hc.2 q
end
theorem same_upd {H : Hp} {p : Addr} {o : HO} (h : H p = none) : Same H (upd H p o) := fun b x e => by
  rw [upd_ne (ne_of_none e h)]
  exact e
theorem defAt_mk {K : PySem.W.Frag} {mg : Str → Option Value} {h : Heap} {x : Str} {st : Stmt} {ps : List Str} {f : Addr} {oc : Value} {od an : Option Addr} {osl : Array (Option Value)} {kV doc pm cdv ct : Value}
    (X : K.In h) (G : h.Ns mainGlobals mg) (a : PySem.W.nsIn K mainGlobals x = some (some (.ref f)))
    (l : K.lookup f = some ⟨oc, od, .func (PySem.W.fnOf x x (defArgs st) (defBody st) (defScope st) .none kV doc pm an cdv ct), osl⟩) (c : PySem.W.codeIn K cdv x = true) (k : PySem.W.keepIn K (.ref f) = true)
    (hb : ∀ (kV doc pm : Value) (an : Option Addr) (cdv ct : Value) (us : List Value), us.length = ps.length → bindArgs (PySem.W.fnOf x x (defArgs st) (defBody st) (defScope st) .none kV doc pm an cdv ct) ⟨us, []⟩ = pure (ps.zip us)) :
    DefAt K mg x st ps f (PySem.W.fnOf x x (defArgs st) (defBody st) (defScope st) .none kV doc pm an cdv ct) :=
  ⟨fun_mk l c k, PySem.W.mg_of X G a, (fun_mk (st := st) l c k).binds hb⟩
/-- the built-ins' names are still their own -/
structure BT (mg : Str → Option Value) : Prop where
  b_len : mg "len" = none
  b_isinstance : mg "isinstance" = none
  b_range : mg "range" = none
  b_zip : mg "zip" = none
  b_abs : mg "abs" = none
  b_divmod : mg "divmod" = none
  b_min : mg "min" = none
  b_all : mg "all" = none
  b_any : mg "any" = none
  b_list : mg "list" = none
  b_tuple : mg "tuple" = none
  b_str : mg "str" = none
  b_int : mg "int" = none
  b_bool : mg "bool" = none
  b_sum : mg "sum" = none
  b_max : mg "max" = none
/-! ### what the laws' own helpers do: a row of numbers is drawn from the script -/
/-- the script at a: known, never written -/
def ScrAt (K : PySem.W.Frag) (H : Hp) (a : Addr) (ns : List Int) : Prop := (∃ o, H a = some (.frz o (.lst (ns.map V.int)))) ∨ ∀ H', SqL K H' a (ns.map V.int)
theorem ScrAt.seq {K : PySem.W.Frag} {H : Hp} {a : Addr} {ns : List Int} (h : ScrAt K H a ns) : SqL K H a (ns.map V.int) := by
  rcases h with ⟨o, h⟩ | h
  · exact .inl (.inr ⟨o, h⟩)
  · exact h H
theorem ScrAt.of {K : PySem.W.Frag} {H : Hp} {a : Addr} {ns : List Int} (hO : Only H) (h : SqL K H a (ns.map V.int)) : ScrAt K H a ns := by
  rcases h with (h | ⟨o, h⟩) | h
  · rcases hO a with z | ⟨o, xs, z⟩
    · rw [z] at h; cases h
    · rw [z] at h; cases h
  · exact .inl ⟨o, h⟩
  · exact .inr fun _ => .inr h
theorem ScrAt.same {K : PySem.W.Frag} {H H' : Hp} {a : Addr} {ns : List Int} (h : ScrAt K H a ns) (s : Same H H') : ScrAt K H' a ns := by
  rcases h with ⟨o, h⟩ | h
  · exact .inl ⟨o, s _ _ h⟩
  · exact .inr h
/-- what is no locked thing may be written -/
theorem ScrAt.but {K : PySem.W.Frag} {H H' : Hp} {a r : Addr} {ns : List Int} (h : ScrAt K H a ns) (hr : ∀ o u, H r ≠ some (.frz o u)) (k : ∀ b o, H b = some o → b ≠ r → H' b = some o) : ScrAt K H' a ns := by
  rcases h with ⟨o, h⟩ | h
  · exact .inl ⟨o, k _ _ h fun z => by rw [z] at h; exact hr _ _ h⟩
  · exact .inr h
theorem no_frz {H : Hp} {r : Addr} {xs : List V} (h : H r = some (.lst xs)) : ∀ o u, H r ≠ some (.frz o u) := fun o u z => by rw [h] at z; cases z
/-- the row at r: the script at a (ns), a place in it, what is left of a great number, a mixed number -/
structure RowAt (K : PySem.W.Frag) (H : Hp) (r a : Addr) (ns : List Int) : Prop where
  row : ∃ (i : Nat) (left mixed : Int), H r = some (.lst [.ref a, .int i, .int left, .int mixed]) ∧ i ≤ ns.length ∧ 0 ≤ left ∧ 0 ≤ mixed ∧ mixed < 2147483647
  scr : ScrAt K H a ns
theorem ref_ne {a : Addr} {xs : List V} (ns : List Int) : V.ref a :: xs ≠ ns.map V.int := by
  cases ns with
  | nil => intro z; cases z
  | cons n r => intro z; rw [List.map_cons] at z; cases (List.cons.inj z).1
theorem RowAt.same {K : PySem.W.Frag} {H H' : Hp} {r a : Addr} {ns : List Int} (R : RowAt K H r a ns) (s : Same H H') : RowAt K H' r a ns := by
  obtain ⟨⟨i, l, m, e, z⟩, hS⟩ := R
  exact ⟨⟨i, l, m, s _ _ e, z⟩, hS.same s⟩
/-- a list other than the row is written -/
theorem RowAt.put {K : PySem.W.Frag} {H : Hp} {r a d : Addr} {ns : List Int} {xs ys : List V} (R : RowAt K H r a ns) (hd : H d = some (.lst xs)) (ne : d ≠ r) : RowAt K (upd H d (.lst ys)) r a ns := by
  obtain ⟨⟨i, l, m, e, z⟩, hS⟩ := R
  exact ⟨⟨i, l, m, by rw [upd_ne ne.symm]; exact e, z⟩, hS.but (no_frz hd) fun b o h hb => by rw [upd_ne hb]; exact h⟩
theorem RowAt.at_ {K : PySem.W.Frag} {H : Hp} {r a : Addr} {ns : List Int} (R : RowAt K H r a ns) : ∃ x xs, H r = some (.lst (.ref x :: xs)) := by
  obtain ⟨⟨i, l, m, e, z⟩, hS⟩ := R
  exact ⟨_, _, e⟩
def sp_law_row (K : PySem.W.Frag) : Sp := fun vs H Q _ => ∃ (a : Addr) (ns : List Int), vs = [.ref a] ∧ ScrAt K H a ns ∧ ns.length ≤ 63 ∧
  ∀ r H', H r = none → Same H H' → RowAt K H' r a ns → Q (.ref r) H'
/-- a drawn number: any one below many; only the row's list changes -/
def sp_law_taken (K : PySem.W.Frag) : Sp := fun vs H Q _ => ∃ (r a : Addr) (ns : List Int) (many : Int), vs = [.ref r, .int many] ∧ RowAt K H r a ns ∧ 0 < many ∧ many < 2 ^ 8000 ∧
  ∀ v H', 0 ≤ v → v < many → RowAt K H' r a ns → (∀ b o, H b = some o → b ≠ r → H' b = some o) → Q (.int v) H'
section
variable {P : Program} {w : World} {K : PySem.W.Frag} {mg : Str → Option Value} {base : Heap}
theorem ok_law_row {f : Addr} {fd : FuncData} (F : Fun K "_law_row" "_law_row" s_law_row f fd) : FnOk P w K mg base CX0 1 f fd ["_law_script"] (sp_law_row K) := by
  refine F.ok sc_law_row (fun vs H Q E h => ?_) (fun cdv A outer s H vs Q E hr h => ?_)
  · obtain ⟨a, ns, rfl, _⟩ := h
    rfl
  · obtain ⟨a, ns, rfl, hC, hlen, k⟩ := h
    have hS := hC.seq
    refine ⟨_, (pss_cons (ps_set (i := 1) sc_law_row.nd rfl (Or.inl rfl) pe_int)
    (pss_cons (ps_for PassesOwn.never rfl (pi_list (pv 0)) (pg_name (i := 2) sc_law_row.nd rfl (Or.inl rfl))
      (pss_one (ps_set (i := 1) sc_law_row.nd rfl (Or.inl rfl) (pe_op op_mod (pe_op op_add (pe_op op_add (pe_op op_mul (pv 1) pe_int) (pv 2)) pe_int) pe_int))))
    (pss_one (ps_ret (pe_lst (pa_cons (pv 0) (pa_cons pe_int (pa_cons pe_int (pa_cons (pv 1) pa_nil))))))))), ?_⟩
    refine ⟨_, rfl, a, rfl, ⟨_, hS⟩, for_list (K := K) (a := a) (xs := ns.map V.int) (fun i σ H2 => ∃ (m : Int) (v : Option V), σ = [some (.ref a), some (.int m), v] ∧ 0 ≤ m ∧ m < 2147483647 ∧ H2 = H)
      ⟨7, none, rfl, by decide, by decide, rfl⟩ (fun i σ H2 _ ⟨_, _, _, _, _, e⟩ => by rw [e]; exact hS) ?_ ?_⟩
    · rintro i y σ H2 hi ⟨m, v, rfl, h0, h1, rfl⟩
      obtain ⟨z, rfl⟩ : ∃ z, y = V.int z := by
        rw [List.getElem?_map] at hi
        cases e : ns[i]? with
        | none => rw [e] at hi; cases hi
        | some z => rw [e] at hi; exact ⟨z, (Option.some.inj hi).symm⟩
      refine ⟨_, rfl, _, _, rfl, rfl, .inl ⟨by omega, by omega⟩, _, rfl, _, _, rfl, rfl, _, _, rfl, rfl, _, _, rfl, rfl, (by show (0 : Int) < 2147483647; decide), ?_⟩
      exact ⟨_, _, rfl, Int.emod_nonneg _ (by decide), Int.emod_lt_of_pos _ (by decide), rfl⟩
    · rintro σ H2 ⟨m, v, rfl, h0, h1, rfl⟩
      refine ⟨_, rfl, _, rfl, (by show 4 ≤ sizeLine; decide), fun p hp => ?_⟩
      exact k p _ hp (same_upd hp) ⟨⟨0, 0, m, upd_same, Nat.zero_le _, by decide, h0, h1⟩, hC.same (same_upd hp)⟩
theorem natAbs_lt_pow {z : Int} {n : Nat} (h0 : 0 ≤ z) (h : z < 2 ^ n) : z.natAbs < 2 ^ n := by
  have e : ((2 ^ n : Nat) : Int) = 2 ^ n := by norm_cast
  omega
theorem ok_law_taken {f : Addr} {fd : FuncData} (F : Fun K "_law_taken" "_law_taken" s_law_taken f fd) (T : BT mg) : FnOk P w K mg base CX0 1 f fd ["_law_row_here", "_law_many"] (sp_law_taken K) := by
  refine F.ok sc_law_taken (fun vs H Q E h => ?_) (fun cdv A outer s H vs Q E hr h => ?_)
  · obtain ⟨r, a, ns, many, rfl, _⟩ := h
    rfl
  · obtain ⟨r, a, ns, many, rfl, ⟨⟨i, left, mixed, hr0, hi, hl, hm0, hm1⟩, hC⟩, hm, hmw, k⟩ := h
    have hS := hC.seq
    have mw : ∀ z, CDivW z many := fun z => wide_div (b := 8000) hm (natAbs_lt_pow (Int.le_of_lt hm) hmw) (by decide) (by decide)
    have nra : ∀ o, ScrAt K (upd H r o) a ns := fun o => hC.but (no_frz hr0) fun b z e hb => by rw [upd_ne hb]; exact e
    have kp : ∀ o b z, H b = some z → b ≠ r → (upd H r o) b = some z := fun o b z e hb => by rw [upd_ne hb]; exact e
    refine ⟨_, (pss_cons (ps_if (pt_cmpR op_gt (pe_ix ix_list (pv 0) pe_int (fun _ _ => rfl)) pe_int (nomark _))
      (pss_cons (ps_set (i := 2) sc_law_taken.nd rfl (Or.inl rfl) (pe_op op_mod (pe_ix ix_list (pv 0) pe_int (fun _ _ => rfl)) (pv 1)))
    (pss_cons (ps_asg (pe_op op_fdivW (pe_ix ix_list (pv 0) pe_int (fun _ _ => rfl)) (pv 1)) (pg_sub (pv 0) pe_int set_list))
    (pss_one (ps_ret (pv 2))))) pss_nil)
    (pss_cons (ps_if (pt_cmpR op_lt (pe_ix ix_list (pv 0) pe_int (fun _ _ => rfl)) (pe_callB call_len_seq (by rfl) T.b_len (by decide +kernel) (pa_cons (pe_ix ix_list (pv 0) pe_int (fun _ _ => rfl)) pa_nil)) (nomark _))
      (pss_cons (ps_set (i := 3) sc_law_taken.nd rfl (Or.inl rfl) (pe_ix ix_list (pe_ix ix_list (pv 0) pe_int (fun _ _ => rfl)) (pe_ix ix_list (pv 0) pe_int (fun _ _ => rfl)) (fun _ _ => rfl)))
    (pss_cons (ps_asg (pe_op op_add (pe_ix ix_list (pv 0) pe_int (fun _ _ => rfl)) pe_int) (pg_sub (pv 0) pe_int set_list))
    (pss_cons (ps_if (pt_cmpR op_ge (pv 3) (pe_powc (v := 1000000000000000000) (by decide) ⟨by decide, by decide, by decide⟩) (nomark _))
      (pss_one (ps_asg (pe_op op_fdivW (pv 3) (pv 1)) (pg_sub (pv 0) pe_int set_list))) pss_nil)
    (pss_one (ps_ret (pe_op op_mod (pv 3) (pv 1))))))) pss_nil)
    (pss_cons (ps_asg (pe_op op_mod (pe_op op_add (pe_op op_mul (pe_ix ix_list (pv 0) pe_int (fun _ _ => rfl)) pe_int) pe_int) pe_int) (pg_sub (pv 0) pe_int set_list))
    (pss_one (ps_ret (pe_op op_mod (pe_op op_fdiv (pe_ix ix_list (pv 0) pe_int (fun _ _ => rfl)) pe_int) (pv 1))))))), ?_⟩
    refine ⟨_, rfl, r, _, 2, .int left, rfl, rfl, SqL.of hr0, atI_nat (j := 2) rfl, _, _, rfl, rfl, _, rfl, ite2 (fun c => ?_) (fun c => ?_)⟩
    · -- what is left of a great number
      refine ⟨_, rfl, r, _, 2, .int left, rfl, rfl, SqL.of hr0, atI_nat (j := 2) rfl, _, rfl, _, _, rfl, rfl, hm, ?_⟩
      refine ⟨_, rfl, r, _, 2, .int left, rfl, rfl, SqL.of hr0, atI_nat (j := 2) rfl, _, rfl, _, _, rfl, rfl, mw _, ?_⟩
      refine ⟨_, rfl, r, _, 2, 2, rfl, rfl, hr0, rfl, ?_⟩
      refine ⟨_, rfl, k _ _ (Int.emod_nonneg _ (by omega)) (Int.emod_lt_of_pos _ hm) ⟨⟨i, left / many, mixed, upd_same, hi, Int.ediv_nonneg hl (by omega), hm0, hm1⟩, nra _⟩ (kp _)⟩
    · refine ⟨_, rfl, r, _, 1, .int i, rfl, rfl, SqL.of hr0, atI_nat (j := 1) rfl, _, rfl, r, _, 0, .ref a, rfl, rfl, SqL.of hr0, atI_nat (j := 0) rfl, a, _, rfl, .inl hS, _, _, rfl, rfl, _, rfl, ite2 (fun c2 => ?_) (fun c2 => ?_)⟩
      · have hi2 : i < ns.length := by
          have := of_decide_eq_true c2
          rw [List.length_map] at this
          omega
        have hz : (ns.map V.int)[i]? = some (.int ns[i]) := by
          rw [List.getElem?_map, List.getElem?_eq_getElem hi2]
          rfl
        refine ⟨_, rfl, r, _, 0, .ref a, rfl, rfl, SqL.of hr0, atI_nat (j := 0) rfl, _, rfl, r, _, 1, .int i, rfl, rfl, SqL.of hr0, atI_nat (j := 1) rfl, a, _, i, _, rfl, rfl, hS, atI_nat hz, ?_⟩
        generalize ns[i] = cell
        refine ⟨_, rfl, r, _, 1, .int i, rfl, rfl, SqL.of hr0, atI_nat (j := 1) rfl, _, _, rfl, rfl, _, rfl, r, _, 1, 1, rfl, rfl, hr0, rfl, ?_⟩
        have h1 : (upd H r (.lst [V.ref a, .int ((i : Int) + 1), .int left, .int mixed])) r = _ := upd_same
        refine ⟨_, rfl, _, _, rfl, rfl, _, rfl, ite2 (fun c3 => ?_) (fun c3 => ?_)⟩
        · have hc : 0 ≤ cell := by
            have := of_decide_eq_true c3
            omega
          refine ⟨_, rfl, _, rfl, _, _, rfl, rfl, mw _, _, rfl, r, _, 2, 2, rfl, rfl, h1, rfl, ?_⟩
          refine ⟨_, rfl, _, rfl, _, _, rfl, rfl, hm, ?_⟩
          rw [upd_upd]
          exact k _ _ (Int.emod_nonneg _ (by omega)) (Int.emod_lt_of_pos _ hm) ⟨⟨i + 1, cell / many, mixed, upd_same, hi2, Int.ediv_nonneg hc (by omega), hm0, hm1⟩, nra _⟩ (kp _)
        · refine ⟨_, rfl, _, rfl, _, _, rfl, rfl, hm, ?_⟩
          exact k _ _ (Int.emod_nonneg _ (by omega)) (Int.emod_lt_of_pos _ hm) ⟨⟨i + 1, left, mixed, upd_same, hi2, hl, hm0, hm1⟩, nra _⟩ (kp _)
      · refine ⟨_, rfl, r, _, 3, .int mixed, rfl, rfl, SqL.of hr0, atI_nat (j := 3) rfl, _, _, rfl, rfl, .inl ⟨by omega, by omega⟩, _, _, rfl, rfl, _, _, rfl, rfl, (by show (0 : Int) < 2147483647; decide), _, rfl, r, _, 3, 3, rfl, rfl, hr0, rfl, ?_⟩
        have h1 : (upd H r (.lst [V.ref a, .int (i : Int), .int left, .int ((mixed * 48271 + 12345) % 2147483647)])) r = _ := upd_same
        refine ⟨_, rfl, r, _, 3, _, rfl, rfl, SqL.of h1, atI_nat (j := 3) rfl, _, _, rfl, rfl, ⟨by decide, by decide⟩, _, rfl, _, _, rfl, rfl, hm, ?_⟩
        exact k _ _ (Int.emod_nonneg _ (by omega)) (Int.emod_lt_of_pos _ hm) ⟨⟨i, left, _, upd_same, hi, hl, Int.emod_nonneg _ (by decide), Int.emod_lt_of_pos _ (by decide)⟩, nra _⟩ (kp _)
def sp_law_whole : Sp := fun vs H Q _ => ∃ i : Int, vs = [.int i] ∧ Q (.bl true) H
theorem ok_law_whole {f : Addr} {fd : FuncData} (F : Fun K "_law_whole" "_law_whole" s_law_whole f fd) (T : BT mg) : FnOk P w K mg base CX0 1 f fd ["_law_found"] sp_law_whole := by
  refine F.ok sc_law_whole (fun vs H Q E h => ?_) (fun cdv A outer s H vs Q E hr h => ?_)
  · obtain ⟨i, rfl, _⟩ := h
    rfl
  · obtain ⟨i, rfl, k⟩ := h
    refine ⟨_, (pss_one (ps_ret (pe_and (pe_callB call_isi (by rfl) T.b_isinstance (by decide +kernel) (pa_cons (pv 0) (pa_cons (pe_bltn (v := .ty "int") (by rfl) T.b_int (by decide +kernel) rfl) pa_nil))) (pe_one (pe_not (pe_callB call_isi (by rfl) T.b_isinstance (by decide +kernel) (pa_cons (pv 0) (pa_cons (pe_bltn (v := .ty "bool") (by rfl) T.b_bool (by decide +kernel) rfl) pa_nil)))))))), ?_⟩
    refine ⟨_, rfl, _, _, _, _, true, rfl, .ty "int", .base (.int i), kit_ty (by decide +kernel), _, rfl, iteT ?_⟩
    exact ⟨_, rfl, _, _, _, _, false, rfl, .ty "bool", .base (.int i), kit_ty (by decide +kernel), _, rfl, k⟩
def sp_law_signed (K : PySem.W.Frag) : Sp := fun vs H Q _ => ∃ (r a : Addr) (ns : List Int) (most : Int), vs = [.ref r, .int most] ∧ RowAt K H r a ns ∧ 0 ≤ most ∧ most < 2 ^ 60 ∧
  ∀ v H', -most ≤ v → v ≤ most → RowAt K H' r a ns → (∀ b o, H b = some o → b ≠ r → H' b = some o) → Q (.int v) H'
theorem ok_law_signed {f : Addr} {fd : FuncData} (F : Fun K "_law_signed" "_law_signed" s_law_signed f fd) (G_law_taken : COk P w K mg base CX0 1 "_law_taken" ["_law_row_here", "_law_many"] (sp_law_taken K)) : FnOk P w K mg base CX0 2 f fd ["_law_row_here", "_law_most"] (sp_law_signed K) := by
  refine F.ok sc_law_signed (fun vs H Q E h => ?_) (fun cdv A outer s H vs Q E hr h => ?_)
  · obtain ⟨r, a, ns, most, rfl, _⟩ := h
    rfl
  · obtain ⟨r, a, ns, most, rfl, R, h0, h1, k⟩ := h
    refine ⟨_, (pss_one (ps_ret (pe_op op_sub (pe_c G_law_taken (hr.mono (by first | decide | omega)) (pa_cons (pv 0) (pa_cons (pe_op op_add (pe_op op_mul pe_int (pv 1)) pe_int) pa_nil))) (pv 1)))), ?_⟩
    have b60 : (2 : Int) ^ 60 = 1152921504606846976 := by decide
    have b8 : (2 : Int) ^ 62 < 2 ^ 8000 := by decide +kernel
    have b62 : (2 : Int) ^ 62 = 4611686018427387904 := by decide
    refine ⟨_, rfl, _, rfl, _, _, rfl, rfl, .inl ⟨by decide, by decide⟩, _, _, rfl, rfl, r, a, ns, _, rfl, R, by omega, by omega, fun v H' v0 v1 R' kp => ?_⟩
    exact ⟨_, rfl, _, _, rfl, rfl, k _ _ (by omega) (by omega) R' kp⟩
end

/-! ### root_below -/
/-- r is the greatest whole number whose square is no greater than n -/
def IsRoot (n r : Int) : Prop := 0 ≤ r ∧ r * r ≤ n ∧ n < (r + 1) * (r + 1)
theorem sq_nonneg (x : Int) : 0 ≤ x * x := by
  rcases Int.le_total 0 x with h | h
  · exact Int.mul_nonneg h h
  · exact Int.mul_nonneg_of_nonpos_of_nonpos h h
theorem IsRoot.unique {n r s : Int} (a : IsRoot n r) (b : IsRoot n s) : r = s := by
  obtain ⟨a0, a1, a2⟩ := a
  obtain ⟨b0, b1, b2⟩ := b
  have key : ∀ x y : Int, 0 ≤ x → 0 ≤ y → x * x ≤ n → n < (y + 1) * (y + 1) → x ≤ y := fun x y hx hy h1 h2 => by
    rcases Int.lt_or_le y x with h | h
    · have := Int.mul_le_mul (show y + 1 ≤ x by omega) (show y + 1 ≤ x by omega) (by omega) hx
      omega
    · exact h
  have h1 := key r s a0 b0 a1 b2
  have h2 := key s r b0 a0 b1 a2
  omega
theorem newton {n g q b : Int} (hg : 0 < g) (hq : q = n / g) (hb : b = (g + q) / 2) : n < (b + 1) * (b + 1) := by
  have h1 : n < g * (q + 1) := by
    have := Int.lt_mul_ediv_self_add (x := n) (k := g) hg
    rw [← hq] at this
    have e : g * (q + 1) = g * q + g := by grind
    omega
  have h2 : g + q + 1 ≤ 2 * (b + 1) := by omega
  have h3 : 4 * (g * (q + 1)) ≤ (g + q + 1) * (g + q + 1) := by
    have h : (g + q + 1) * (g + q + 1) - 4 * (g * (q + 1)) = (g - q - 1) * (g - q - 1) := by grind
    have := sq_nonneg (g - q - 1)
    omega
  rcases Int.lt_or_le n 0 with hn | hn
  · have := sq_nonneg (b + 1)
    omega
  · have hq0 : 0 ≤ q := by rw [hq]; exact Int.ediv_nonneg hn (by omega)
    have h4 : (g + q + 1) * (g + q + 1) ≤ (2 * (b + 1)) * (2 * (b + 1)) := Int.mul_le_mul h2 h2 (by omega) (by omega)
    have h5 : (2 * (b + 1)) * (2 * (b + 1)) = 4 * ((b + 1) * (b + 1)) := by grind
    omega
theorem newton_end {n g : Int} (hg : 0 < g) (hn : 0 ≤ n) (h : g ≤ (g + n / g) / 2) : g * g ≤ n := by
  have h1 : g ≤ n / g := by omega
  have h2 := Int.mul_le_mul_of_nonneg_left h1 (show 0 ≤ g by omega)
  have h3 := Int.mul_ediv_self_le (x := n) (k := g) (by omega)
  omega
theorem first_guess {n : Int} (h : 0 ≤ n) : n < ((2 : Int) ^ ((Builtin.Int.intBits n + 1) / 2) + 1) * ((2 : Int) ^ ((Builtin.Int.intBits n + 1) / 2) + 1) := by
  have hb : n < (2 : Int) ^ Builtin.Int.intBits n := by
    unfold Builtin.Int.intBits
    split
    · rename_i z
      have : n = 0 := by simpa using z
      subst this
      decide
    · have := Nat.lt_log2_self (n := n.natAbs)
      have e : ((2 ^ (n.natAbs.log2 + 1) : Nat) : Int) = 2 ^ (n.natAbs.log2 + 1) := by norm_cast
      omega
  generalize Builtin.Int.intBits n = m at *
  have hp : ∀ k : Nat, (0 : Int) < 2 ^ k := fun k => Int.pow_pos (by decide)
  have h1 : (2 : Int) ^ m ≤ 2 ^ ((m + 1) / 2) * 2 ^ ((m + 1) / 2) := by
    rw [← Int.pow_add]
    have z := Nat.pow_le_pow_right (n := 2) (by decide) (show m ≤ (m + 1) / 2 + (m + 1) / 2 by omega)
    exact_mod_cast z
  have h2 := hp ((m + 1) / 2)
  generalize (2 : Int) ^ ((m + 1) / 2) = g at *
  have e : (g + 1) * (g + 1) = g * g + 2 * g + 1 := by grind
  omega
def sp_root_below : Sp := fun vs H Q _ => ∃ n : Int, vs = [.int n] ∧ 0 ≤ n ∧ n < 2 ^ 4000 ∧ ∀ r, IsRoot n r → Q (.int r) H
section
variable {P : Program} {w : World} {K : PySem.W.Frag} {mg : Str → Option Value} {base : Heap}
theorem ok_root_below {f : Addr} {fd : FuncData} (F : Fun K "root_below" "root_below" s_root_below f fd) : FnOk P w K mg base CX0 1 f fd ["number"] sp_root_below := by
  refine F.ok sc_root_below (fun vs H Q E h => ?_) (fun cdv A outer s H vs Q E hr h => ?_)
  · obtain ⟨n, rfl, _⟩ := h
    rfl
  · obtain ⟨n, rfl, h0, hw, k⟩ := h
    refine ⟨_, (pss_cons (ps_if (pt_cmpR op_eq (pv 0) pe_int (nomark _))
      (pss_one (ps_ret pe_int)) pss_nil)
    (pss_cons (ps_set (i := 1) sc_root_below.nd rfl (Or.inl rfl) (pe_op op_shl pe_int (pe_op op_fdiv (pe_op op_add (pe_bits (pv 0)) pe_int) pe_int)))
    (pss_one (ps_while PassesOwn.never (pt_val pe_bl)
      (pss_cons (ps_set (i := 2) sc_root_below.nd rfl (Or.inl rfl) (pe_op op_fdiv (pe_op op_add (pv 1) (pe_op op_fdivW (pv 0) (pv 1))) pe_int))
    (pss_cons (ps_if (pt_cmpR op_ge (pv 2) (pv 1) (nomark _))
      (pss_one (ps_ret (pv 1))) pss_nil)
    (pss_one (ps_set (i := 1) sc_root_below.nd rfl (Or.inl rfl) (pv 2))))))))), ?_⟩
    refine ⟨_, rfl, rfl, _, rfl, ite2 (fun c => ?_) (fun c => ?_)⟩
    · have e : n = 0 := V.int.inj (of_decide_eq_true c)
      subst e
      exact k 0 ⟨by decide, by decide, by decide⟩
    · have hn : 0 < n := by
        have : n ≠ 0 := fun z => c (decide_eq_true (by rw [z]))
        omega
      have hbits : Builtin.Int.intBits n ≤ 4000 := PyProof.Rows.intBits_le (natAbs_lt_pow h0 hw)
      refine ⟨_, rfl, _, rfl, _, _, rfl, rfl, _, _, rfl, rfl, ⟨by decide, by decide⟩, _, _, rfl, rfl, ⟨by omega, by omega, by decide⟩, ?_⟩
      have e0 : (((Builtin.Int.intBits n : Nat) : Int) + 1) / 2 = (((Builtin.Int.intBits n + 1) / 2 : Nat) : Int) := by omega
      have e1 : (1 : Int) * 2 ^ ((((Builtin.Int.intBits n : Nat) : Int) + 1) / 2).toNat = 2 ^ ((Builtin.Int.intBits n + 1) / 2) := by rw [e0, Int.toNat_natCast, Int.one_mul]
      show tWhile _ _ _ [some (V.int n), some (V.int ((1 : Int) * 2 ^ ((((Builtin.Int.intBits n : Nat) : Int) + 1) / 2).toNat)), none] H
      rw [e1]
      refine while_by (fun σ H2 => ∃ (g : Int) (b : Option V), σ = [some (.int n), some (.int g), b] ∧ 0 < g ∧ g < 2 ^ 4001 ∧ n < (g + 1) * (g + 1) ∧ H2 = H)
        (fun σ _ => match σ with | [_, some (.int g), _] => g.toNat | _ => 0) ⟨_, none, rfl, Int.pow_pos (by decide), ?_, first_guess h0, rfl⟩ ?_ ?_
      · exact Int.pow_lt_pow_of_lt (by decide) (by omega)
      · rintro σ H2 ⟨g, b, rfl, hg, hgw, hlt, rfl⟩
        refine ⟨_, rfl, iteT ?_⟩
        refine ⟨_, rfl, _, rfl, _, rfl, _, _, rfl, rfl, wide_div (b := 4001) hg (natAbs_lt_pow (Int.le_of_lt hg) hgw) (by decide) (by decide), _, _, rfl, rfl, _, _, rfl, rfl, ⟨by decide, by decide⟩, ?_⟩
        have hb := newton (n := n) hg rfl rfl
        refine ⟨_, rfl, _, rfl, _, _, rfl, rfl, _, rfl, ite2 (fun c2 => ?_) (fun c2 => ?_)⟩
        · exact ⟨_, rfl, k g ⟨by omega, newton_end hg h0 (of_decide_eq_true c2), hlt⟩⟩
        · have c3 : ¬ g ≤ (g + n / g) / 2 := fun z => c2 (decide_eq_true z)
          have hd : 0 ≤ n / g := Int.ediv_nonneg h0 (by omega)
          have hb0 : 0 < (g + n / g) / 2 := by
            rcases Int.lt_or_le 0 ((g + n / g) / 2) with z | z
            · exact z
            · exfalso
              have e1 : g = 1 := by omega
              subst e1
              have : n / 1 = n := Int.ediv_one n
              omega
          exact ⟨_, rfl, ⟨_, _, rfl, hb0, by omega, hb, rfl⟩, by show ((g + n / g) / 2).toNat < g.toNat; omega⟩
      · intro σ H2 Q1 Q2 im hq
        exact hq.elim fun c ⟨e, z⟩ => ⟨c, e, im _ _ z⟩
end
/-! ### chains of fractions, in plain Lean -/
theorem fmod_pos {a b : Int} (h : 0 < b) : 0 ≤ a.fmod b ∧ a.fmod b < b := ⟨Int.fmod_nonneg_of_pos a h, Int.fmod_lt_of_pos a h⟩
theorem fmod_neg {a b : Int} (h : b < 0) : b < a.fmod b ∧ a.fmod b ≤ 0 := by
  have h1 := Int.fmod_nonneg_of_pos (-a) (show 0 < -b by omega)
  have h2 := Int.fmod_lt_of_pos (-a) (show 0 < -b by omega)
  rw [Int.neg_fmod_neg] at h1 h2
  omega
theorem fmod_abs {a b : Int} (h : b ≠ 0) : (a.fmod b).natAbs < b.natAbs := by
  rcases Int.lt_or_gt_of_ne h with h | h
  · have := fmod_neg (a := a) h; omega
  · have := fmod_pos (a := a) h; omega
theorem fdm (a b : Int) : b * a.fdiv b + a.fmod b = a := Int.mul_fdiv_add_fmod a b
theorem fmod_eq (a b : Int) : a - a.fdiv b * b = a.fmod b := by
  have := fdm a b
  rw [Int.mul_comm] at this
  omega
/-- the parts of the fraction t / b -/
def chain (t b : Int) : List Int := if h : b = 0 then [] else t.fdiv b :: chain b (t.fmod b)
termination_by b.natAbs
decreasing_by exact fmod_abs h
theorem chain_zero (t : Int) : chain t 0 = [] := by rw [chain, dif_pos rfl]
theorem chain_cons {t b : Int} (h : b ≠ 0) : chain t b = t.fdiv b :: chain b (t.fmod b) := by rw [chain, dif_neg h]
theorem chain_len : ∀ (n : Nat) (t b : Int), b.natAbs < 2 ^ n → (chain t b).length ≤ 2 * n
  | 0, t, b, h => by
    have e : b = 0 := by simp at h; exact h
    rw [e, chain_zero]; simp
  | n + 1, t, b, h => by
    by_cases hb : b = 0
    · rw [hb, chain_zero]; simp
    · rw [chain_cons hb, List.length_cons]
      by_cases hr : t.fmod b = 0
      · rw [hr, chain_zero, List.length_nil]; omega
      · rw [chain_cons hr, List.length_cons]
        have key : (b.fmod (t.fmod b)).natAbs < 2 ^ n := by
          have h1 := fdm b (t.fmod b)
          have hrp : 0 < b → 0 ≤ t.fmod b ∧ t.fmod b < b := fun z => fmod_pos z
          have hrn : b < 0 → b < t.fmod b ∧ t.fmod b ≤ 0 := fun z => fmod_neg z
          generalize t.fmod b = r at *
          have hd : ∀ q s : Int, r * q + s = b → ((0 < b ∧ 0 ≤ r ∧ r < b) ∨ (b < 0 ∧ b < r ∧ r ≤ 0)) → ((0 ≤ s ∧ s < r) ∨ (r < s ∧ s ≤ 0)) → 2 * s.natAbs < b.natAbs := by
            intro q s e c1 c2
            rcases c1 with ⟨p1, p2, p3⟩ | ⟨p1, p2, p3⟩
            · rcases c2 with ⟨p4, p5⟩ | ⟨p4, p5⟩
              · have hq : 0 < q := by
                  rcases Int.lt_or_le 0 q with z | z
                  · exact z
                  · have := Int.mul_le_mul_of_nonneg_left z p2
                    rw [Int.mul_zero] at this
                    omega
                have := Int.mul_le_mul_of_nonneg_left (show 1 ≤ q from hq) p2
                omega
              · omega
            · rcases c2 with ⟨p4, p5⟩ | ⟨p4, p5⟩
              · omega
              · have hq : 0 < q := by
                  rcases Int.lt_or_le 0 q with z | z
                  · exact z
                  · have := Int.mul_nonneg_of_nonpos_of_nonpos p3 z
                    omega
                have := Int.mul_nonneg (show 0 ≤ -r by omega) (show 0 ≤ q - 1 by omega)
                have e3 : -r * (q - 1) = r - r * q := by grind
                omega
          have c1 : (0 < b ∧ 0 ≤ r ∧ r < b) ∨ (b < 0 ∧ b < r ∧ r ≤ 0) := by
            rcases Int.lt_or_gt_of_ne hb with z | z
            · exact .inr ⟨z, hrn z⟩
            · exact .inl ⟨z, hrp z⟩
          have c2 : (0 ≤ b.fmod r ∧ b.fmod r < r) ∨ (r < b.fmod r ∧ b.fmod r ≤ 0) := by
            rcases Int.lt_or_gt_of_ne hr with z | z
            · exact .inr (fmod_neg z)
            · exact .inl (fmod_pos z)
          have := hd _ _ h1 c1 c2
          have e2 : 2 ^ (n + 1) = 2 * 2 ^ n := by rw [Nat.pow_succ]; omega
          omega
        have := chain_len n (t.fmod b) (b.fmod (t.fmod b)) key
        omega
/-- what a row of parts comes to -/
def fold : List Int → Int × Int
  | [] => (1, 0)
  | p :: r => (p * (fold r).1 + (fold r).2, (fold r).1)
theorem fold_pos : ∀ r : List Int, (∀ p ∈ r, 1 ≤ p) → 1 ≤ (fold r).1 ∧ 0 ≤ (fold r).2 ∧ (r ≠ [] → 1 ≤ (fold r).2)
  | [], _ => ⟨by decide, by decide, fun h => absurd rfl h⟩
  | p :: r, h => by
    obtain ⟨h1, h2, _⟩ := fold_pos r fun q hq => h q (List.mem_cons_of_mem _ hq)
    have hp := h p List.mem_cons_self
    have := Int.mul_le_mul hp h1 (by decide) (by omega)
    show 1 ≤ p * (fold r).1 + (fold r).2 ∧ 0 ≤ (fold r).1 ∧ (_ → 1 ≤ (fold r).1)
    omega
/-- parts as a chain has them behind the first: 1 or more, the last 2 or more -/
def Tail (r : List Int) : Prop := (∀ p ∈ r, 1 ≤ p) ∧ ∀ x, r.getLast? = some x → 2 ≤ x
theorem Tail.tail {p : Int} {r : List Int} (h : Tail (p :: r)) : Tail r := by
  refine ⟨fun q hq => h.1 q (List.mem_cons_of_mem _ hq), fun x hx => h.2 x ?_⟩
  cases r with
  | nil => cases hx
  | cons y s => rw [List.getLast?_cons_cons]; exact hx
theorem fold_tail : ∀ r : List Int, r ≠ [] → Tail r → (fold r).2 < (fold r).1
  | [], h, _ => absurd rfl h
  | [p], _, h => by
    have := h.2 p rfl
    show (1 : Int) < p * 1 + 0
    omega
  | p :: q :: r, _, h => by
    obtain ⟨h1, h2, h3⟩ := fold_pos (q :: r) fun x hx => h.1 x (List.mem_cons_of_mem _ hx)
    have hp := h.1 p List.mem_cons_self
    have := Int.mul_le_mul_of_nonneg_right hp (show 0 ≤ (fold (q :: r)).1 by omega)
    have h4 := h3 (List.cons_ne_nil _ _)
    show (fold (q :: r)).1 < p * (fold (q :: r)).1 + (fold (q :: r)).2
    omega
theorem fdiv_unique {a b q r : Int} (hb : 0 < b) (h : a = q * b + r) (h0 : 0 ≤ r) (h1 : r < b) : a.fdiv b = q ∧ a.fmod b = r := by
  have e := fdm a b
  obtain ⟨m0, m1⟩ := fmod_pos (a := a) hb
  have k : a.fdiv b = q := by
    generalize a.fdiv b = x at *
    generalize a.fmod b = y at *
    rcases Int.lt_trichotomy x q with z | z | z
    · have := Int.mul_le_mul_of_nonneg_left (show x + 1 ≤ q by omega) (show 0 ≤ b by omega)
      have e1 : b * (x + 1) = b * x + b := by grind
      have e2 : b * q = q * b := Int.mul_comm _ _
      omega
    · exact z
    · have := Int.mul_le_mul_of_nonneg_left (show q + 1 ≤ x by omega) (show 0 ≤ b by omega)
      have e1 : b * (q + 1) = b * q + b := by grind
      have e2 : b * q = q * b := Int.mul_comm _ _
      omega
  refine ⟨k, ?_⟩
  rw [k, Int.mul_comm] at e
  omega
theorem chain_fold : ∀ (p : Int) (r : List Int), Tail r → chain (fold (p :: r)).1 (fold (p :: r)).2 = p :: r
  | p, [], _ => by
    show chain (p * 1 + 0) 1 = [p]
    obtain ⟨e1, e2⟩ := fdiv_unique (a := p * 1 + 0) (b := 1) (q := p) (r := 0) (by decide) (by omega) (by decide) (by decide)
    rw [chain_cons (by decide), e1, e2, chain_zero]
  | p, q :: r, h => by
    obtain ⟨h1, h2, h3⟩ := fold_pos (q :: r) h.1
    have h4 := fold_tail (q :: r) (List.cons_ne_nil _ _) h
    have ih := chain_fold q r h.tail
    show chain (p * (fold (q :: r)).1 + (fold (q :: r)).2) (fold (q :: r)).1 = p :: q :: r
    obtain ⟨e1, e2⟩ := fdiv_unique (a := p * (fold (q :: r)).1 + (fold (q :: r)).2) (b := (fold (q :: r)).1) (q := p) (r := (fold (q :: r)).2) (by omega) rfl h2 h4
    rw [chain_cons (by omega), e1, e2, ih]
theorem gcd_fold : ∀ r : List Int, Int.gcd (fold r).1 (fold r).2 = 1
  | [] => by decide
  | p :: r => by
    have ih := gcd_fold r
    show Int.gcd (p * (fold r).1 + (fold r).2) (fold r).1 = 1
    rw [Int.gcd_comm, Int.add_comm, Int.mul_comm, Int.gcd_add_mul_left_right]
    exact ih
/-- a fraction is what its chain comes to, but for a factor -/
theorem fold_chain : ∀ (n : Nat) (t b : Int), b.natAbs ≤ n → ∃ g : Int, t = g * (fold (chain t b)).1 ∧ b = g * (fold (chain t b)).2 ∧ (0 < b → 0 < g) ∧ (b < 0 → g < 0) ∧ (b = 0 → g = t)
  | n, t, b, hn => by
    by_cases hb : b = 0
    · subst hb
      rw [chain_zero]
      exact ⟨t, by show t = t * 1; omega, by show (0 : Int) = t * 0; omega, fun h => by omega, fun h => by omega, fun _ => rfl⟩
    · have hm := fmod_abs (a := t) hb
      match n, hn with
      | n + 1, hn =>
        obtain ⟨g, e1, e2, p1, p2, p3⟩ := fold_chain n b (t.fmod b) (by omega)
        rw [chain_cons hb]
        refine ⟨g, ?_, e1, fun z => ?_, fun z => ?_, fun z => absurd z hb⟩
        · have e := fdm t b
          show t = g * (t.fdiv b * (fold (chain b (t.fmod b))).1 + (fold (chain b (t.fmod b))).2)
          generalize fold (chain b (t.fmod b)) = x at *
          generalize t.fmod b = r at *
          generalize t.fdiv b = q at *
          grind
        · obtain ⟨m0, m1⟩ := fmod_pos (a := t) z
          rcases Int.lt_or_eq_of_le m0 with y | y
          · exact p1 y
          · rw [p3 y.symm]; exact z
        · obtain ⟨m0, m1⟩ := fmod_neg (a := t) z
          rcases Int.lt_or_eq_of_le m1 with y | y
          · exact p2 y
          · rw [p3 y]; exact z
      | 0, hn => omega
theorem fold_low {t b : Int} (hb : b ≠ 0) : ∃ g : Int, t = g * (fold (chain t b)).1 ∧ b = g * (fold (chain t b)).2 ∧ g ≠ 0 ∧ (0 < g ↔ 0 < b) ∧ (g.natAbs = Int.gcd t b) := by
  obtain ⟨g, e1, e2, p1, p2, p3⟩ := fold_chain b.natAbs t b (Nat.le_refl _)
  have hg : g ≠ 0 := by
    rcases Int.lt_or_gt_of_ne hb with z | z
    · have := p2 z; omega
    · have := p1 z; omega
  refine ⟨g, e1, e2, hg, ⟨fun z => ?_, p1⟩, ?_⟩
  · rcases Int.lt_or_gt_of_ne hb with y | y
    · have := p2 y; omega
    · exact y
  · have h := gcd_fold (chain t b)
    generalize fold (chain t b) = x at *
    rw [e1, e2, Int.gcd_mul_left, h, Nat.mul_one]
theorem fold_bound : ∀ (r : List Int), (∀ p ∈ r, p.natAbs ≤ 2 ^ 39) → (fold r).1.natAbs ≤ 2 ^ (40 * r.length) ∧ (fold r).2.natAbs ≤ 2 ^ (40 * r.length)
  | [], _ => ⟨by decide, by decide⟩
  | p :: r, h => by
    obtain ⟨h1, h2⟩ := fold_bound r fun q hq => h q (List.mem_cons_of_mem _ hq)
    have hp := h p List.mem_cons_self
    have e : 2 ^ (40 * (r.length + 1)) = 2 ^ 39 * 2 ^ (40 * r.length) + 2 ^ 39 * 2 ^ (40 * r.length) := by
      rw [Nat.mul_add, Nat.pow_add]
      omega
    have e3 : 2 ^ (40 * r.length) ≤ 2 ^ 39 * 2 ^ (40 * r.length) := Nat.le_mul_of_pos_left _ (by decide)
    show (p * (fold r).1 + (fold r).2).natAbs ≤ 2 ^ (40 * (r.length + 1)) ∧ (fold r).1.natAbs ≤ 2 ^ (40 * (r.length + 1))
    have e4 := Int.natAbs_add_le (p * (fold r).1) (fold r).2
    have e5 : (p * (fold r).1).natAbs ≤ 2 ^ 39 * 2 ^ (40 * r.length) := by
      rw [Int.natAbs_mul]
      exact Nat.mul_le_mul hp h1
    omega
/-! ### further helpers of the laws -/
section
variable {P : Program} {w : World} {K : PySem.W.Frag} {mg : Str → Option Value} {base : Heap}
theorem dpAll_ints {H : Hp} : ∀ ns : List Int, DpAll K H (ns.map V.int) (ns.map PyData.int)
  | [] => .nil
  | n :: r => .cons (.int n) (dpAll_ints r)
theorem shaped_ints (ns : List Int) : SeqAt.shaped (.list (ns.map PyData.int)) = true := PySem.W.ke_shaped_ints ns
def small (z : Int) : Prop := z.natAbs < 2 ^ 1000
theorem small_fdiv {z : Int} (h : small z) (h0 : z ≠ 0) (y : Int) : CDivS y z := ⟨h0, Nat.lt_of_lt_of_le h (Nat.pow_le_pow_right (by decide) (by decide))⟩
theorem small_mul {x y : Int} (h : small x) (h' : small y) : CMulW x y := wide_mul (a := 1000) (b := 1000) h h' (by decide) (by decide) (by decide)
theorem fdiv_abs {a b : Int} (hb : b ≠ 0) : (a.fdiv b).natAbs ≤ a.natAbs := by
  have key : ∀ (x y q r : Int), 0 < y → y * q + r = x → 0 ≤ r → r < y → q.natAbs ≤ x.natAbs := by
    intro x y q r hy e r0 r1
    rcases Int.lt_or_le q 0 with z | z
    · have := Int.mul_nonneg (show 0 ≤ y - 1 by omega) (show 0 ≤ -q - 1 by omega)
      have e2 : (y - 1) * (-q - 1) = -(y * q) - y + q + 1 := by grind
      omega
    · have := Int.mul_nonneg (show 0 ≤ y - 1 by omega) z
      have e2 : (y - 1) * q = y * q - q := by grind
      omega
  rcases Int.lt_or_gt_of_ne hb with z | z
  · have h1 := fdm (-a) (-b)
    rw [Int.neg_fdiv_neg] at h1
    have := fmod_pos (a := -a) (show 0 < -b by omega)
    have := key (-a) (-b) _ _ (by omega) h1 this.1 this.2
    omega
  · exact key a b _ _ z (fdm a b) (fmod_pos z).1 (fmod_pos z).2
theorem small_fd {a b : Int} (h : small a) (hb : b ≠ 0) : small (a.fdiv b) := Nat.lt_of_le_of_lt (fdiv_abs hb) h
theorem small_fm {a b : Int} (h : small b) (hb : b ≠ 0) : small (a.fmod b) := Nat.lt_trans (fmod_abs hb) h
def sp_law_common : Sp := fun vs H Q _ => ∃ x y : Int, vs = [.int x, .int y] ∧ Q (.int (Int.gcd x y : Nat)) H
theorem ok_law_common {f : Addr} {fd : FuncData} (F : Fun K "_law_common" "_law_common" s_law_common f fd) (T : BT mg) : FnOk P w K mg base CX0 1 f fd ["_law_one", "_law_other"] sp_law_common := by
  refine F.ok sc_law_common (fun vs H Q E h => ?_) (fun cdv A outer s H vs Q E hr h => ?_)
  · obtain ⟨x, y, rfl, _⟩ := h
    rfl
  · obtain ⟨x, y, rfl, k⟩ := h
    refine ⟨_, (pss_cons (ps_while PassesOwn.never (pt_cmpR op_ne (pv 1) pe_int (nomark _))
      (pss_one (ps_par (i := 0) (j := 1) (by rfl) sc_law_common.nd rfl rfl (by decide) rfl rfl (pa_cons (pv 1) (pa_cons (pe_op op_modN (pv 0) (pv 1)) pa_nil)) (by rfl))))
    (pss_one (ps_ret (pe_callB call_abs (by rfl) T.b_abs (by decide +kernel) (pa_cons (pv 0) pa_nil))))), ?_⟩
    refine while_by (fun σ H2 => ∃ x' y' : Int, σ = [some (.int x'), some (.int y')] ∧ Int.gcd x' y' = Int.gcd x y ∧ H2 = H) (fun σ _ => match σ with | [_, some (.int y')] => y'.natAbs | _ => 0) ⟨x, y, rfl, rfl, rfl⟩ ?_ ?_
    · rintro σ H2 ⟨x', y', rfl, eg, rfl⟩
      refine ⟨_, rfl, rfl, _, rfl, ?_⟩
      by_cases hz : y' = 0
      · subst hz
        rw [decide_eq_true rfl]
        refine iteF ⟨_, rfl, _, rfl, ?_⟩
        have e : (if x' < 0 then -x' else x') = ((Int.gcd x y : Nat) : Int) := by
          rw [← eg, Int.gcd_zero_right]
          split <;> omega
        show Q (.int (if x' < 0 then -x' else x')) H2
        rw [e]
        exact k
      · rw [decide_eq_false (fun z => hz (V.int.inj z))]
        refine iteT ⟨_, rfl, _, rfl, _, rfl, _, _, rfl, rfl, hz, _, _, rfl, ⟨_, _, rfl, ?_, rfl⟩, fmod_abs hz⟩
        rw [← eg, Int.gcd_comm x' y']
        have e := fdm x' y'
        have e2 := Int.gcd_add_mul_left_right y' (x'.fmod y') (x'.fdiv y')
        rw [show x'.fmod y' + y' * x'.fdiv y' = x' by omega] at e2
        exact e2.symm
    · intro σ H2 Q1 Q2 im hq
      obtain ⟨v, e, e2, c, e3, z⟩ := hq
      exact ⟨v, e, e2, c, e3, im _ _ z⟩
/-- a fraction in lowest terms, below 1 or more: a new tuple -/
def sp_law_lowest : Sp := fun vs H Q _ => ∃ t b : Int, vs = [.int t, .int b] ∧ b ≠ 0 ∧ small t ∧ small b ∧ ∀ p, H p = none → Q (.ref p) (upd H p (.tup [.int (fold (chain t b)).1, .int (fold (chain t b)).2]))
theorem ok_law_lowest {f : Addr} {fd : FuncData} (F : Fun K "_law_lowest" "_law_lowest" s_law_lowest f fd) (G_law_common : COk P w K mg base CX0 1 "_law_common" ["_law_one", "_law_other"] sp_law_common) : FnOk P w K mg base CX0 2 f fd ["_law_top", "_law_below_here"] sp_law_lowest := by
  refine F.ok sc_law_lowest (fun vs H Q E h => ?_) (fun cdv A outer s H vs Q E hr h => ?_)
  · obtain ⟨t, b, rfl, _⟩ := h
    rfl
  · obtain ⟨t, b, rfl, hb, st, sb, k⟩ := h
    refine ⟨_, (pss_cons (ps_set (i := 2) sc_law_lowest.nd rfl (Or.inl rfl) (pe_c G_law_common (hr.mono (by first | decide | omega)) (pa_cons (pv 0) (pa_cons (pv 1) pa_nil))))
    (C8.pss_cut (ps_if (pt_cmpR op_lt (pv 1) pe_int (nomark _))
      (pss_one (ps_set (i := 2) sc_law_lowest.nd rfl (Or.inl rfl) (pe_op op_sub pe_int (pv 2)))) pss_nil)
    (pss_one (ps_ret (pe_tup (pa_cons (pe_op op_fdivS (pv 0) (pv 2)) (pa_cons (pe_op op_fdivS (pv 1) (pv 2)) pa_nil))))))), ?_⟩
    obtain ⟨g, e1, e2, hg, hs, hgcd⟩ := fold_low (t := t) hb
    generalize fold (chain t b) = x at *
    have sg : small g := by
      have h2 : x.2 ≠ 0 := fun z => hb (by rw [e2, z, Int.mul_zero])
      have := congrArg Int.natAbs e2
      rw [Int.natAbs_mul] at this
      have h3 : g.natAbs * 1 ≤ g.natAbs * x.2.natAbs := Nat.mul_le_mul_left _ (by omega)
      exact Nat.lt_of_le_of_lt (show g.natAbs ≤ b.natAbs by omega) sb
    refine ⟨_, rfl, _, rfl, t, b, rfl, ?_⟩
    have fin : ∀ y : Int, g * y = g * y → (g * y).fdiv g = y := fun y _ => by
      have := Int.mul_fdiv_cancel_left y hg
      exact this
    have q1 : t.fdiv g = x.1 := by rw [e1]; exact fin _ rfl
    have q2 : b.fdiv g = x.2 := by rw [e2]; exact fin _ rfl
    refine ⟨fun σ H2 => σ = [some (.int t), some (.int b), some (.int g)] ∧ H2 = H, ?_, ?_⟩
    · refine ⟨_, rfl, _, _, rfl, rfl, _, rfl, ite2 (fun c => ?_) (fun c => ?_)⟩
      · have c' : b < 0 := of_decide_eq_true c
        refine ⟨_, rfl, _, _, rfl, rfl, ?_, rfl⟩
        have : (0 : Int) - (Int.gcd t b : Nat) = g := by
          have : ¬ 0 < g := fun z => by have := hs.mp z; omega
          omega
        show [some (V.int t), some (V.int b), some (V.int (0 - ((Int.gcd t b : Nat) : Int)))] = _
        rw [this]
      · have c' : ¬ b < 0 := fun z => c (decide_eq_true z)
        refine ⟨?_, rfl⟩
        have : ((Int.gcd t b : Nat) : Int) = g := by
          have : 0 < g := hs.mpr (by omega)
          omega
        show [some (V.int t), some (V.int b), some (V.int ((Int.gcd t b : Nat) : Int))] = _
        rw [this]
    · rintro σ H2 ⟨rfl, rfl⟩
      refine ⟨_, rfl, _, rfl, _, _, rfl, rfl, small_fdiv sg hg _, _, rfl, _, rfl, _, _, rfl, rfl, small_fdiv sg hg _, (by show 2 ≤ sizeLine; decide), fun p hp => ?_⟩
      show Q (.ref p) (upd H2 p (.tup [.int (t.fdiv g), .int (b.fdiv g)]))
      rw [q1, q2]
      exact k p hp
end
/-! ### methods and makers, in short -/
def MOk (P : Program) (w : World) (K : PySem.W.Frag) (mg : Str → Option Value) (base : Heap) (CX : CXT) (k : Nat) (C : Addr) (m : Str) (ps : List Str) (sp : Sp) : Prop :=
  Cls K C ∧ ∃ (f : Addr) (fd : FuncData), FnOk P w K mg base CX k f fd ps sp ∧ Meth K C m f ∧ Binds K fd ps []
def IOk (P : Program) (w : World) (K : PySem.W.Frag) (mg : Str → Option Value) (base : Heap) (k : Nat) (x : Str) (C : Addr) (ps : List Str) (sp : Sp) : Prop :=
  mg x = some (.ref C) ∧ ∃ (f : Addr) (fd : FuncData), FnOk P w K mg base CX0 k f fd ps sp ∧ Mk K C f ∧ Binds K fd ps []
theorem MOk.of {P : Program} {w : World} {K : PySem.W.Frag} {mg : Str → Option Value} {base : Heap} {CX : CXT} {k : Nat} {C : Addr} {m qual : Str} {ps : List Str} {sp : Sp} {st : Stmt}
    (c : Cls K C) (D : ∃ f fd, Fun K m qual st f fd ∧ Meth K C m f ∧ Binds K fd ps []) (h : ∀ f fd, Fun K m qual st f fd → FnOk P w K mg base CX k f fd ps sp) : MOk P w K mg base CX k C m ps sp := by
  obtain ⟨f, fd, F, M, B⟩ := D
  exact ⟨c, f, fd, h f fd F, M, B⟩
theorem IOk.of {P : Program} {w : World} {K : PySem.W.Frag} {mg : Str → Option Value} {base : Heap} {k : Nat} {x : Str} {C : Addr} {m qual : Str} {ps : List Str} {sp : Sp} {st : Stmt}
    (g : mg x = some (.ref C)) (D : ∃ f fd, Fun K m qual st f fd ∧ Mk K C f ∧ Binds K fd ps []) (h : ∀ f fd, Fun K m qual st f fd → FnOk P w K mg base CX0 k f fd ps sp) : IOk P w K mg base k x C ps sp := by
  obtain ⟨f, fd, F, M, B⟩ := D
  exact ⟨g, f, fd, h f fd F, M, B⟩
theorem COk.by {P : Program} {w : World} {K : PySem.W.Frag} {mg : Str → Option Value} {base : Heap} {CX : CXT} {k : Nat} {x : Str} {st : Stmt} {ps : List Str} {sp : Sp}
    (D : ∃ f fd, DefAt K mg x st ps f fd) (h : ∀ f fd, Fun K x x st f fd → FnOk P w K mg base CX k f fd ps sp) : COk P w K mg base CX k x ps sp := by
  obtain ⟨f, fd, F⟩ := D
  exact .of F (h f fd F.fn)
section
variable {X : Cx} {k : Nat} {x m : Str} {ps : List Str} {sp : Sp} {o e : Expr} {es : List Expr} {ta : TE} {t : TA} {p pos apos : Pos} {C : Addr}
theorem pe_m {pl : Sem Bool} (M : MOk X.prog X.w X.K X.mg X.base CX0 k C m ps sp) (hr : Room k X.A) (he : PE X o ta) (ha : PA X (e :: es) t)
    (hst : starEach (e :: es) X.env = (false, eval e X.env) :: starEach es X.env := by rfl) (hpl : (backTo pos (starEach es X.env)).any (·.1) = false := by rfl)
    (ht : eval (.Call (.Attribute o m apos) (e :: es) [] pos) X.env = (do
      let ov ← eval o X.env; standAt apos.atName
      let (f, first) ← holding [ov] (getMethod ov m pl)
      callWith pos f first (backTo pos (starEach (e :: es) X.env)) (backToKw pos (keywordEach [] X.env))) := by rfl) :
    PE X (.Call (.Attribute o m apos) (e :: es) [] pos) (tMeth C m sp [] E0 ta t) := by
  obtain ⟨c, f, fd, F, M, B⟩ := M
  exact pe_meth (pl := pl) he c M F hr B .nil pass0 ha hst hpl ht
theorem pe_m0 {pl : Sem Bool} (M : MOk X.prog X.w X.K X.mg X.base CX0 k C m ps sp) (hr : Room k X.A) (he : PE X o ta)
    (ht : eval (.Call (.Attribute o m apos) [] [] pos) X.env = (do
      let ov ← eval o X.env; standAt apos.atName
      let (f, first) ← holding [ov] (getMethod ov m pl)
      callWith pos f first (backTo pos (starEach [] X.env)) (backToKw pos (keywordEach [] X.env))) := by rfl) :
    PE X (.Call (.Attribute o m apos) [] [] pos) (tMeth C m sp [] E0 ta tNil) := by
  obtain ⟨c, f, fd, F, M, B⟩ := M
  exact pe_meth0 (pl := pl) he c M F hr B .nil pass0 ht
theorem pe_mk (I : IOk X.prog X.w X.K X.mg X.base k x C ps sp) (hr : Room (k + 1) X.A) (ha : PA X (e :: es) t) (hg : Gl X x := by rfl)
    (hdb : (x == ("__debug__" : Str)) = false := by decide) (he : starEach (e :: es) X.env = (false, eval e X.env) :: starEach es X.env := by rfl) (hpl : (backTo pos (starEach es X.env)).any (·.1) = false := by rfl) :
    PE X (.Call (.Name x p) (e :: es) [] pos) (tMake C sp [] E0 t) := by
  obtain ⟨g, f, fd, F, M, B⟩ := I
  exact pe_make M F hr hg g B .nil pass0 ha hdb he hpl
theorem pe_mk0 (I : IOk X.prog X.w X.K X.mg X.base k x C ps sp) (hr : Room (k + 1) X.A) (hg : Gl X x := by rfl) (hdb : (x == ("__debug__" : Str)) = false := by decide) :
    PE X (.Call (.Name x p) [] [] pos) (tMake C sp [] E0 tNil) := by
  obtain ⟨g, f, fd, F, M, B⟩ := I
  exact pe_make0 M F hr hg g B .nil pass0 hdb
/-- what a call lets out, the def lets out -/
theorem passes_tk {E : XK} (tk : Takes X (fun cls d _ H => E cls d H)) : Passes (L2.CX X.prog X.w) X E := fun pins σ H s e s' I c => passAt (W := fun cls d _ H => E cls d H) tk σ pins H s e s' I c
theorem pe_mX {E : XK} {pl : Sem Bool} (M : MOk X.prog X.w X.K X.mg X.base (L2.CX X.prog X.w) k C m ps sp) (hr : Room k X.A) (hx : Passes (L2.CX X.prog X.w) X E) (he : PE X o ta) (ha : PA X (e :: es) t)
    (hst : starEach (e :: es) X.env = (false, eval e X.env) :: starEach es X.env := by rfl) (hpl : (backTo pos (starEach es X.env)).any (·.1) = false := by rfl)
    (ht : eval (.Call (.Attribute o m apos) (e :: es) [] pos) X.env = (do
      let ov ← eval o X.env; standAt apos.atName
      let (f, first) ← holding [ov] (getMethod ov m pl)
      callWith pos f first (backTo pos (starEach (e :: es) X.env)) (backToKw pos (keywordEach [] X.env))) := by rfl) :
    PE X (.Call (.Attribute o m apos) (e :: es) [] pos) (tMeth C m sp [] E ta t) := by
  obtain ⟨c, f, fd, F, M, B⟩ := M
  exact pe_meth (pl := pl) he c M F hr B .nil hx ha hst hpl ht
theorem pe_mX0 {E : XK} {pl : Sem Bool} (M : MOk X.prog X.w X.K X.mg X.base (L2.CX X.prog X.w) k C m ps sp) (hr : Room k X.A) (hx : Passes (L2.CX X.prog X.w) X E) (he : PE X o ta)
    (ht : eval (.Call (.Attribute o m apos) [] [] pos) X.env = (do
      let ov ← eval o X.env; standAt apos.atName
      let (f, first) ← holding [ov] (getMethod ov m pl)
      callWith pos f first (backTo pos (starEach [] X.env)) (backToKw pos (keywordEach [] X.env))) := by rfl) :
    PE X (.Call (.Attribute o m apos) [] [] pos) (tMeth C m sp [] E ta tNil) := by
  obtain ⟨c, f, fd, F, M, B⟩ := M
  exact pe_meth0 (pl := pl) he c M F hr B .nil hx ht
/-- o.f as a target -/
def gFld (K : PySem.W.Frag) (to : TE) (f : Str) : TG := fun v σ H Q => to σ H fun x H1 => ∃ a C dx fs, x = .ref a ∧ H1 a = some (.ins C dx fs) ∧ Cls K C ∧ NoAttr K C f ∧ fs.length < 1000 ∧ Q σ (upd H1 a (.ins C dx (putF f v fs)))
open PySem.Spec PyProof.Rows in
theorem pg_fld {o : Expr} {to : TE} {f : Str} {pos : Pos} (ho : PE X o to)
    (ha : ∀ v, assign (.Attribute o f pos) X.env v = (do
      let ov ← holding [v] (eval o X.env); standAt pos.atName
      holding [v, ov] (setAttr ov f v); release [v, ov] []) := by intro _; rfl) : PG X (.Attribute o f pos) (gFld X.K to f) := by
  refine ⟨fun pins s σ H v u Q I r h => ?_⟩
  rw [ha]
  refine wpAny_bind (wpAny_holding (thn (ho.run pins s σ H _ I h) fun ov sA hA => ?_))
  obtain ⟨x, HA, IA, rA, a, C, dx, fs, rfl, ea, c, n, l, q⟩ := hA
  cases rA
  refine wpAny_bind (wpAny_standAt (wpAny_bind (wpAny_holding (setattr_ok IA ea c n l r fun sB IB => ?_))))
  exact wpAny_release ⟨σ, _, IB, q⟩
end
/-- an own class over ValueError -/
structure XC (K : PySem.W.Frag) (mg : Str → Option Value) (C : Addr) (n : Str) : Prop where
  g : mg n = some (.ref C)
  x : PySem.W.excIn K C [.type "ValueError", .type "Exception", .type "BaseException", .type "object"] "ValueError.__new__" = true
  k : PySem.W.keepIn K (.ref C) = true
  b : PySem.W.subIn K (.ref C) (.type "BaseException") = some true
  t : PySem.W.typeIn K (.ref C) = some (.type "type")
/-- where the classes and the tuples of the top stand -/
structure Ad where
  c_Meter : Addr
  c_FractionChain : Addr
  c_RootChain : Addr
  c_RuledChain : Addr
  c_Leaf : Addr
  c_FractionBox : Addr
  c_FourBox : Addr
  c_EightBox : Addr
  c_Reading : Addr
  k_END : Addr
  k_WAITS : Addr
  k_TIMES : Addr
  k_LENGTHS : Addr
  k_CHECKS : Addr
  c_NoValue : Addr
structure CT (K : PySem.W.Frag) (mg : Str → Option Value) (A : Ad) : Prop extends BT mg where
  seer : ∀ b : Heap, Mod K mg b → b.NoSeer
  cl_Meter : Cls K A.c_Meter
  n_Meter_left : NoAttr K A.c_Meter "left"
  n_Meter_spent : NoAttr K A.c_Meter "spent"
  g_Meter : mg "Meter" = some (.ref A.c_Meter)
  cl_FractionChain : Cls K A.c_FractionChain
  n_FractionChain_top : NoAttr K A.c_FractionChain "top"
  n_FractionChain_below : NoAttr K A.c_FractionChain "below"
  g_FractionChain : mg "FractionChain" = some (.ref A.c_FractionChain)
  cl_RootChain : Cls K A.c_RootChain
  n_RootChain_top : NoAttr K A.c_RootChain "top"
  n_RootChain_square : NoAttr K A.c_RootChain "square"
  n_RootChain_below : NoAttr K A.c_RootChain "below"
  n_RootChain_root : NoAttr K A.c_RootChain "root"
  g_RootChain : mg "RootChain" = some (.ref A.c_RootChain)
  cl_RuledChain : Cls K A.c_RuledChain
  n_RuledChain_parts : NoAttr K A.c_RuledChain "parts"
  n_RuledChain_ring : NoAttr K A.c_RuledChain "ring"
  n_RuledChain_steps : NoAttr K A.c_RuledChain "steps"
  n_RuledChain_at : NoAttr K A.c_RuledChain "at"
  g_RuledChain : mg "RuledChain" = some (.ref A.c_RuledChain)
  cl_Leaf : Cls K A.c_Leaf
  n_Leaf_chain : NoAttr K A.c_Leaf "chain"
  g_Leaf : mg "Leaf" = some (.ref A.c_Leaf)
  cl_FractionBox : Cls K A.c_FractionBox
  n_FractionBox_top : NoAttr K A.c_FractionBox "top"
  n_FractionBox_below : NoAttr K A.c_FractionBox "below"
  n_FractionBox_told : NoAttr K A.c_FractionBox "told"
  g_FractionBox : mg "FractionBox" = some (.ref A.c_FractionBox)
  cl_FourBox : Cls K A.c_FourBox
  n_FourBox_numbers : NoAttr K A.c_FourBox "numbers"
  n_FourBox_tree : NoAttr K A.c_FourBox "tree"
  n_FourBox_started : NoAttr K A.c_FourBox "started"
  n_FourBox_told : NoAttr K A.c_FourBox "told"
  n_FourBox_rest : NoAttr K A.c_FourBox "rest"
  g_FourBox : mg "FourBox" = some (.ref A.c_FourBox)
  cl_EightBox : Cls K A.c_EightBox
  n_EightBox_numbers : NoAttr K A.c_EightBox "numbers"
  n_EightBox_trees : NoAttr K A.c_EightBox "trees"
  n_EightBox_taken : NoAttr K A.c_EightBox "taken"
  n_EightBox_told : NoAttr K A.c_EightBox "told"
  n_EightBox_rest : NoAttr K A.c_EightBox "rest"
  g_EightBox : mg "EightBox" = some (.ref A.c_EightBox)
  cl_Reading : Cls K A.c_Reading
  n_Reading_box : NoAttr K A.c_Reading "box"
  n_Reading_meter : NoAttr K A.c_Reading "meter"
  g_Reading : mg "Reading" = some (.ref A.c_Reading)
  g_END : mg "END" = some (.ref A.k_END)
  t_END : ∀ H, SqT K H A.k_END [.str "end"]
  g_WAITS : mg "WAITS" = some (.ref A.k_WAITS)
  t_WAITS : ∀ H, SqT K H A.k_WAITS [.str "waits"]
  g_TIMES : mg "TIMES" = some (.ref A.k_TIMES)
  t_TIMES : ∀ H, SqT K H A.k_TIMES [.int 1, .int 0, .int 0, .int 0, .int 0, .int 0, .int 0, .int 1]
  i_MOST_NUMBER : ∃ t, mg "MOST_NUMBER" = some (.int 1000000000000 t)
  i_MOST_DEPTH : ∃ t, mg "MOST_DEPTH" = some (.int 5 t)
  i_MOST_PARTS : ∃ t, mg "MOST_PARTS" = some (.int 12 t)
  i_MOST_POWER : ∃ t, mg "MOST_POWER" = some (.int 4 t)
  g_LENGTHS : mg "LENGTHS" = some (.ref A.k_LENGTHS)
  g_CHECKS : mg "CHECKS" = some (.ref A.k_CHECKS)
  x_NoValue : XC K mg A.c_NoValue "NoValue"
structure DT (K : PySem.W.Frag) (mg : Str → Option Value) (A : Ad) : Prop where
  wall : ∃ f fd, DefAt K mg "_wall" s_wall ["k"] f fd
  root_below : ∃ f fd, DefAt K mg "root_below" s_root_below ["number"] f fd
  Meter_init : ∃ f fd, Fun K "__init__" "Meter.__init__" s_Meter_init f fd ∧ Mk K A.c_Meter f ∧ Binds K fd ["self"] []
  Meter_allow : ∃ f fd, Fun K "allow" "Meter.allow" s_Meter_allow f fd ∧ Meth K A.c_Meter "allow" f ∧ Binds K fd ["self", "most"] []
  Meter_pay : ∃ f fd, Fun K "pay" "Meter.pay" s_Meter_pay f fd ∧ Meth K A.c_Meter "pay" f ∧ Binds K fd ["self"] []
  FractionChain_init : ∃ f fd, Fun K "__init__" "FractionChain.__init__" s_FractionChain_init f fd ∧ Mk K A.c_FractionChain f ∧ Binds K fd ["self", "top", "below"] []
  FractionChain_has_ended : ∃ f fd, Fun K "has_ended" "FractionChain.has_ended" s_FractionChain_has_ended f fd ∧ Meth K A.c_FractionChain "has_ended" f ∧ Binds K fd ["self"] []
  FractionChain_next_part : ∃ f fd, Fun K "next_part" "FractionChain.next_part" s_FractionChain_next_part f fd ∧ Meth K A.c_FractionChain "next_part" f ∧ Binds K fd ["self"] []
  RootChain_init : ∃ f fd, Fun K "__init__" "RootChain.__init__" s_RootChain_init f fd ∧ Mk K A.c_RootChain f ∧ Binds K fd ["self", "top", "square", "below"] []
  RootChain_has_ended : ∃ f fd, Fun K "has_ended" "RootChain.has_ended" s_RootChain_has_ended f fd ∧ Meth K A.c_RootChain "has_ended" f ∧ Binds K fd ["self"] []
  RootChain_next_part : ∃ f fd, Fun K "next_part" "RootChain.next_part" s_RootChain_next_part f fd ∧ Meth K A.c_RootChain "next_part" f ∧ Binds K fd ["self"] []
  RootChain_what_is_left : ∃ f fd, Fun K "what_is_left" "RootChain.what_is_left" s_RootChain_what_is_left f fd ∧ Meth K A.c_RootChain "what_is_left" f ∧ Binds K fd ["self"] []
  RuledChain_init : ∃ f fd, Fun K "__init__" "RuledChain.__init__" s_RuledChain_init f fd ∧ Mk K A.c_RuledChain f ∧ Binds K fd ["self", "parts", "ring", "steps"] []
  RuledChain_has_ended : ∃ f fd, Fun K "has_ended" "RuledChain.has_ended" s_RuledChain_has_ended f fd ∧ Meth K A.c_RuledChain "has_ended" f ∧ Binds K fd ["self"] []
  RuledChain_next_part : ∃ f fd, Fun K "next_part" "RuledChain.next_part" s_RuledChain_next_part f fd ∧ Meth K A.c_RuledChain "next_part" f ∧ Binds K fd ["self"] []
  Leaf_init : ∃ f fd, Fun K "__init__" "Leaf.__init__" s_Leaf_init f fd ∧ Mk K A.c_Leaf f ∧ Binds K fd ["self", "chain"] []
  Leaf_ask : ∃ f fd, Fun K "ask" "Leaf.ask" s_Leaf_ask f fd ∧ Meth K A.c_Leaf "ask" f ∧ Binds K fd ["self", "meter"] []
  leaf_of : ∃ f fd, DefAt K mg "leaf_of" s_leaf_of ["tree"] f fd
  root_chain : ∃ f fd, DefAt K mg "root_chain" s_root_chain ["top", "square", "below"] f fd
  FractionBox_init : ∃ f fd, Fun K "__init__" "FractionBox.__init__" s_FractionBox_init f fd ∧ Mk K A.c_FractionBox f ∧ Binds K fd ["self", "top", "below", "told"] []
  FractionBox_ask : ∃ f fd, Fun K "ask" "FractionBox.ask" s_FractionBox_ask f fd ∧ Meth K A.c_FractionBox "ask" f ∧ Binds K fd ["self", "meter"] []
  FractionBox_nothing_left : ∃ f fd, Fun K "nothing_left" "FractionBox.nothing_left" s_FractionBox_nothing_left f fd ∧ Meth K A.c_FractionBox "nothing_left" f ∧ Binds K fd ["self"] []
  FourBox_init : ∃ f fd, Fun K "__init__" "FourBox.__init__" s_FourBox_init f fd ∧ Mk K A.c_FourBox f ∧ Binds K fd ["self", "numbers", "tree", "started", "told"] []
  FourBox_ask : ∃ f fd, Fun K "ask" "FourBox.ask" s_FourBox_ask f fd ∧ Meth K A.c_FourBox "ask" f ∧ Binds K fd ["self", "meter"] []
  FourBox_tell : ∃ f fd, Fun K "tell" "FourBox.tell" s_FourBox_tell f fd ∧ Meth K A.c_FourBox "tell" f ∧ Binds K fd ["self", "part"] []
  FourBox_take : ∃ f fd, Fun K "take" "FourBox.take" s_FourBox_take f fd ∧ Meth K A.c_FourBox "take" f ∧ Binds K fd ["self", "answer"] []
  EightBox_init : ∃ f fd, Fun K "__init__" "EightBox.__init__" s_EightBox_init f fd ∧ Mk K A.c_EightBox f ∧ Binds K fd ["self", "numbers", "one", "other"] []
  EightBox_ask : ∃ f fd, Fun K "ask" "EightBox.ask" s_EightBox_ask f fd ∧ Meth K A.c_EightBox "ask" f ∧ Binds K fd ["self", "meter"] []
  EightBox_tell : ∃ f fd, Fun K "tell" "EightBox.tell" s_EightBox_tell f fd ∧ Meth K A.c_EightBox "tell" f ∧ Binds K fd ["self", "part"] []
  EightBox_take : ∃ f fd, Fun K "take" "EightBox.take" s_EightBox_take f fd ∧ Meth K A.c_EightBox "take" f ∧ Binds K fd ["self", "which", "answer"] []
  EightBox_left_without : ∃ f fd, Fun K "left_without" "EightBox.left_without" s_EightBox_left_without f fd ∧ Meth K A.c_EightBox "left_without" f ∧ Binds K fd ["self", "which"] []
  box_of_one : ∃ f fd, DefAt K mg "box_of_one" s_box_of_one ["numbers", "tree", "told"] f fd
  with_first_part : ∃ f fd, DefAt K mg "with_first_part" s_with_first_part ["numbers", "part"] f fd
  with_second_part : ∃ f fd, DefAt K mg "with_second_part" s_with_second_part ["numbers", "part"] f fd
  turned_over : ∃ f fd, DefAt K mg "turned_over" s_turned_over ["numbers", "part"] f fd
  four_corners : ∃ f fd, DefAt K mg "four_corners" s_four_corners ["numbers"] f fd
  eight_corners : ∃ f fd, DefAt K mg "eight_corners" s_eight_corners ["numbers"] f fd
  sure_part : ∃ f fd, DefAt K mg "sure_part" s_sure_part ["corners"] f fd
  check_tree : ∃ f fd, DefAt K mg "check_tree" s_check_tree ["tree"] f fd
  check_at_depth : ∃ f fd, DefAt K mg "check_at_depth" s_check_at_depth ["tree", "depth"] f fd
  require : ∃ f fd, DefAt K mg "require" s_require ["holds", "why"] f fd
  check_row : ∃ f fd, DefAt K mg "check_row" s_check_row ["row", "fewest", "most"] f fd
  is_whole : ∃ f fd, DefAt K mg "is_whole" s_is_whole ["number"] f fd
  check_fraction : ∃ f fd, DefAt K mg "check_fraction" s_check_fraction ["tree", "depth"] f fd
  check_root : ∃ f fd, DefAt K mg "check_root" s_check_root ["tree", "depth"] f fd
  check_ruled : ∃ f fd, DefAt K mg "check_ruled" s_check_ruled ["tree", "depth"] f fd
  check_four : ∃ f fd, DefAt K mg "check_four" s_check_four ["tree", "depth"] f fd
  check_eight : ∃ f fd, DefAt K mg "check_eight" s_check_eight ["tree", "depth"] f fd
  check_line : ∃ f fd, DefAt K mg "check_line" s_check_line ["numbers"] f fd
  check_power : ∃ f fd, DefAt K mg "check_power" s_check_power ["tree", "depth"] f fd
  Reading_init : ∃ f fd, Fun K "__init__" "Reading.__init__" s_Reading_init f fd ∧ Mk K A.c_Reading f ∧ Binds K fd ["self", "box"] []
  Reading_part : ∃ f fd, Fun K "part" "Reading.part" s_Reading_part f fd ∧ Meth K A.c_Reading "part" f ∧ Binds K fd ["self", "most"] []
  Reading_took : ∃ f fd, Fun K "took" "Reading.took" s_Reading_took f fd ∧ Meth K A.c_Reading "took" f ∧ Binds K fd ["self"] []
  reader : ∃ f fd, DefAt K mg "reader" s_reader ["tree"] f fd
  box_of : ∃ f fd, DefAt K mg "box_of" s_box_of ["tree"] f fd
  power_box : ∃ f fd, DefAt K mg "power_box" s_power_box ["tree", "times"] f fd
  law_row : ∃ f fd, DefAt K mg "_law_row" s_law_row ["_law_script"] f fd
  law_taken : ∃ f fd, DefAt K mg "_law_taken" s_law_taken ["_law_row_here", "_law_many"] f fd
  law_whole : ∃ f fd, DefAt K mg "_law_whole" s_law_whole ["_law_found"] f fd
  law_signed : ∃ f fd, DefAt K mg "_law_signed" s_law_signed ["_law_row_here", "_law_most"] f fd
  law_root : ∃ f fd, DefAt K mg "_law_root" s_law_root ["_law_number"] f fd
  law_common : ∃ f fd, DefAt K mg "_law_common" s_law_common ["_law_one", "_law_other"] f fd
  law_lowest : ∃ f fd, DefAt K mg "_law_lowest" s_law_lowest ["_law_top", "_law_below_here"] f fd
  law_made : ∃ f fd, DefAt K mg "_law_made" s_law_made ["_law_a", "_law_b", "_law_c"] f fd
  law_sum : ∃ f fd, DefAt K mg "_law_sum" s_law_sum ["_law_one", "_law_other", "_law_by"] f fd
  law_product : ∃ f fd, DefAt K mg "_law_product" s_law_product ["_law_one", "_law_other", "_law_d"] f fd
  law_quotient : ∃ f fd, DefAt K mg "_law_quotient" s_law_quotient ["_law_one", "_law_other", "_law_d"] f fd
  law_below : ∃ f fd, DefAt K mg "_law_below" s_law_below ["_law_one", "_law_d"] f fd
  law_parts : ∃ f fd, DefAt K mg "_law_parts" s_law_parts ["_law_one", "_law_d", "_law_many"] f fd
  law_mix : ∃ f fd, DefAt K mg "_law_mix" s_law_mix ["_law_numbers", "_law_values"] f fd
  law_boxed : ∃ f fd, DefAt K mg "_law_boxed" s_law_boxed ["_law_numbers", "_law_values", "_law_d"] f fd
  law_square : ∃ f fd, DefAt K mg "_law_square" s_law_square ["_law_row_here"] f fd
  law_read : ∃ f fd, DefAt K mg "_law_read" s_law_read ["_law_made_here", "_law_many", "_law_most"] f fd
  law_four : ∃ f fd, DefAt K mg "_law_four" s_law_four ["_law_row_here"] f fd
  law : ∃ f fd, DefAt K mg "law" s_law ["_law_script"] f fd

/-! ### the leaves: what they are, in plain Lean -/
inductive Chain where
  | frac (t b : Int)
  | root (t s b r : Int)
  | ruled (ps ring steps : List Int) (i : Nat)
def Chain.ended : Chain → Bool
  | .frac _ b => decide (b = 0)
  | .root _ _ _ _ => false
  | .ruled ps ring _ i => decide (ring = []) && decide (ps.length ≤ i)
def ruledAt (ps ring steps : List Int) (i : Nat) : Int :=
  if i < ps.length then ps.getD i 0 else ring.getD ((i - ps.length) % ring.length) 0 + (((i - ps.length) / ring.length : Nat) : Int) * steps.getD ((i - ps.length) % ring.length) 0
def rootPart (t b r : Int) : Int := (t + r + (if b < 0 then 1 else 0)).fdiv b
def Chain.part : Chain → Int
  | .frac t b => t.fdiv b
  | .root t _ b r => rootPart t b r
  | .ruled ps ring steps i => ruledAt ps ring steps i
def Chain.next : Chain → Chain
  | .frac t b => .frac b (t.fmod b)
  | .root t s b r => .root (rootPart t b r * b - t) s ((s - (rootPart t b r * b - t) * (rootPart t b r * b - t)).fdiv b) r
  | .ruled ps ring steps i => .ruled ps ring steps (i + 1)
/-- numbers of a root's chain, bounded for good -/
structure RootOk (t s b r : Int) : Prop where
  rt : IsRoot s r
  ns : r * r ≠ s
  nz : b ≠ 0
  dv : ∃ q, s - t * t = q * b
  sw : s < 2 ^ 400
  bn : b < 0 → -b ≤ 2 ^ 150
  bp : 0 < b → b ≤ 2 * r + 1 + 2 ^ 150
  tw : t.natAbs < 2 ^ 300
def tame (z : Int) : Prop := -1000000000000 ≤ z ∧ z ≤ 1000000000000
structure RuledOk (ps ring steps : List Int) : Prop where
  p1 : ps ≠ []
  p12 : ps.length ≤ 12
  r12 : ring.length ≤ 12
  same : steps.length = ring.length
  tp : ∀ z ∈ ps, tame z
  tr : ∀ z ∈ ring, tame z
  ts : ∀ z ∈ steps, tame z
def Chain.Ok : Chain → Prop
  | .frac t b => small t ∧ small b
  | .root t s b r => RootOk t s b r
  | .ruled ps ring steps _ => RuledOk ps ring steps
/-! ### what stands in the heap -/
abbrev Flds := List (Str × V)
def chF (t b : Int) : Flds := [("top", .int t), ("below", .int b)]
def rtF (t s b r : Int) : Flds := [("top", .int t), ("square", .int s), ("below", .int b), ("root", .int r)]
def ruF (p q u : Addr) (i : Nat) : Flds := [("parts", .ref p), ("ring", .ref q), ("steps", .ref u), ("at", .int i)]
def meF (l s : Int) : Flds := [("left", .int l), ("spent", .int s)]
def leF (c : Addr) : Flds := [("chain", .ref c)]
def reF (b m : Addr) : Flds := [("box", .ref b), ("meter", .ref m)]
def Chain.At (A : Ad) (K : PySem.W.Frag) (H : Hp) (a : Addr) : Chain → Prop
  | .frac t b => ∃ dx, H a = some (.ins A.c_FractionChain dx (chF t b))
  | .root t s b r => ∃ dx, H a = some (.ins A.c_RootChain dx (rtF t s b r))
  | .ruled ps ring steps i => ∃ dx p q u, H a = some (.ins A.c_RuledChain dx (ruF p q u i)) ∧ SqT K H p (ps.map V.int) ∧ SqT K H q (ring.map V.int) ∧ SqT K H u (steps.map V.int)
def MeterAt (A : Ad) (H : Hp) (m : Addr) (l s : Int) : Prop := ∃ dx, H m = some (.ins A.c_Meter dx (meF l s))
/-- a tuple stays one where all that was tracked but some instances and lists stays -/
theorem sqT_but {K : PySem.W.Frag} {H H' : Hp} {a : Addr} {xs : List V} {N : Addr → Prop} (h : SqT K H a xs) (k : ∀ b o, H b = some o → ¬ N b → H' b = some o) (hN : ∀ b o, N b → H b = some o → (∀ ys, o ≠ .tup ys) ∧ ∀ ob u, o ≠ .frz ob u) : SqT K H' a xs := by
  rcases h with (h | ⟨o, h⟩) | h
  · exact .inl (.inl (k _ _ h fun z => (hN _ _ z h).1 _ rfl))
  · exact .inl (.inr ⟨o, k _ _ h fun z => (hN _ _ z h).2 _ _ rfl⟩)
  · exact .inr h
theorem sqT_same {K : PySem.W.Frag} {H H' : Hp} {a : Addr} {xs : List V} (h : SqT K H a xs) (k : Same H H') : SqT K H' a xs := by
  rcases h with (h | ⟨o, h⟩) | h
  · exact .inl (.inl (k _ _ h))
  · exact .inl (.inr ⟨o, k _ _ h⟩)
  · exact .inr h
theorem sqT_ins {K : PySem.W.Frag} {H : Hp} {a b C dx : Addr} {xs : List V} {fs : Flds} {o : HO} (h : SqT K H a xs) (hb : H b = some (.ins C dx fs)) : SqT K (upd H b o) a xs :=
  sqT_but (N := fun c => c = b) h (fun c u e n => by rw [upd_ne n]; exact e) fun c u e z => by
    subst e
    rw [hb] at z
    cases z
    exact ⟨fun _ q => (by cases q), fun _ _ q => (by cases q)⟩
/-- a maker that lays its arguments down -/
def sp_ini (C : Addr) (n : Nat) (mk : List V → Flds) : Sp := fun vs H Q _ => ∃ (p dx : Addr) (us : List V), vs = .ref p :: us ∧ us.length = n ∧ H p = some (.ins C dx []) ∧ Q .non (upd H p (.ins C dx (mk us)))
section
variable {P : Program} {w : World} {K : PySem.W.Frag} {mg : Str → Option Value} {base : Heap} {A : Ad}
theorem ok_FractionChain_init (T : CT K mg A) (D : DT K mg A) : IOk P w K mg base 1 "FractionChain" A.c_FractionChain ["self", "top", "below"] (sp_ini A.c_FractionChain 2 fun us => [("top", us.getD 0 .non), ("below", us.getD 1 .non)]) := by
  refine IOk.of T.g_FractionChain D.FractionChain_init fun f fd F => ?_
  refine F.ok sc_FractionChain_init (fun vs H Q E h => ?_) (fun cdv Ar outer s H vs Q E hr h => ?_)
  · obtain ⟨p, dx, us, rfl, hl, _⟩ := h
    show us.length + 1 = 3
    omega
  · obtain ⟨p, dx, us, rfl, hl, hp, k⟩ := h
    match us, hl with
    | [u0, u1], _ =>
      refine ⟨_, (pss_cons (ps_fld (pv 0) (pv 1) rfl)
    (pss_one (ps_fld (pv 0) (pv 2) rfl))), ?_⟩
      refine ⟨_, rfl, _, rfl, p, _, dx, [], rfl, hp, T.cl_FractionChain, T.n_FractionChain_top, (by show 0 < 1000; decide), ?_⟩
      refine ⟨_, rfl, _, rfl, p, _, dx, _, rfl, upd_same, T.cl_FractionChain, T.n_FractionChain_below, (by show 1 < 1000; decide), ?_⟩
      refine cast (congrArg (Q V.non) ?_) k
      rw [upd_upd]
      rfl
theorem ok_FractionChain_has_ended (T : CT K mg A) (D : DT K mg A) : MOk P w K mg base CX0 1 A.c_FractionChain "has_ended" ["self"] (fun vs H Q _ => ∃ a t b, vs = [.ref a] ∧ Chain.At A K H a (.frac t b) ∧ Q (.bl (decide (b = 0))) H) := by
  refine MOk.of T.cl_FractionChain D.FractionChain_has_ended fun f fd F => ?_
  refine F.ok sc_FractionChain_has_ended (fun vs H Q E h => ?_) (fun cdv Ar outer s H vs Q E hr h => ?_)
  · obtain ⟨a, t, b, rfl, _⟩ := h
    rfl
  · obtain ⟨a, t, b, rfl, ⟨dx, ha⟩, k⟩ := h
    refine ⟨_, (pss_one (ps_ret (pe_cmpR op_eq (pe_fld (pv 0) rfl) pe_int (nomark _)))), ?_⟩
    refine ⟨_, rfl, a, _, dx, _, _, rfl, ha, T.cl_FractionChain, T.n_FractionChain_below, rfl, rfl, ?_⟩
    show Q (.bl (decide (V.int b = V.int 0))) H
    rw [dec_int]
    exact cast (congrArg (fun z => Q (V.bl z) H) (by rw [Bool.beq_eq_decide_eq])) k
theorem ok_FractionChain_next_part (T : CT K mg A) (D : DT K mg A) : MOk P w K mg base CX0 1 A.c_FractionChain "next_part" ["self"] (fun vs H Q _ => ∃ a t b, vs = [.ref a] ∧ Chain.At A K H a (.frac t b) ∧ b ≠ 0 ∧ small t ∧ small b ∧
    ∀ H', Chain.At A K H' a (.frac b (t.fmod b)) → (∀ c o, H c = some o → c ≠ a → H' c = some o) → Q (.int (t.fdiv b)) H') := by
  refine MOk.of T.cl_FractionChain D.FractionChain_next_part fun f fd F => ?_
  refine F.ok sc_FractionChain_next_part (fun vs H Q E h => ?_) (fun cdv Ar outer s H vs Q E hr h => ?_)
  · obtain ⟨a, t, b, rfl, _⟩ := h
    rfl
  · obtain ⟨a, t, b, rfl, ⟨dx, ha⟩, hb, st, sb, k⟩ := h
    refine ⟨_, (pss_cons (ps_set (i := 1) sc_FractionChain_next_part.nd rfl (Or.inl rfl) (pe_op op_fdivS (pe_fld (pv 0) rfl) (pe_fld (pv 0) rfl)))
    (pss_cons (ps_asg (pe_tup (pa_cons (pe_fld (pv 0) rfl) (pa_cons (pe_op op_sub (pe_fld (pv 0) rfl) (pe_op op_mulW (pv 1) (pe_fld (pv 0) rfl))) pa_nil))) (pg_tup rfl (pgs_cons (pg_fld (pv 0)) (pgs_cons (pg_fld (pv 0)) pgs_nil))))
    (pss_one (ps_ret (pv 1))))), ?_⟩
    have cl := T.cl_FractionChain
    refine ⟨_, rfl, a, _, dx, _, _, rfl, ha, cl, T.n_FractionChain_top, rfl, _, rfl, a, _, dx, _, _, rfl, ha, cl, T.n_FractionChain_below, rfl, _, _, rfl, rfl, small_fdiv sb hb _, ?_⟩
    refine ⟨_, rfl, a, _, dx, _, _, rfl, ha, cl, T.n_FractionChain_below, rfl, _, rfl, a, _, dx, _, _, rfl, ha, cl, T.n_FractionChain_top, rfl, _, rfl, _, rfl, a, _, dx, _, _, rfl, ha, cl, T.n_FractionChain_below, rfl, _, _, rfl, rfl, small_mul (small_fd st hb) sb, _, _, rfl, rfl, ?_⟩
    refine ⟨(by show 2 ≤ sizeLine; decide), fun q nq => ?_⟩
    have s1 := same_upd (o := .tup [V.int b, .int (t - t.fdiv b * b)]) nq
    refine ⟨q, _, rfl, SqT.of upd_same, rfl, _, _, rfl, _, rfl, a, _, dx, _, rfl, s1 _ _ ha, cl, T.n_FractionChain_top, (by show 2 < 1000; decide), ?_⟩
    refine ⟨_, _, rfl, _, rfl, a, _, dx, _, rfl, upd_same, cl, T.n_FractionChain_below, (by show 2 < 1000; decide), rfl, ?_⟩
    refine ⟨_, rfl, k _ ⟨dx, ?_⟩ fun c o e hc => ?_⟩
    · rw [upd_same, ← fmod_eq t b]
      rfl
    · rw [upd_ne hc, upd_ne hc]
      exact s1 _ _ e
end
/-! ### a root's chain stays within its bounds -/
theorem IsRoot.abs {s t : Int} (h : t * t = s) : IsRoot s t.natAbs := by
  have e : (t.natAbs : Int) * t.natAbs = s := by rw [← h]; exact Int.natAbs_mul_self
  refine ⟨by omega, by omega, ?_⟩
  have e2 : ((t.natAbs : Int) + 1) * ((t.natAbs : Int) + 1) = t.natAbs * t.natAbs + 2 * t.natAbs + 1 := by grind
  omega
theorem lt_of_sq {r n : Int} {k : Nat} (h0 : 0 ≤ r) (h : r * r ≤ n) (hn : n < 2 ^ (k + k)) : r < 2 ^ k := by
  rcases Int.lt_or_le r (2 ^ k) with z | z
  · exact z
  · exfalso
    have h1 := Int.mul_le_mul z z (Int.le_of_lt (Int.pow_pos (by decide))) h0
    rw [← Int.pow_add] at h1
    omega
/-- x b < y b, b above nought -/
theorem lt_of_mul {x y b : Int} (hb : 0 < b) (h : x * b < y * b) : x < y := by
  rcases Int.lt_or_le x y with z | z
  · exact z
  · have := Int.mul_le_mul_of_nonneg_right z (Int.le_of_lt hb)
    omega
theorem le_of_mul {x y b : Int} (hb : 0 < b) (h : x * b ≤ y * b) : x ≤ y := by
  rcases Int.lt_or_le y x with z | z
  · have := Int.mul_le_mul_of_nonneg_right (show y + 1 ≤ x from z) (Int.le_of_lt hb)
    have e : (y + 1) * b = y * b + b := by grind
    omega
  · exact z
theorem root_step {t s b r a : Int} (h : RootOk t s b r) (ha : a = rootPart t b r) :
    (0 < b → a * b - t ≤ r ∧ r + 1 ≤ a * b - t + b) ∧ (b < 0 → r + 1 ≤ a * b - t ∧ a * b - t ≤ r - b) := by
  subst ha
  refine ⟨fun hb => ?_, fun hb => ?_⟩
  · have e := fdm (t + r + 0) b
    have := fmod_pos (a := t + r + 0) hb
    unfold rootPart
    rw [if_neg (by omega), Int.mul_comm]
    omega
  · have e := fdm (t + r + 1) b
    have := fmod_neg (a := t + r + 1) hb
    unfold rootPart
    rw [if_pos hb, Int.mul_comm]
    omega
theorem root_next {t s b r : Int} (h : RootOk t s b r) : RootOk (rootPart t b r * b - t) s ((s - (rootPart t b r * b - t) * (rootPart t b r * b - t)).fdiv b) r := by
  obtain ⟨sp, sn⟩ := root_step h rfl
  obtain ⟨rt, ns, nz, ⟨q, hq⟩, sw, bn, bp, tw⟩ := h
  generalize rootPart t b r = a at *
  obtain ⟨r0, r1, r2⟩ := rt
  have hr : r < 2 ^ 200 := lt_of_sq r0 r1 sw
  have p150 : (2 : Int) ^ 150 = 1427247692705959881058285969449495136382746624 := by decide
  have p200 : (2 : Int) ^ 200 = 1606938044258990275541962092341162602522202993782792835301376 := by decide
  have p300 : (2 : Nat) ^ 300 = 2037035976334486086268445688409378161051468393665936250636140449354381299763336706183397376 := by decide
  have hd : s - (a * b - t) * (a * b - t) = (q - a * (a * b - 2 * t)) * b := by
    have e : s - (a * b - t) * (a * b - t) = (s - t * t) - (a * (a * b - 2 * t)) * b := by grind
    rw [e, hq]
    grind
  have e2 : (s - (a * b - t) * (a * b - t)).fdiv b = q - a * (a * b - 2 * t) := by
    rw [hd]
    exact Int.mul_fdiv_cancel _ nz
  rw [e2]
  generalize q - a * (a * b - 2 * t) = c at *
  generalize a * b - t = u at *
  have ex : (r + 1) * (r + 1) = r * r + 2 * r + 1 := by grind
  have c0 : c ≠ 0 := fun z => by
    rw [z, Int.zero_mul] at hd
    have e : u * u = s := by omega
    have hu := (IsRoot.abs e).unique ⟨r0, r1, r2⟩
    have : (u.natAbs : Int) * u.natAbs = u * u := Int.natAbs_mul_self
    rw [hu] at this
    omega
  refine ⟨⟨r0, r1, r2⟩, ns, c0, ⟨b, by rw [hd, Int.mul_comm]⟩, sw, ?_, ?_, ?_⟩
  · intro hc
    rcases Int.lt_or_gt_of_ne nz with hb | hb
    · exfalso
      obtain ⟨u1, u2⟩ := sn hb
      have k1 := Int.mul_nonneg_of_nonpos_of_nonpos (Int.le_of_lt hc) (Int.le_of_lt hb)
      have k2 := Int.mul_le_mul u1 u1 (by omega) (by omega)
      omega
    · obtain ⟨u1, u2⟩ := sp hb
      have hu : u ≤ -r - 1 := by
        rcases Int.lt_or_le u (-r) with z | z
        · omega
        · exfalso
          have k1 : u * u ≤ r * r := by
            have := Int.mul_nonneg (show 0 ≤ r - u by omega) (show 0 ≤ r + u by omega)
            have e : (r - u) * (r + u) = r * r - u * u := by grind
            omega
          have k2 := Int.mul_nonneg (show 0 ≤ -c - 1 by omega) (Int.le_of_lt hb)
          have e3 : (-c - 1) * b = -(c * b) - b := by grind
          omega
      have k3 : (-c) * b ≤ (-u - r) * b := by
        have k4 := Int.mul_le_mul_of_nonneg_left (show -u + r ≤ b by omega) (show 0 ≤ -u - r by omega)
        have e4 : (-u - r) * (-u + r) = u * u - r * r := by grind
        have e5 : -c * b = -(c * b) := by grind
        omega
      have k5 := le_of_mul hb k3
      have := bp hb
      omega
  · intro hc
    rcases Int.lt_or_gt_of_ne nz with hb | hb
    · obtain ⟨u1, u2⟩ := sn hb
      have k3 : c * (-b) ≤ (u + r) * (-b) := by
        have k4 := Int.mul_le_mul_of_nonneg_left (show u - r ≤ -b by omega) (show 0 ≤ u + r by omega)
        have e4 : (u + r) * (u - r) = u * u - r * r := by grind
        have e5 : c * -b = -(c * b) := by grind
        omega
      have k5 := le_of_mul (show 0 < -b by omega) k3
      have := bn hb
      omega
    · obtain ⟨u1, u2⟩ := sp hb
      have hu : -r ≤ u := by
        rcases Int.lt_or_le u (-r) with z | z
        · exfalso
          have k1 := Int.mul_le_mul (show r + 1 ≤ -u by omega) (show r + 1 ≤ -u by omega) (by omega) (by omega)
          have e : -u * -u = u * u := by grind
          have k2 := Int.mul_nonneg (Int.le_of_lt hc) (Int.le_of_lt hb)
          omega
        · exact z
      have k3 : c * b < (r + 1 + u) * b := by
        have k4 := Int.mul_le_mul_of_nonneg_left (show r + 1 - u ≤ b by omega) (show 0 ≤ r + 1 + u by omega)
        have e4 : (r + 1 + u) * (r + 1 - u) = (r + 1) * (r + 1) - u * u := by grind
        omega
      have k5 := lt_of_mul hb k3
      omega
  · rcases Int.lt_or_gt_of_ne nz with hb | hb
    · obtain ⟨u1, u2⟩ := sn hb
      have := bn hb
      omega
    · obtain ⟨u1, u2⟩ := sp hb
      have := bp hb
      omega
theorem dvd_of_sq {w r s : Int} (hw : w ≠ 0) (h : r * r = s * (w * w)) : ∃ k, r = k * w := by
  have h1 : w ^ 2 ∣ r ^ 2 := ⟨s, by
    have e1 : r ^ 2 = r * r := by grind
    have e2 : w ^ 2 = w * w := by grind
    rw [e1, e2, h, Int.mul_comm]⟩
  have h2 : w ∣ r := (Int.pow_dvd_pow_iff (by decide)).mp h1
  obtain ⟨k, hk⟩ := h2
  exact ⟨k, by rw [hk, Int.mul_comm]⟩
/-- a root's first numbers, widened -/
theorem root_first {t s b r q : Int} (ht : tame t) (hs0 : 0 ≤ s) (hs : s ≤ 1000000000000) (hb : tame b) (h0 : b ≠ 0) (hr : IsRoot s r) (hn : r * r ≠ s) (hq : IsRoot (s * (b.natAbs : Int) * (b.natAbs : Int)) q) :
    RootOk (t * (b.natAbs : Int)) (s * (b.natAbs : Int) * (b.natAbs : Int)) (b * (b.natAbs : Int)) q := by
  obtain ⟨t1, t2⟩ := ht
  obtain ⟨b1, b2⟩ := hb
  have w0 : (0 : Int) < b.natAbs := by omega
  have w1 : (b.natAbs : Int) ≤ 1000000000000 := by omega
  have hbw : b = b.natAbs ∨ b = -(b.natAbs : Int) := by omega
  generalize (b.natAbs : Int) = w at *
  have ww : w * w ≤ 1000000000000 * 1000000000000 := Int.mul_le_mul w1 w1 (by omega) (by decide)
  have ww0 : 0 < w * w := Int.mul_pos w0 w0
  have sww : s * w * w ≤ 1000000000000 * (1000000000000 * 1000000000000) := by
    rw [Int.mul_assoc]
    exact Int.mul_le_mul hs ww (by omega) (by decide)
  have p150 : (2 : Int) ^ 150 = 1427247692705959881058285969449495136382746624 := by decide
  refine ⟨hq, fun z => ?_, ?_, ?_, Int.lt_of_le_of_lt sww (by decide +kernel), ?_, ?_, ?_⟩
  · obtain ⟨k, hk⟩ := dvd_of_sq (w := w) (r := q) (s := s) (by omega) (by rw [z, Int.mul_assoc])
    have e : k * k = s := by
      have e1 : (k * k - s) * (w * w) = 0 := by
        have : q * q = s * w * w := z
        rw [hk] at this
        grind
      rcases Int.mul_eq_zero.mp e1 with y | y <;> omega
    have hk2 := (IsRoot.abs e).unique hr
    have : (k.natAbs : Int) * k.natAbs = k * k := Int.natAbs_mul_self
    rw [hk2] at this
    omega
  · rcases hbw with e | e <;> rw [e]
    · omega
    · intro z
      have : -w * w = -(w * w) := by grind
      omega
  · rcases hbw with e | e <;> rw [e]
    · exact ⟨s - t * t, by grind⟩
    · exact ⟨-(s - t * t), by grind⟩
  · intro z
    have : -(b * w) ≤ w * w := by
      rcases hbw with e | e <;> rw [e]
      · omega
      · have : -w * w = -(w * w) := by grind
        omega
    omega
  · intro z
    have : b * w ≤ w * w := by
      rcases hbw with e | e <;> rw [e]
      · exact Int.le_refl _
      · have : -w * w = -(w * w) := by grind
        omega
    have := hq.1
    omega
  · rw [Int.natAbs_mul]
    have : t.natAbs * w.natAbs ≤ 1000000000000 * 1000000000000 := Nat.mul_le_mul (by omega) (by omega)
    exact Nat.lt_of_le_of_lt this (by decide +kernel)
section
variable {P : Program} {w : World} {K : PySem.W.Frag} {mg : Str → Option Value} {base : Heap} {A : Ad}
theorem root_small {t s b r : Int} (h : RootOk t s b r) : small t ∧ small b ∧ small r ∧ small s ∧ small (t + r + (if b < 0 then 1 else 0)) ∧ small (rootPart t b r) ∧ small (rootPart t b r * b - t) := by
  have n := root_next h
  obtain ⟨⟨r0, r1, r2⟩, ns, nz, dv, sw, bn, bp, tw⟩ := h
  have hr : r < 2 ^ 200 := lt_of_sq r0 r1 sw
  have p150 : (2 : Int) ^ 150 = 1427247692705959881058285969449495136382746624 := by decide
  have p200 : (2 : Int) ^ 200 = 1606938044258990275541962092341162602522202993782792835301376 := by decide
  have p300 : (2 : Nat) ^ 300 = 2037035976334486086268445688409378161051468393665936250636140449354381299763336706183397376 := by decide
  have up : ∀ z : Int, z.natAbs < 2 ^ 302 → small z := fun z hz => Nat.lt_trans hz (Nat.pow_lt_pow_right (by decide) (by decide))
  have p302 : (2 : Nat) ^ 302 = 4 * 2 ^ 300 := by decide
  have st : (t + r + (if b < 0 then 1 else 0)).natAbs < 2 ^ 302 := by split <;> omega
  have hs0 : 0 ≤ s := Int.le_trans (sq_nonneg r) r1
  refine ⟨up _ (by omega), up _ ?_, up _ (by omega), ?_, up _ st, ?_, up _ (by have := n.tw; omega)⟩
  · rcases Int.lt_or_gt_of_ne nz with z | z
    · have := bn z; omega
    · have := bp z; omega
  · exact Nat.lt_trans (natAbs_lt_pow hs0 sw) (Nat.pow_lt_pow_right (by decide) (by decide))
  · exact Nat.lt_of_le_of_lt (fdiv_abs nz) (up _ st)
def sp_RootChain_init (A : Ad) : Sp := fun vs H Q _ => ∃ (p dx : Addr) (t s b : Int), vs = [.ref p, .int t, .int s, .int b] ∧ H p = some (.ins A.c_RootChain dx []) ∧ tame t ∧ 0 ≤ s ∧ s ≤ 1000000000000 ∧ tame b ∧ b ≠ 0 ∧ (∀ r, IsRoot s r → r * r ≠ s) ∧
  ∀ q, RootOk (t * (b.natAbs : Int)) (s * (b.natAbs : Int) * (b.natAbs : Int)) (b * (b.natAbs : Int)) q → Q .non (upd H p (.ins A.c_RootChain dx (rtF (t * (b.natAbs : Int)) (s * (b.natAbs : Int) * (b.natAbs : Int)) (b * (b.natAbs : Int)) q)))
theorem small_tame {z : Int} (h : tame z) : small z := by
  obtain ⟨h1, h2⟩ := h
  have p40 : (2 : Nat) ^ 40 = 1099511627776 := by decide
  exact Nat.lt_trans (show z.natAbs < 2 ^ 40 by omega) (Nat.pow_lt_pow_right (by decide) (by decide))
theorem ok_RootChain_init (T : CT K mg A) (D : DT K mg A) (G_root_below : COk P w K mg base CX0 1 "root_below" ["number"] sp_root_below) (hroot : ∀ s : Int, 0 ≤ s → ∃ r, IsRoot s r) : IOk P w K mg base 2 "RootChain" A.c_RootChain ["self", "top", "square", "below"] (sp_RootChain_init A) := by
  refine IOk.of T.g_RootChain D.RootChain_init fun f fd F => ?_
  refine F.ok sc_RootChain_init (fun vs H Q E h => ?_) (fun cdv Ar outer s H vs Q E hr h => ?_)
  · obtain ⟨p, dx, t, s, b, rfl, _⟩ := h
    rfl
  · obtain ⟨p, dx, t, sq, b, rfl, hp, ht, hs0, hs1, hb, hb0, hns, k⟩ := h
    refine ⟨_, (pss_cons (ps_set (i := 4) sc_RootChain_init.nd rfl (Or.inl rfl) (pe_callB call_abs (by rfl) T.b_abs (by decide +kernel) (pa_cons (pv 3) pa_nil)))
    (pss_cons (ps_fld (pv 0) (pe_op op_mul (pv 1) (pv 4)) rfl)
    (pss_cons (ps_fld (pv 0) (pe_op op_mul (pe_op op_mul (pv 2) (pv 4)) (pv 4)) rfl)
    (pss_cons (ps_fld (pv 0) (pe_op op_mul (pv 3) (pv 4)) rfl)
    (pss_one (ps_fld (pv 0) (pe_c G_root_below (hr.mono (by first | decide | omega)) (pa_cons (pe_fld (pv 0) rfl) pa_nil)) rfl)))))), ?_⟩
    have cl := T.cl_RootChain
    have ew : (if b < 0 then -b else b) = (b.natAbs : Int) := by split <;> omega
    obtain ⟨b1, b2⟩ := id hb
    obtain ⟨t1, t2⟩ := id ht
    have w64 : -(2 ^ 64) < ((b.natAbs : Int)) ∧ ((b.natAbs : Int)) < 2 ^ 64 := by
      have : (2 : Int) ^ 64 = 18446744073709551616 := by decide
      omega
    refine ⟨_, rfl, b, rfl, ?_⟩
    show tSeq _ _ _ [some (V.ref p), some (V.int t), some (V.int sq), some (V.int b), some (V.int (if b < 0 then -b else b))] H
    rw [ew]
    refine ⟨_, rfl, _, rfl, _, _, rfl, rfl, .inr w64, _, rfl, p, _, dx, [], rfl, hp, cl, T.n_RootChain_top, (by show 0 < 1000; decide), ?_⟩
    refine ⟨_, rfl, _, rfl, _, _, rfl, rfl, .inr w64, _, rfl, _, _, rfl, rfl, .inr w64, _, rfl, p, _, dx, _, rfl, upd_same, cl, T.n_RootChain_square, (by show 1 < 1000; decide), ?_⟩
    refine ⟨_, rfl, _, rfl, _, _, rfl, rfl, .inr w64, _, rfl, p, _, dx, _, rfl, upd_same, cl, T.n_RootChain_below, (by show 2 < 1000; decide), ?_⟩
    have w1 : (b.natAbs : Int) ≤ 1000000000000 := by omega
    have ww : (b.natAbs : Int) * b.natAbs ≤ 1000000000000 * 1000000000000 := Int.mul_le_mul w1 w1 (by omega) (by decide)
    have ww0 : 0 ≤ (b.natAbs : Int) * b.natAbs := Int.mul_nonneg (by omega) (by omega)
    have sww : sq * (b.natAbs : Int) * b.natAbs ≤ 1000000000000 * (1000000000000 * 1000000000000) := by
      rw [Int.mul_assoc]
      exact Int.mul_le_mul hs1 ww ww0 (by decide)
    have sw0 : 0 ≤ sq * (b.natAbs : Int) * b.natAbs := by rw [Int.mul_assoc]; exact Int.mul_nonneg hs0 ww0
    refine ⟨_, rfl, p, _, dx, _, _, rfl, upd_same, cl, T.n_RootChain_square, rfl, _, rfl, sw0, Int.lt_of_le_of_lt sww (by decide +kernel), fun q hq => ?_⟩
    refine ⟨_, rfl, p, _, dx, _, rfl, upd_same, cl, T.n_RootChain_root, (by show 3 < 1000; decide), ?_⟩
    obtain ⟨r, hr0⟩ := hroot sq hs0
    refine cast (congrArg (Q V.non) ?_) (k q (root_first ht hs0 hs1 hb hb0 hr0 (hns r hr0) hq))
    rw [upd_upd, upd_upd, upd_upd]
    rfl
theorem ok_RootChain_has_ended (T : CT K mg A) (D : DT K mg A) : MOk P w K mg base CX0 1 A.c_RootChain "has_ended" ["self"] (fun vs H Q _ => ∃ a, vs = [.ref a] ∧ Q (.bl false) H) := by
  refine MOk.of T.cl_RootChain D.RootChain_has_ended fun f fd F => ?_
  refine F.ok sc_RootChain_has_ended (fun vs H Q E h => ?_) (fun cdv Ar outer s H vs Q E hr h => ?_)
  · obtain ⟨a, rfl, _⟩ := h
    rfl
  · obtain ⟨a, rfl, k⟩ := h
    exact ⟨_, (pss_one (ps_ret pe_bl)), k⟩
theorem ok_RootChain_next_part (T : CT K mg A) (D : DT K mg A) : MOk P w K mg base CX0 1 A.c_RootChain "next_part" ["self"] (fun vs H Q _ => ∃ a t s b r, vs = [.ref a] ∧ Chain.At A K H a (.root t s b r) ∧ RootOk t s b r ∧
    ∀ H', Chain.At A K H' a (Chain.next (.root t s b r)) → (∀ c o, H c = some o → c ≠ a → H' c = some o) → Q (.int (rootPart t b r)) H') := by
  refine MOk.of T.cl_RootChain D.RootChain_next_part fun f fd F => ?_
  refine F.ok sc_RootChain_next_part (fun vs H Q E h => ?_) (fun cdv Ar outer s H vs Q E hr h => ?_)
  · obtain ⟨a, t, s, b, r, rfl, _⟩ := h
    rfl
  · obtain ⟨a, t, sq, b, r, rfl, ⟨dx, ha⟩, ok, k⟩ := h
    refine ⟨_, (pss_cons (ps_set (i := 1) sc_RootChain_next_part.nd rfl (Or.inl rfl) (pe_ifExp (pt_cmpR op_lt (pe_fld (pv 0) rfl) pe_int (nomark _)) pe_int pe_int))
    (pss_cons (ps_set (i := 2) sc_RootChain_next_part.nd rfl (Or.inl rfl) (pe_op op_fdivS (pe_op op_add (pe_op op_add (pe_fld (pv 0) rfl) (pe_fld (pv 0) rfl)) (pv 1)) (pe_fld (pv 0) rfl)))
    (pss_cons (ps_fld (pv 0) (pe_op op_sub (pe_op op_mulW (pv 2) (pe_fld (pv 0) rfl)) (pe_fld (pv 0) rfl)) rfl)
    (pss_cons (ps_fld (pv 0) (pe_op op_fdivS (pe_op op_sub (pe_fld (pv 0) rfl) (pe_op op_mulW (pe_fld (pv 0) rfl) (pe_fld (pv 0) rfl))) (pe_fld (pv 0) rfl)) rfl)
    (pss_one (ps_ret (pv 2))))))), ?_⟩
    have cl := T.cl_RootChain
    obtain ⟨st, sb, sr, ss, sx, sp, su⟩ := root_small ok
    have nz := ok.nz
    refine ⟨_, rfl, a, _, dx, _, _, rfl, ha, cl, T.n_RootChain_below, rfl, _, _, rfl, rfl, _, rfl, ?_⟩
    have up : ∀ {Z : Int → Prop}, Z (if b < 0 then 1 else 0) → (if decide (b < 0) = true then Z 1 else Z 0) := fun {Z} hz => by
      by_cases c : b < 0
      · rw [decide_eq_true c, if_pos rfl]; rw [if_pos c] at hz; exact hz
      · rw [decide_eq_false c, if_neg (by decide)]; rw [if_neg c] at hz; exact hz
    refine up (Z := fun e => tSeq _ _ _ [some (V.ref a), some (V.int e), none] H) ?_
    refine ⟨_, rfl, a, _, dx, _, _, rfl, ha, cl, T.n_RootChain_top, rfl, _, rfl, a, _, dx, _, _, rfl, ha, cl, T.n_RootChain_root, rfl, _, _, rfl, rfl, _, rfl, _, _, rfl, rfl, _, rfl, a, _, dx, _, _, rfl, ha, cl, T.n_RootChain_below, rfl, _, _, rfl, rfl, small_fdiv sb nz _, ?_⟩
    refine ⟨_, rfl, _, rfl, a, _, dx, _, _, rfl, ha, cl, T.n_RootChain_below, rfl, _, _, rfl, rfl, small_mul sp sb, _, rfl, a, _, dx, _, _, rfl, ha, cl, T.n_RootChain_top, rfl, _, _, rfl, rfl, _, rfl, a, _, dx, _, rfl, ha, cl, T.n_RootChain_top, (by show 4 < 1000; decide), ?_⟩
    refine ⟨_, rfl, a, _, dx, _, _, rfl, upd_same, cl, T.n_RootChain_square, rfl, _, rfl, a, _, dx, _, _, rfl, upd_same, cl, T.n_RootChain_top, rfl, _, rfl, a, _, dx, _, _, rfl, upd_same, cl, T.n_RootChain_top, rfl, _, _, rfl, rfl, small_mul su su, _, _, rfl, rfl, _, rfl, a, _, dx, _, _, rfl, upd_same, cl, T.n_RootChain_below, rfl, _, _, rfl, rfl, small_fdiv sb nz _, _, rfl, a, _, dx, _, rfl, upd_same, cl, T.n_RootChain_below, (by show 4 < 1000; decide), ?_⟩
    refine ⟨_, rfl, k _ ⟨dx, ?_⟩ fun c o e hc => ?_⟩
    · rw [upd_same]
      rfl
    · rw [upd_ne hc, upd_ne hc]
      exact e
/-! ruled chains -/
theorem ok_RuledChain_init (T : CT K mg A) (D : DT K mg A) : IOk P w K mg base 1 "RuledChain" A.c_RuledChain ["self", "parts", "ring", "steps"] (sp_ini A.c_RuledChain 3 fun us => [("parts", us.getD 0 .non), ("ring", us.getD 1 .non), ("steps", us.getD 2 .non), ("at", .int 0)]) := by
  refine IOk.of T.g_RuledChain D.RuledChain_init fun f fd F => ?_
  refine F.ok sc_RuledChain_init (fun vs H Q E h => ?_) (fun cdv Ar outer s H vs Q E hr h => ?_)
  · obtain ⟨p, dx, us, rfl, hl, _⟩ := h
    show us.length + 1 = 4
    omega
  · obtain ⟨p, dx, us, rfl, hl, hp, k⟩ := h
    match us, hl with
    | [u0, u1, u2], _ =>
      refine ⟨_, (pss_cons (ps_fld (pv 0) (pv 1) rfl)
    (pss_cons (ps_fld (pv 0) (pv 2) rfl)
    (pss_cons (ps_fld (pv 0) (pv 3) rfl)
    (pss_one (ps_fld (pv 0) pe_int rfl))))), ?_⟩
      have cl := T.cl_RuledChain
      refine ⟨_, rfl, _, rfl, p, _, dx, [], rfl, hp, cl, T.n_RuledChain_parts, (by show 0 < 1000; decide), ?_⟩
      refine ⟨_, rfl, _, rfl, p, _, dx, _, rfl, upd_same, cl, T.n_RuledChain_ring, (by show 1 < 1000; decide), ?_⟩
      refine ⟨_, rfl, _, rfl, p, _, dx, _, rfl, upd_same, cl, T.n_RuledChain_steps, (by show 2 < 1000; decide), ?_⟩
      refine ⟨_, rfl, p, _, dx, _, rfl, upd_same, cl, T.n_RuledChain_at, (by show 3 < 1000; decide), ?_⟩
      refine cast (congrArg (Q V.non) ?_) k
      rw [upd_upd, upd_upd, upd_upd]
      rfl
theorem len_eq_nil {l : List Int} : decide (V.int (((l.map V.int).length : Nat) : Int) = V.int 0) = decide (l = []) := by
  cases l with
  | nil => rfl
  | cons x r =>
    rw [decide_eq_false (show ¬ (x :: r) = [] from List.cons_ne_nil _ _)]
    refine decide_eq_false fun z => ?_
    have := V.int.inj z
    rw [List.length_map, List.length_cons] at this
    omega
theorem ok_RuledChain_has_ended (T : CT K mg A) (D : DT K mg A) : MOk P w K mg base CX0 1 A.c_RuledChain "has_ended" ["self"] (fun vs H Q _ => ∃ a ps ring steps i, vs = [.ref a] ∧ Chain.At A K H a (.ruled ps ring steps i) ∧ Q (.bl (decide (ring = []) && decide (ps.length ≤ i))) H) := by
  refine MOk.of T.cl_RuledChain D.RuledChain_has_ended fun f fd F => ?_
  refine F.ok sc_RuledChain_has_ended (fun vs H Q E h => ?_) (fun cdv Ar outer s H vs Q E hr h => ?_)
  · obtain ⟨a, ps, ring, steps, i, rfl, _⟩ := h
    rfl
  · obtain ⟨a, ps, ring, steps, i, rfl, ⟨dx, p, q, u, ha, hp, hq, hu⟩, k⟩ := h
    refine ⟨_, (pss_one (ps_ret (pe_and (pe_cmpR op_eq (pe_callB call_len_seq (by rfl) T.b_len (by decide +kernel) (pa_cons (pe_fld (pv 0) rfl) pa_nil)) pe_int (nomark _)) (pe_one (pe_cmpR op_ge (pe_fld (pv 0) rfl) (pe_callB call_len_seq (by rfl) T.b_len (by decide +kernel) (pa_cons (pe_fld (pv 0) rfl) pa_nil)) (nomark _)))))), ?_⟩
    have cl := T.cl_RuledChain
    refine ⟨_, rfl, a, _, dx, _, _, rfl, ha, cl, T.n_RuledChain_ring, rfl, q, _, rfl, .inr hq, rfl, _, rfl, ?_⟩
    rw [len_eq_nil]
    by_cases c : ring = []
    · rw [decide_eq_true c] at k ⊢
      refine iteT ⟨_, rfl, a, _, dx, _, _, rfl, ha, cl, T.n_RuledChain_at, rfl, _, rfl, a, _, dx, _, _, rfl, ha, cl, T.n_RuledChain_parts, rfl, p, _, rfl, .inr hp, _, _, rfl, rfl, ?_⟩
      have e : decide ((((ps.map V.int).length : Nat) : Int) ≤ (i : Int)) = decide (ps.length ≤ i) := by
        rw [List.length_map]
        exact decide_eq_decide.mpr (by omega)
      show Q (.bl (decide ((((ps.map V.int).length : Nat) : Int) ≤ (i : Int)))) H
      rw [e]
      exact k
    · rw [decide_eq_false c] at k ⊢
      exact iteF k
theorem map_at {l : List Int} {i : Nat} (h : i < l.length) : (l.map V.int)[i]? = some (.int (l.getD i 0)) := by
  rw [List.getElem?_map, List.getElem?_eq_getElem h, List.getD_eq_getElem?_getD, List.getElem?_eq_getElem h]
  rfl
theorem mem_getD {l : List Int} {i : Nat} (h : i < l.length) : l.getD i 0 ∈ l := by
  rw [List.getD_eq_getElem?_getD, List.getElem?_eq_getElem h]
  exact List.getElem_mem h
theorem ok_RuledChain_next_part (T : CT K mg A) (D : DT K mg A) : MOk P w K mg base CX0 1 A.c_RuledChain "next_part" ["self"] (fun vs H Q _ => ∃ a ps ring steps i, vs = [.ref a] ∧ Chain.At A K H a (.ruled ps ring steps i) ∧ RuledOk ps ring steps ∧ (ring = [] → i < ps.length) ∧
    ∀ H', Chain.At A K H' a (.ruled ps ring steps (i + 1)) → (∀ c o, H c = some o → c ≠ a → H' c = some o) → Q (.int (ruledAt ps ring steps i)) H') := by
  refine MOk.of T.cl_RuledChain D.RuledChain_next_part fun f fd F => ?_
  refine F.ok sc_RuledChain_next_part (fun vs H Q E h => ?_) (fun cdv Ar outer s H vs Q E hr h => ?_)
  · obtain ⟨a, ps, ring, steps, i, rfl, _⟩ := h
    rfl
  · obtain ⟨a, ps, ring, steps, i, rfl, ⟨dx, p, q, u, ha, hp, hq, hu⟩, ok, hne, k⟩ := h
    refine ⟨_, (pss_cons (ps_set (i := 1) sc_RuledChain_next_part.nd rfl (Or.inl rfl) (pe_fld (pv 0) rfl))
    (pss_cons (ps_fldaug (pv 0) pe_int in_add)
    (pss_cons (ps_if (pt_cmpR op_lt (pv 1) (pe_callB call_len_seq (by rfl) T.b_len (by decide +kernel) (pa_cons (pe_fld (pv 0) rfl) pa_nil)) (nomark _))
      (pss_one (ps_ret (pe_ix ix_tup (pe_fld (pv 0) rfl) (pv 1) (fun _ _ => rfl)))) pss_nil)
    (pss_cons (ps_asg (pe_callB call_divmod (by rfl) T.b_divmod (by decide +kernel) (pa_cons (pe_op op_sub (pv 1) (pe_callB call_len_seq (by rfl) T.b_len (by decide +kernel) (pa_cons (pe_fld (pv 0) rfl) pa_nil))) (pa_cons (pe_callB call_len_seq (by rfl) T.b_len (by decide +kernel) (pa_cons (pe_fld (pv 0) rfl) pa_nil)) pa_nil))) (pg_tup rfl (pgs_cons (pg_name (i := 2) sc_RuledChain_next_part.nd rfl (Or.inl rfl)) (pgs_cons (pg_name (i := 3) sc_RuledChain_next_part.nd rfl (Or.inl rfl)) pgs_nil))))
    (pss_one (ps_ret (pe_op op_add (pe_ix ix_tup (pe_fld (pv 0) rfl) (pv 3) (fun _ _ => rfl)) (pe_op op_mul (pv 2) (pe_ix ix_tup (pe_fld (pv 0) rfl) (pv 3) (fun _ _ => rfl)))))))))), ?_⟩
    have cl := T.cl_RuledChain
    refine ⟨_, rfl, a, _, dx, _, _, rfl, ha, cl, T.n_RuledChain_at, rfl, ?_⟩
    refine ⟨_, rfl, a, _, dx, _, _, rfl, ha, cl, T.n_RuledChain_at, rfl, _, _, rfl, rfl, dx, _, ha, (by show 4 < 1000; decide), ?_⟩
    have h1 : ∀ o, (upd H a o) a = some o := fun o => upd_same
    have hp1 := sqT_ins (o := .ins A.c_RuledChain dx (putF "at" (.int ((i : Int) + 1)) (ruF p q u i))) hp ha
    have hq1 := sqT_ins (o := .ins A.c_RuledChain dx (putF "at" (.int ((i : Int) + 1)) (ruF p q u i))) hq ha
    have hu1 := sqT_ins (o := .ins A.c_RuledChain dx (putF "at" (.int ((i : Int) + 1)) (ruF p q u i))) hu ha
    have kp : ∀ c o, H c = some o → c ≠ a → (upd H a (.ins A.c_RuledChain dx (putF "at" (.int ((i : Int) + 1)) (ruF p q u i)))) c = some o := fun c o e hc => by rw [upd_ne hc]; exact e
    have ha1 : (upd H a (.ins A.c_RuledChain dx (putF "at" (.int ((i : Int) + 1)) (ruF p q u i)))) a = some (.ins A.c_RuledChain dx (ruF p q u (i + 1))) := upd_same
    generalize upd H a (.ins A.c_RuledChain dx (putF "at" (.int ((i : Int) + 1)) (ruF p q u i))) = H1 at *
    have hlp : (ps.map V.int).length = ps.length := List.length_map _
    have hlr : (ring.map V.int).length = ring.length := List.length_map _
    refine ⟨_, rfl, _, rfl, a, _, dx, _, _, rfl, ha1, cl, T.n_RuledChain_parts, rfl, p, _, rfl, .inr hp1, _, _, rfl, rfl, _, rfl, ite2 (fun c => ?_) (fun c => ?_)⟩
    · have hi : i < ps.length := by
        have := of_decide_eq_true c
        rw [hlp] at this
        omega
      refine ⟨_, rfl, a, _, dx, _, _, rfl, ha1, cl, T.n_RuledChain_parts, rfl, _, rfl, p, _, _, _, rfl, rfl, hp1, atI_nat (map_at hi), ?_⟩
      have e : ruledAt ps ring steps i = ps.getD i 0 := by unfold ruledAt; rw [if_pos hi]
      rw [← e]
      exact k _ ⟨dx, p, q, u, ha1, hp1, hq1, hu1⟩ kp
    · have hi : ps.length ≤ i := by
        rcases Nat.lt_or_ge i ps.length with z | z
        · exact absurd (decide_eq_true (by rw [hlp]; omega)) c
        · exact z
      have hr0 : 0 < ring.length := by
        cases ring with
        | nil => have := hne rfl; omega
        | cons x r => rw [List.length_cons]; omega
      have hr12 := ok.r12
      have hs := ok.same
      refine ⟨_, rfl, _, rfl, a, _, dx, _, _, rfl, ha1, cl, T.n_RuledChain_parts, rfl, p, _, rfl, .inr hp1, _, _, rfl, rfl, _, rfl, a, _, dx, _, _, rfl, ha1, cl, T.n_RuledChain_ring, rfl, q, _, rfl, .inr hq1, _, _, rfl, ⟨by rw [hlr]; omega, by rw [hlr]; omega⟩, fun z nz => ?_⟩
      have e1 : ((i : Int) - (((ps.map V.int).length : Nat) : Int)) / (((ring.map V.int).length : Nat) : Int) = (((i - ps.length) / ring.length : Nat) : Int) := by
        rw [hlp, hlr, Int.natCast_ediv]
        congr 1
        omega
      have e2 : ((i : Int) - (((ps.map V.int).length : Nat) : Int)) % (((ring.map V.int).length : Nat) : Int) = (((i - ps.length) % ring.length : Nat) : Int) := by
        rw [hlp, hlr, Int.natCast_emod]
        congr 1
        omega
      rw [e1, e2]
      have sm := same_upd (o := .tup [V.int (((i - ps.length) / ring.length : Nat) : Int), .int (((i - ps.length) % ring.length : Nat) : Int)]) nz
      refine ⟨z, _, rfl, SqT.of upd_same, rfl, _, _, rfl, _, _, rfl, rfl, ?_⟩
      have hm : (i - ps.length) % ring.length < ring.length := Nat.mod_lt _ hr0
      have ts := ok.ts _ (mem_getD (show (i - ps.length) % ring.length < steps.length by omega))
      have w64 : -(2 ^ 64) < steps.getD ((i - ps.length) % ring.length) 0 ∧ steps.getD ((i - ps.length) % ring.length) 0 < 2 ^ 64 := by
        obtain ⟨t1, t2⟩ := ts
        have : (2 : Int) ^ 64 = 18446744073709551616 := by decide
        omega
      refine ⟨_, rfl, a, _, dx, _, _, rfl, sm _ _ ha1, cl, T.n_RuledChain_ring, rfl, _, rfl, q, _, _, _, rfl, rfl, (sqT_same hq1 sm), atI_nat (map_at hm), ?_⟩
      refine ⟨_, rfl, _, rfl, a, _, dx, _, _, rfl, sm _ _ ha1, cl, T.n_RuledChain_steps, rfl, _, rfl, u, _, _, _, rfl, rfl, (sqT_same hu1 sm), atI_nat (map_at (show (i - ps.length) % ring.length < steps.length by omega)), _, _, rfl, rfl, .inr w64, _, _, rfl, rfl, ?_⟩
      have e : ruledAt ps ring steps i = ring.getD ((i - ps.length) % ring.length) 0 + (((i - ps.length) / ring.length : Nat) : Int) * steps.getD ((i - ps.length) % ring.length) 0 := by unfold ruledAt; rw [if_neg (by omega)]
      show Q (.int (ring.getD ((i - ps.length) % ring.length) 0 + (((i - ps.length) / ring.length : Nat) : Int) * steps.getD ((i - ps.length) % ring.length) 0)) _
      rw [← e]
      exact k _ ⟨dx, p, q, u, sm _ _ ha1, (sqT_same hp1 sm), sqT_same hq1 sm, (sqT_same hu1 sm)⟩ fun c o z hc => sm _ _ (kp c o z hc)
end
/-! ### which tuples are trees: the checks let them by -/
/-- the tables of the top -/
structure TB (K : PySem.W.Frag) (w : World) (mg : Str → Option Value) (A : Ad) : Prop where
  dL : ∃ es n, KDict K w A.k_LENGTHS es n
  dC : ∃ es n, KDict K w A.k_CHECKS es n
  lens : ∀ x n, (x, n) ∈ ([("fraction", 3), ("root", 4), ("ruled", 4), ("four", 3), ("eight", 4), ("power", 3)] : List (Str × Int)) → ∃ t, PySem.W.nsIn K A.k_LENGTHS x = some (some (.int n t))
  chks : ∀ x y f, (x, y) ∈ ([("fraction", "check_fraction"), ("root", "check_root"), ("ruled", "check_ruled"), ("four", "check_four"), ("eight", "check_eight"), ("power", "check_power")] : List (Str × Str)) → mg y = some (.ref f) → PySem.W.nsIn K A.k_CHECKS x = some (some (.ref f))
section
variable {X : Cx} {k i : Nat} {x x' : Str} {ps : List Str} {sp : Sp} {e : Expr} {es : List Expr} {t : TA} {p pos : Pos}
theorem pe_cL (C : COk X.prog X.w X.K X.mg X.base CX0 k x' ps sp) (hr : Room k X.A) (hN : X.N[i]? = some x) (hv : Vis X.env.scope x) (ha : PA X (e :: es) t)
    (hdb : (x == ("__debug__" : Str)) = false := by decide) (hcd : (x == ("__classdict__" : Str)) = false := by decide)
    (he : starEach (e :: es) X.env = (false, eval e X.env) :: starEach es X.env := by rfl) (hpl : (backTo pos (starEach es X.env)).any (·.1) = false := by rfl) :
    PE X (.Call (.Name x p) (e :: es) [] pos) (fun σ H Q => (∀ f, X.mg x' = some (.ref f) → σ[i]? = some (some (.ref f))) ∧ t σ H fun vs H1 => sp (vs ++ []) H1 Q E0) := by
  obtain ⟨f, fd, F, a, b, c⟩ := C
  exact ⟨fun pins s σ H Q I h => (pe_callL (i := i) F hr hN hv b c .nil pass0 ha hdb hcd he hpl).run pins s σ H Q I ⟨h.1 f a, h.2⟩⟩
open PySem.Spec PyProof.Rows in
theorem ix_kd {d : Addr} (D : ∃ es n, KDict X.K X.w d es n) : IxR X (fun x y H Q => ∃ (z : Str) (u0 : Value) (v0 : V), x = .ref d ∧ y = .str z ∧ PySem.W.nsIn X.K d z = some (some u0) ∧ RelV v0 u0 ∧ Q v0 H) := by
  obtain ⟨es, n, D⟩ := D
  intro value slice pins s σ H x y v u Q I rx ry h hs
  have ht : s.TypeIs v "dict" := by
    obtain ⟨z, u0, v0, rfl, _⟩ := h
    cases rx
    exact kd_type D I
  exact tail_any ht PySem.F.slot_dict_getitem.lookup (op_item_kd D pins s σ H x y v u Q I rx ry h) hs
theorem op_in_kd' {d : Addr} (D : ∃ es n, KDict X.K X.w d es n) : OpR X (compareOp .In) (fun x y H Q => ∃ (z : Str) (r : Option Value), x = .str z ∧ y = .ref d ∧ PySem.W.nsIn X.K d z = some r ∧ Q (.bl r.isSome) H) := by
  obtain ⟨es, n, D⟩ := D
  exact op_in_kd D
end
theorem tyT {K : PySem.W.Frag} {H : Hp} {a : Addr} {xs : List V} (h : SqT K H a xs) : TyX K H (.ref a) (.type "tuple") := by
  rcases h with (h | ⟨o, h⟩) | ⟨o, its, n, h, c, _⟩
  · exact .base (.tup h)
  · exact .fTuple h
  · exact .kTuple h c
theorem cutV1 (x : V) (xs : List V) : cutV (x :: xs) (some 1) none = xs := by
  unfold cutV
  rw [show HT.sIx (x :: xs).length 0 (some 1) = min 1 (x :: xs).length from HT.sIx_nat _ 0 1, HT.sIx_none]
  rw [show min 1 (x :: xs).length = 1 by rw [List.length_cons]; omega]
  show List.take ((x :: xs).length - 1) xs = xs
  rw [List.length_cons, Nat.add_sub_cancel, List.take_length]
theorem cutV2 (x y : V) (xs : List V) : cutV (x :: y :: xs) (some 2) none = xs := by
  unfold cutV
  rw [show HT.sIx (x :: y :: xs).length 0 (some 2) = min 2 (x :: y :: xs).length from HT.sIx_nat _ 0 2, HT.sIx_none]
  rw [show min 2 (x :: y :: xs).length = 2 by rw [List.length_cons, List.length_cons]; omega]
  show List.take ((x :: y :: xs).length - 2) xs = xs
  rw [List.length_cons, List.length_cons, show xs.length + 1 + 1 - 2 = xs.length by omega, List.take_length]
theorem not_whole {xs : List V} {k : Nat} (hk : 0 < k) (h : k ≤ xs.length) : ¬ (HT.sIx xs.length 0 (some (k : Int)) = 0 ∧ HT.sIx xs.length xs.length none = xs.length) := fun z => by
  have := z.1
  rw [HT.sIx_nat] at this
  omega
section
variable {P : Program} {w : World} {K : PySem.W.Frag} {mg : Str → Option Value} {base : Heap} {A : Ad}
/-- require lets by what holds -/
def sp_require : Sp := fun vs H Q _ => ∃ b y, vs = [.bl b, y] ∧ b = true ∧ Q .non H
theorem ok_require (D : DT K mg A) : COk P w K mg base CX0 1 "require" ["holds", "why"] sp_require := by
  refine COk.by D.require fun f fd F => ?_
  refine F.ok sc_require (fun vs H Q E h => ?_) (fun cdv Ar outer s H vs Q E hr h => ?_)
  · obtain ⟨b, y, rfl, _⟩ := h
    rfl
  · obtain ⟨b, y, rfl, rfl, k⟩ := h
    refine ⟨_, (pss_one (ps_if (pt_not (pt_val (pv 0)))
      (pss_one ps_never) pss_nil)), ?_⟩
    exact ⟨_, rfl, true, rfl, iteF k⟩
def sp_is_whole : Sp := fun vs H Q _ => ∃ i : Int, vs = [.int i] ∧ Q (.bl true) H
theorem ok_is_whole (T : CT K mg A) (D : DT K mg A) : COk P w K mg base CX0 1 "is_whole" ["number"] sp_is_whole := by
  refine COk.by D.is_whole fun f fd F => ?_
  refine F.ok sc_is_whole (fun vs H Q E h => ?_) (fun cdv Ar outer s H vs Q E hr h => ?_)
  · obtain ⟨i, rfl, _⟩ := h
    rfl
  · obtain ⟨i, rfl, k⟩ := h
    refine ⟨_, (pss_one (ps_ret (pe_and (pe_callB call_isi (by rfl) T.b_isinstance (by decide +kernel) (pa_cons (pv 0) (pa_cons (pe_bltn (v := .ty "int") (by rfl) T.b_int (by decide +kernel) rfl) pa_nil))) (pe_one (pe_not (pe_callB call_isi (by rfl) T.b_isinstance (by decide +kernel) (pa_cons (pv 0) (pa_cons (pe_bltn (v := .ty "bool") (by rfl) T.b_bool (by decide +kernel) rfl) pa_nil)))))))), ?_⟩
    refine ⟨_, rfl, _, _, _, _, true, rfl, .ty "int", .base (.int i), kit_ty (by decide +kernel), _, rfl, iteT ?_⟩
    exact ⟨_, rfl, _, _, _, _, false, rfl, .ty "bool", .base (.int i), kit_ty (by decide +kernel), _, rfl, k⟩
/-- a row of whole numbers, so many, none beyond 10 ** 12 -/
def sp_check_row (K : PySem.W.Frag) : Sp := fun vs H Q _ => ∃ (a : Addr) (ns : List Int) (lo hi : Int), vs = [.ref a, .int lo, .int hi] ∧ SqT K H a (ns.map V.int) ∧ lo ≤ ns.length ∧ (ns.length : Int) ≤ hi ∧ (∀ z ∈ ns, tame z) ∧ Q .non H
theorem ok_check_row (T : CT K mg A) (D : DT K mg A) : COk P w K mg base CX0 2 "check_row" ["row", "fewest", "most"] (sp_check_row K) := by
  have G_require : COk P w K mg base CX0 1 "require" ["holds", "why"] sp_require := ok_require D
  have G_is_whole : COk P w K mg base CX0 1 "is_whole" ["number"] sp_is_whole := ok_is_whole T D
  refine COk.by D.check_row fun f fd F => ?_
  refine F.ok sc_check_row (fun vs H Q E h => ?_) (fun cdv Ar outer s H vs Q E hr h => ?_)
  · obtain ⟨a, ns, lo, hi, rfl, _⟩ := h
    rfl
  · obtain ⟨a, ns, lo, hi, rfl, ha, h1, h2, ht, k⟩ := h
    obtain ⟨tN, gi_MOST_NUMBER⟩ := T.i_MOST_NUMBER
    refine ⟨_, (pss_cons (ps_expr (pe_c G_require (hr.mono (by first | decide | omega)) (pa_cons (pe_callB call_isi (by rfl) T.b_isinstance (by decide +kernel) (pa_cons (pv 0) (pa_cons (pe_bltn (v := .ty "tuple") (by rfl) T.b_tuple (by decide +kernel) rfl) pa_nil))) (pa_cons pe_str pa_nil))))
    (pss_cons (ps_expr (pe_c G_require (hr.mono (by first | decide | omega)) (pa_cons (pe_chain op_le op_le (pv 1) (pe_callB call_len_seq (by rfl) T.b_len (by decide +kernel) (pa_cons (pv 0) pa_nil)) (pv 2)) (pa_cons pe_str pa_nil))))
    (pss_one (ps_for PassesOwn.never rfl (pi_tup (pv 0)) (pg_name (i := 3) sc_check_row.nd rfl (Or.inl rfl))
      (pss_cons (ps_expr (pe_c G_require (hr.mono (by first | decide | omega)) (pa_cons (pe_c G_is_whole (hr.mono (by first | decide | omega)) (pa_cons (pv 3) pa_nil)) (pa_cons pe_str pa_nil))))
    (pss_one (ps_expr (pe_c G_require (hr.mono (by first | decide | omega)) (pa_cons (pe_chain op_le op_le (pe_un un_neg (pe_glob (v := .int 1000000000000) (by rfl) gi_MOST_NUMBER ⟨_, rfl⟩)) (pv 3) (pe_glob (v := .int 1000000000000) (by rfl) gi_MOST_NUMBER ⟨_, rfl⟩)) (pa_cons pe_str pa_nil)))))))))), ?_⟩
    have hl : (ns.map V.int).length = ns.length := List.length_map _
    refine ⟨_, rfl, _, _, _, _, true, rfl, .ty "tuple", tyT ha, kit_ty (by decide +kernel), _, _, rfl, rfl, ?_⟩
    refine ⟨_, rfl, _, rfl, a, _, rfl, .inr ha, _, _, rfl, rfl, _, rfl, ?_⟩
    rw [decide_eq_true (by rw [hl]; exact h1)]
    refine iteT ⟨_, rfl, _, _, rfl, rfl, _, _, rfl, decide_eq_true (by rw [hl]; exact h2), ?_⟩
    refine ⟨_, rfl, a, rfl, ⟨_, ha⟩, for_tup (K := K) (a := a) (xs := ns.map V.int) (fun i σ H2 => ∃ v : Option V, σ = [some (.ref a), some (.int lo), some (.int hi), v] ∧ H2 = H)
      ⟨none, rfl, rfl⟩ (fun i σ H2 _ ⟨_, _, e⟩ => by rw [e]; exact ha) ?_ ?_⟩
    · rintro i y σ H2 hi ⟨v, rfl, rfl⟩
      obtain ⟨z, hz, rfl⟩ : ∃ z, z ∈ ns ∧ y = V.int z := by
        rw [List.getElem?_map] at hi
        cases e : ns[i]? with
        | none => rw [e] at hi; cases hi
        | some z => rw [e] at hi; exact ⟨z, List.mem_of_getElem? e, (Option.some.inj hi).symm⟩
      obtain ⟨z1, z2⟩ := ht z hz
      refine ⟨_, rfl, z, rfl, _, _, rfl, rfl, ?_⟩
      refine ⟨_, rfl, _, rfl, _, _, rfl, rfl, _, rfl, ?_⟩
      rw [decide_eq_true (show (-1000000000000 : Int) ≤ z from z1)]
      exact iteT ⟨_, _, rfl, rfl, _, _, rfl, decide_eq_true (show z ≤ (1000000000000 : Int) from z2), ⟨_, rfl, rfl⟩⟩
    · rintro σ H2 ⟨v, rfl, rfl⟩
      exact k
/-! the leaves -/
def sp_check_fraction (K : PySem.W.Frag) : Sp := fun vs H Q _ => ∃ (a : Addr) (t b d : Int), vs = [.ref a, .int d] ∧ SqT K H a [.str "fraction", .int t, .int b] ∧ tame t ∧ tame b ∧ b ≠ 0 ∧ ∀ H', Same H H' → Q .non H'
theorem ok_check_fraction (T : CT K mg A) (D : DT K mg A) : COk P w K mg base CX0 3 "check_fraction" ["tree", "depth"] (sp_check_fraction K) := by
  have G_require : COk P w K mg base CX0 1 "require" ["holds", "why"] sp_require := ok_require D
  have G_check_row : COk P w K mg base CX0 2 "check_row" ["row", "fewest", "most"] (sp_check_row K) := ok_check_row T D
  refine COk.by D.check_fraction fun f fd F => ?_
  refine F.ok sc_check_fraction (fun vs H Q E h => ?_) (fun cdv Ar outer s H vs Q E hr h => ?_)
  · obtain ⟨a, t, b, d, rfl, _⟩ := h
    rfl
  · obtain ⟨a, t, b, d, rfl, ha, ht, hb, h0, k⟩ := h
    refine ⟨_, (pss_cons (ps_expr (pe_c G_check_row (hr.mono (by first | decide | omega)) (pa_cons (pe_slice sl_tup (pv 0) (po_some pe_int) po_none) (pa_cons pe_int (pa_cons pe_int pa_nil)))))
    (pss_one (ps_expr (pe_c G_require (hr.mono (by first | decide | omega)) (pa_cons (pe_cmpR op_ne (pe_ix ix_tup (pv 0) pe_int (fun _ _ => rfl)) pe_int (nomark _)) (pa_cons pe_str pa_nil)))))), ?_⟩
    refine ⟨_, rfl, 1, rfl, a, _, rfl, ha, not_whole (k := 1) (by decide) (by show 1 ≤ 3; decide), fun p np => ?_⟩
    rw [cutV1]
    have sm := same_upd (o := .tup [V.int t, .int b]) np
    refine ⟨p, [t, b], 2, 2, rfl, SqT.of upd_same, (by show (2 : Int) ≤ 2; decide), (by show (2 : Int) ≤ 2; decide), ?_, ?_⟩
    · intro z hz
      simp only [List.mem_cons, List.not_mem_nil, or_false] at hz
      rcases hz with rfl | rfl
      · exact ht
      · exact hb
    refine ⟨_, rfl, a, _, 2, _, rfl, rfl, sqT_same ha sm, atI_nat (j := 2) rfl, rfl, _, _, rfl, ?_, k _ sm⟩
    rw [decide_eq_false (fun z => h0 (V.int.inj z))]
    rfl
def sp_check_root (K : PySem.W.Frag) : Sp := fun vs H Q _ => ∃ (a : Addr) (t s b d : Int), vs = [.ref a, .int d] ∧ SqT K H a [.str "root", .int t, .int s, .int b] ∧ tame t ∧ tame s ∧ 0 ≤ s ∧ tame b ∧ b ≠ 0 ∧ ∀ H', Same H H' → Q .non H'
theorem ok_check_root (T : CT K mg A) (D : DT K mg A) : COk P w K mg base CX0 3 "check_root" ["tree", "depth"] (sp_check_root K) := by
  have G_require : COk P w K mg base CX0 1 "require" ["holds", "why"] sp_require := ok_require D
  have G_check_row : COk P w K mg base CX0 2 "check_row" ["row", "fewest", "most"] (sp_check_row K) := ok_check_row T D
  refine COk.by D.check_root fun f fd F => ?_
  refine F.ok sc_check_root (fun vs H Q E h => ?_) (fun cdv Ar outer s H vs Q E hr h => ?_)
  · obtain ⟨a, t, s, b, d, rfl, _⟩ := h
    rfl
  · obtain ⟨a, t, sq, b, d, rfl, ha, ht, hs, hs0, hb, h0, k⟩ := h
    refine ⟨_, (pss_cons (ps_expr (pe_c G_check_row (hr.mono (by first | decide | omega)) (pa_cons (pe_slice sl_tup (pv 0) (po_some pe_int) po_none) (pa_cons pe_int (pa_cons pe_int pa_nil)))))
    (pss_cons (ps_expr (pe_c G_require (hr.mono (by first | decide | omega)) (pa_cons (pe_cmpR op_ge (pe_ix ix_tup (pv 0) pe_int (fun _ _ => rfl)) pe_int (nomark _)) (pa_cons pe_str pa_nil))))
    (pss_one (ps_expr (pe_c G_require (hr.mono (by first | decide | omega)) (pa_cons (pe_cmpR op_ne (pe_ix ix_tup (pv 0) pe_int (fun _ _ => rfl)) pe_int (nomark _)) (pa_cons pe_str pa_nil))))))), ?_⟩
    refine ⟨_, rfl, 1, rfl, a, _, rfl, ha, not_whole (k := 1) (by decide) (by show 1 ≤ 4; decide), fun p np => ?_⟩
    rw [cutV1]
    have sm := same_upd (o := .tup [V.int t, .int sq, .int b]) np
    refine ⟨p, [t, sq, b], 3, 3, rfl, SqT.of upd_same, (by show (3 : Int) ≤ 3; decide), (by show (3 : Int) ≤ 3; decide), ?_, ?_⟩
    · intro z hz
      simp only [List.mem_cons, List.not_mem_nil, or_false] at hz
      rcases hz with rfl | rfl | rfl
      · exact ht
      · exact hs
      · exact hb
    refine ⟨_, rfl, a, _, 2, _, rfl, rfl, sqT_same ha sm, atI_nat (j := 2) rfl, _, _, rfl, rfl, _, _, rfl, decide_eq_true hs0, ?_⟩
    refine ⟨_, rfl, a, _, 3, _, rfl, rfl, sqT_same ha sm, atI_nat (j := 3) rfl, rfl, _, _, rfl, ?_, k _ sm⟩
    rw [decide_eq_false (fun z => h0 (V.int.inj z))]
    rfl
/-- the rules of a ruled chain -/
structure RuledGood (ps ring steps : List Int) : Prop extends RuledOk ps ring steps where
  one : ∀ z ∈ ps.tail ++ ring, 1 ≤ z
  nn : ∀ z ∈ steps, 0 ≤ z
  last : ring = [] → ps.length = 1 ∨ ∃ z, ps.getLast? = some z ∧ 2 ≤ z
def sp_check_ruled (K : PySem.W.Frag) : Sp := fun vs H Q _ => ∃ (a p q u : Addr) (ps ring steps : List Int) (d : Int), vs = [.ref a, .int d] ∧ SqT K H a [.str "ruled", .ref p, .ref q, .ref u] ∧ SqT K H p (ps.map V.int) ∧ SqT K H q (ring.map V.int) ∧ SqT K H u (steps.map V.int) ∧ RuledGood ps ring steps ∧ ∀ H', Same H H' → Q .non H'
theorem same_list {K : PySem.W.Frag} {H H' : Hp} {D a : Addr} {xs acc : List V} (k : ∀ b o, H b = some o → b ≠ D → H' b = some o) (hD : H D = some (.lst acc)) (h : SqT K H a xs) : SqT K H' a xs :=
  sqT_but (N := fun b => b = D) h k fun b o e z => by
    subst e
    rw [hD] at z
    cases z
    exact ⟨fun _ q => (by cases q), fun _ _ q => (by cases q)⟩
/-- t + u: some tuple of both -/
def rCatC (K : PySem.W.Frag) : R2 := fun x y H Q => ∃ a b xs ys, x = .ref a ∧ y = .ref b ∧ SqT K H a xs ∧ SqT K H b ys ∧ xs.length + ys.length ≤ sizeLine ∧ ∀ c H', Same H H' → SqT K H' c (xs ++ ys) → Q (.ref c) H'
theorem op_catC {X : Cx} : OpR X (binaryOp .Add) (rCatC X.K) := by
  intro pins s σ H x y v u Q I rx ry h
  obtain ⟨a, b, xs, ys, ex, ey, ha, hb, hz, q⟩ := h
  refine op_catA pins s σ H x y v u Q I rx ry ⟨a, b, xs, ys, ex, ey, ha, hb, hz, fun z => ?_, fun _ z => ?_, fun _ _ p hp => ?_⟩
  · subst z
    exact q b H (.refl H) hb
  · subst z
    exact q a H (.refl H) (by rw [List.append_nil]; exact ha)
  · exact q p _ (same_upd hp) (SqT.of upd_same)
theorem at_last {ns : List Int} {z : Int} (h : ns.getLast? = some z) : atI (ns.map V.int) (-1) = some (.int z) := by
  obtain ⟨i, rfl⟩ := List.getLast?_eq_some_iff.mp h
  rw [List.map_append]
  exact atI_last _ _
theorem all_true (n : Nat) : (List.replicate n true).all id = true := by
  induction n with
  | zero => rfl
  | succ n ih => rw [List.replicate_succ, List.all_cons, ih]; rfl
theorem rep_succ (i : Nat) : (List.replicate i true).map V.bl ++ [V.bl true] = (List.replicate (i + 1) true).map V.bl := by
  rw [List.replicate_succ', List.map_append]
  rfl
theorem ok_check_ruled (T : CT K mg A) (D : DT K mg A) : COk P w K mg base CX0 3 "check_ruled" ["tree", "depth"] (sp_check_ruled K) := by
  have G_require : COk P w K mg base CX0 1 "require" ["holds", "why"] sp_require := ok_require D
  have G_check_row : COk P w K mg base CX0 2 "check_row" ["row", "fewest", "most"] (sp_check_row K) := ok_check_row T D
  obtain ⟨tP, gi_MOST_PARTS⟩ := T.i_MOST_PARTS
  refine COk.by D.check_ruled fun f fd F => ?_
  refine F.ok sc_check_ruled (fun vs H Q E h => ?_) (fun cdv Ar outer s H vs Q E hr h => ?_)
  · obtain ⟨a, p, q, u, ps, ring, steps, d, rfl, _⟩ := h
    rfl
  · obtain ⟨a, p, q, u, ps, ring, steps, d, rfl, ha, hp, hq, hu, G, k⟩ := h
    obtain ⟨⟨p1, p12, r12, sl, tp, tr, ts⟩, one, nn, last⟩ := G
    refine ⟨_, (pss_cons (ps_asg (pe_slice sl_tup (pv 0) (po_some pe_int) po_none) (pg_tup rfl (pgs_cons (pg_name (i := 2) sc_check_ruled.nd rfl (Or.inl rfl)) (pgs_cons (pg_name (i := 3) sc_check_ruled.nd rfl (Or.inl rfl)) (pgs_cons (pg_name (i := 4) sc_check_ruled.nd rfl (Or.inl rfl)) pgs_nil)))))
    (pss_cons (ps_expr (pe_c G_check_row (hr.mono (by first | decide | omega)) (pa_cons (pv 2) (pa_cons pe_int (pa_cons (pe_glob (v := .int 12) (by rfl) gi_MOST_PARTS ⟨_, rfl⟩) pa_nil)))))
    (pss_cons (ps_expr (pe_c G_check_row (hr.mono (by first | decide | omega)) (pa_cons (pv 3) (pa_cons pe_int (pa_cons (pe_glob (v := .int 12) (by rfl) gi_MOST_PARTS ⟨_, rfl⟩) pa_nil)))))
    (pss_cons (ps_expr (pe_c G_check_row (hr.mono (by first | decide | omega)) (pa_cons (pv 4) (pa_cons (pe_callB call_len_seq (by rfl) T.b_len (by decide +kernel) (pa_cons (pv 3) pa_nil)) (pa_cons (pe_callB call_len_seq (by rfl) T.b_len (by decide +kernel) (pa_cons (pv 3) pa_nil)) pa_nil)))))
    (pss_cons (ps_expr (pe_c G_require (hr.mono (by first | decide | omega)) (pa_cons (pe_callB (cr_all rfl) (by rfl) T.b_all (by decide +kernel) (pa_cons (pe_lc (own := [("part", 5)]) (g := gName 5) (tt := tYes) rfl sc_check_ruled.nd (pi_tup (pe_op op_catC (pe_slice sl_tup (pv 2) (po_some pe_int) po_none) (pv 3))) (blkOk_by (own := [("part", 5)]) (N := ["tree", "depth", "parts", "ring", "steps", "part", "step", "ends"]) (sc := defScope s_check_ruled) (by decide +kernel)) (fun _ _ _ _ _ => (pg_name (i := 5) sc_check_ruled.nd rfl (Or.inl rfl))) (fun _ _ _ _ _ => pts_nil) (fun _ _ _ _ _ => (pe_cmpR op_ge (pv 5) pe_int (nomark _)))) pa_nil)) (pa_cons pe_str pa_nil))))
    (pss_cons (ps_expr (pe_c G_require (hr.mono (by first | decide | omega)) (pa_cons (pe_callB (cr_all rfl) (by rfl) T.b_all (by decide +kernel) (pa_cons (pe_lc (own := [("step", 6)]) (g := gName 6) (tt := tYes) rfl sc_check_ruled.nd (pi_tup (pv 4)) (blkOk_by (own := [("step", 6)]) (N := ["tree", "depth", "parts", "ring", "steps", "part", "step", "ends"]) (sc := defScope s_check_ruled) (by decide +kernel)) (fun _ _ _ _ _ => (pg_name (i := 6) sc_check_ruled.nd rfl (Or.inl rfl))) (fun _ _ _ _ _ => pts_nil) (fun _ _ _ _ _ => (pe_cmpR op_ge (pv 6) pe_int (nomark _)))) pa_nil)) (pa_cons pe_str pa_nil))))
    (pss_cons (ps_set (i := 7) sc_check_ruled.nd rfl (Or.inl rfl) (pe_cmpR op_eq (pe_callB call_len_seq (by rfl) T.b_len (by decide +kernel) (pa_cons (pv 3) pa_nil)) pe_int (nomark _)))
    (pss_one (ps_expr (pe_c G_require (hr.mono (by first | decide | omega)) (pa_cons (pe_or (pe_not (pv 7)) (pe_or (pe_cmpR op_eq (pe_callB call_len_seq (by rfl) T.b_len (by decide +kernel) (pa_cons (pv 2) pa_nil)) pe_int (nomark _)) (pe_one (pe_cmpR op_ge (pe_ix ix_tup (pv 2) (pe_un un_neg pe_int) (fun _ _ => rfl)) pe_int (nomark _))))) (pa_cons pe_str pa_nil)))))))))))), ?_⟩
    refine ⟨_, rfl, 1, rfl, a, _, rfl, ha, not_whole (k := 1) (by decide) (by show 1 ≤ 4; decide), fun z nz => ?_⟩
    rw [cutV1]
    have sm := same_upd (o := .tup [V.ref p, .ref q, .ref u]) nz
    refine ⟨z, _, rfl, SqT.of upd_same, rfl, _, _, rfl, _, _, rfl, _, _, rfl, rfl, ?_⟩
    have hp1 := sqT_same hp sm
    have hq1 := sqT_same hq sm
    have hu1 := sqT_same hu sm
    generalize upd H z (.tup [V.ref p, .ref q, .ref u]) = H1 at *
    have lr : (ring.map V.int).length = ring.length := List.length_map _
    have lp : (ps.map V.int).length = ps.length := List.length_map _
    have lp0 : 0 < ps.length := List.length_pos_iff.mpr p1
    refine ⟨_, rfl, p, ps, _, _, rfl, hp1, (by show (1 : Int) ≤ ps.length; omega), (by show (ps.length : Int) ≤ 12; omega), tp, ?_⟩
    refine ⟨_, rfl, q, ring, _, _, rfl, hq1, (by show (0 : Int) ≤ ring.length; omega), (by show (ring.length : Int) ≤ 12; omega), tr, ?_⟩
    refine ⟨_, rfl, _, rfl, q, _, rfl, .inr hq1, _, rfl, q, _, rfl, .inr hq1, u, steps, _, _, rfl, hu1, (by rw [lr]; omega), (by rw [lr]; omega), ts, ?_⟩
    -- all parts but the first, and the ring's, are 1 or more
    obtain ⟨p0, pt, rfl⟩ : ∃ p0 pt, ps = p0 :: pt := by
      cases ps with
      | nil => exact absurd rfl p1
      | cons x y => exact ⟨x, y, rfl⟩
    refine ⟨_, rfl, 1, rfl, p, _, rfl, hp1, not_whole (k := 1) (by decide) (by rw [lp]; exact lp0), fun y ny => ?_⟩
    have ec : cutV ((p0 :: pt).map V.int) (some 1) none = pt.map V.int := cutV1 _ _
    rw [ec]
    have sy := same_upd (o := .tup (pt.map V.int)) ny
    have hpt : SqT K (upd H1 y (.tup (pt.map V.int))) y (pt.map V.int) := SqT.of upd_same
    have hq2 := sqT_same hq1 sy
    refine ⟨_, rfl, y, q, _, _, rfl, rfl, hpt, hq2, ?_, fun c H2 s2 hc => ?_⟩
    · rw [List.length_map, lr]
      rw [List.length_cons] at p12
      exact Nat.le_trans (show pt.length + ring.length ≤ 24 by omega) (by decide)
    rw [← List.map_append] at hc
    have hall : ∀ x ∈ pt ++ ring, 1 ≤ x := one
    have hln : (pt ++ ring).length ≤ 30 := by
      rw [List.length_append]
      rw [List.length_cons] at p12
      omega
    generalize pt ++ ring = row at hc hall hln
    have lrow : (row.map V.int).length = row.length := List.length_map _
    refine ⟨c, rfl, ⟨_, hc⟩, fun D0 nD => lc_tup (K := K) (a := c) (xs := row.map V.int) (fun i H' => i ≤ row.length ∧ H' D0 = some (.lst ((List.replicate i true).map V.bl)) ∧ Same H2 H') ⟨Nat.zero_le _, upd_same, same_upd nD⟩ (fun i H' _ z => sqT_same hc z.2.2) ?_ ?_⟩
    · rintro i y H' hi ⟨hle, hD, sH⟩
      obtain ⟨x, hx, rfl⟩ : ∃ x, x ∈ row ∧ y = V.int x := by
        rw [List.getElem?_map] at hi
        cases e : row[i]? with
        | none => rw [e] at hi; cases hi
        | some z => rw [e] at hi; exact ⟨z, List.mem_of_getElem? e, (Option.some.inj hi).symm⟩
      have hil : i < row.length := by
        have := (List.getElem?_eq_some_iff.mp hi).1
        rw [lrow] at this
        exact this
      refine ⟨rfl, _, rfl, _, _, rfl, rfl, _, hD, ?_, hil, ?_, fun b o e => ?_⟩
      · rw [List.length_map, List.length_replicate]
        exact Nat.lt_of_lt_of_le (show i < 31 by omega) (by decide)
      · rw [upd_same, ← rep_succ]
        show some (HO.lst ((List.replicate i true).map V.bl ++ [V.bl (decide (1 ≤ x))])) = _
        rw [decide_eq_true (hall x hx)]
      · rw [upd_ne (ne_of_none e nD)]
        exact sH b o e
    · rintro H3 ⟨_, hD, s3⟩
      rw [lrow] at hD
      refine ⟨D0, _, rfl, SqL.of hD, _, _, rfl, all_true _, ?_⟩
      -- steps are 0 or more
      have hu3 := sqT_same (sqT_same (sqT_same hu1 sy) s2) s3
      have lst : (steps.map V.int).length = steps.length := List.length_map _
      refine ⟨_, rfl, u, rfl, ⟨_, hu3⟩, fun D1 nD1 => lc_tup (K := K) (a := u) (xs := steps.map V.int) (fun i H' => i ≤ steps.length ∧ H' D1 = some (.lst ((List.replicate i true).map V.bl)) ∧ Same H3 H') ⟨Nat.zero_le _, upd_same, same_upd nD1⟩ (fun i H' _ z => sqT_same hu3 z.2.2) ?_ ?_⟩
      · rintro i y H' hi ⟨hle, hD, sH⟩
        obtain ⟨x, hx, rfl⟩ : ∃ x, x ∈ steps ∧ y = V.int x := by
          rw [List.getElem?_map] at hi
          cases e : steps[i]? with
          | none => rw [e] at hi; cases hi
          | some z => rw [e] at hi; exact ⟨z, List.mem_of_getElem? e, (Option.some.inj hi).symm⟩
        have hil : i < steps.length := by
          have := (List.getElem?_eq_some_iff.mp hi).1
          rw [lst] at this
          exact this
        refine ⟨rfl, _, rfl, _, _, rfl, rfl, _, hD, ?_, hil, ?_, fun b o e => ?_⟩
        · rw [List.length_map, List.length_replicate]
          exact Nat.lt_of_lt_of_le (show i < 31 by omega) (by decide)
        · rw [upd_same, ← rep_succ]
          show some (HO.lst ((List.replicate i true).map V.bl ++ [V.bl (decide (0 ≤ x))])) = _
          rw [decide_eq_true (nn x hx)]
        · rw [upd_ne (ne_of_none e nD1)]
          exact sH b o e
      · rintro H4 ⟨_, hD1, s4⟩
        rw [lst] at hD1
        refine ⟨D1, _, rfl, SqL.of hD1, _, _, rfl, all_true _, ?_⟩
        have s14 : Same H1 H4 := ((sy.trans s2).trans s3).trans s4
        have hq4 := sqT_same hq1 s14
        have hp4 := sqT_same hp1 s14
        -- the last part of a chain that ends
        refine ⟨_, rfl, q, _, rfl, .inr hq4, rfl, ?_⟩
        refine ⟨_, rfl, _, rfl, _, rfl, ?_⟩
        by_cases cr : ring = []
        · have e1 : decide (V.int (((ring.map V.int).length : Nat) : Int) = V.int 0) = true := by rw [cr]; rfl
          rw [e1]
          refine iteF ⟨_, rfl, p, _, rfl, .inr hp4, rfl, _, rfl, ?_⟩
          rcases last cr with h1 | ⟨z, hz, z2⟩
          · have e2 : decide (V.int ((((p0 :: pt).map V.int).length : Nat) : Int) = V.int 1) = true := decide_eq_true (by rw [lp, h1]; rfl)
            rw [e2]
            exact iteT ⟨_, _, rfl, rfl, k _ (sm.trans s14)⟩
          · by_cases c2 : decide (V.int ((((p0 :: pt).map V.int).length : Nat) : Int) = V.int 1) = true
            · rw [c2]
              exact iteT ⟨_, _, rfl, rfl, k _ (sm.trans s14)⟩
            · rw [Bool.not_eq_true] at c2
              rw [c2]
              refine iteF ⟨_, rfl, 1, rfl, p, _, _, _, rfl, rfl, hp4, at_last hz, _, _, rfl, rfl, _, _, rfl, decide_eq_true z2, k _ (sm.trans s14)⟩
        · have e1 : decide (V.int (((ring.map V.int).length : Nat) : Int) = V.int 0) = false := by rw [len_eq_nil]; exact decide_eq_false cr
          rw [e1]
          exact iteT ⟨_, _, rfl, rfl, k _ (sm.trans s14)⟩
end
/-! ### check_at_depth: by the word's own check -/
def sp_check_at (K : PySem.W.Frag) (sF sR sU sO sE sP : Sp) : Sp := fun vs H Q _ => ∃ (a : Addr) (word : Str) (rest : List V) (d : Int), vs = [.ref a, .int d] ∧ d ≤ 5 ∧ SqT K H a (.str word :: rest) ∧
  ((word = "fraction" ∧ rest.length = 2 ∧ sF [.ref a, .int d] H (fun _ => Q .non) E0) ∨ (word = "root" ∧ rest.length = 3 ∧ sR [.ref a, .int d] H (fun _ => Q .non) E0) ∨ (word = "ruled" ∧ rest.length = 3 ∧ sU [.ref a, .int d] H (fun _ => Q .non) E0) ∨
   (word = "four" ∧ rest.length = 2 ∧ sO [.ref a, .int d] H (fun _ => Q .non) E0) ∨ (word = "eight" ∧ rest.length = 3 ∧ sE [.ref a, .int d] H (fun _ => Q .non) E0) ∨ (word = "power" ∧ rest.length = 2 ∧ sP [.ref a, .int d] H (fun _ => Q .non) E0))
section
variable {P : Program} {w : World} {K : PySem.W.Frag} {mg : Str → Option Value} {base : Heap} {A : Ad}
theorem ok_check_at_depth {k : Nat} {sF sR sU sO sE sP : Sp} (T : CT K mg A) (TT : TB K w mg A) (D : DT K mg A) (hk : 1 ≤ k)
    (G_check_fraction : COk P w K mg base CX0 k "check_fraction" ["tree", "depth"] sF) (G_check_root : COk P w K mg base CX0 k "check_root" ["tree", "depth"] sR) (G_check_ruled : COk P w K mg base CX0 k "check_ruled" ["tree", "depth"] sU)
    (G_check_four : COk P w K mg base CX0 k "check_four" ["tree", "depth"] sO) (G_check_eight : COk P w K mg base CX0 k "check_eight" ["tree", "depth"] sE) (G_check_power : COk P w K mg base CX0 k "check_power" ["tree", "depth"] sP) :
    COk P w K mg base CX0 (k + 1) "check_at_depth" ["tree", "depth"] (sp_check_at K sF sR sU sO sE sP) := by
  have G_require : COk P w K mg base CX0 k "require" ["holds", "why"] sp_require := (ok_require D).mono hk
  obtain ⟨tD, gi_MOST_DEPTH⟩ := T.i_MOST_DEPTH
  refine COk.by D.check_at_depth fun f fd F => ?_
  refine F.ok sc_check_at_depth (fun vs H Q E h => ?_) (fun cdv Ar outer s H vs Q E hr h => ?_)
  · obtain ⟨a, word, rest, d, rfl, _⟩ := h
    rfl
  · obtain ⟨a, word, rest, d, rfl, hd, ha, hw⟩ := h
    refine ⟨_, (pss_cons (ps_expr (pe_c G_require (hr.mono (by first | decide | omega)) (pa_cons (pe_cmpR op_le (pv 1) (pe_glob (v := .int 5) (by rfl) gi_MOST_DEPTH ⟨_, rfl⟩) (nomark _)) (pa_cons pe_str pa_nil))))
    (pss_cons (ps_expr (pe_c G_require (hr.mono (by first | decide | omega)) (pa_cons (pe_and (pe_callB call_isi (by rfl) T.b_isinstance (by decide +kernel) (pa_cons (pv 0) (pa_cons (pe_bltn (v := .ty "tuple") (by rfl) T.b_tuple (by decide +kernel) rfl) pa_nil))) (pe_one (pe_cmpR op_gt (pe_callB call_len_seq (by rfl) T.b_len (by decide +kernel) (pa_cons (pv 0) pa_nil)) pe_int (nomark _)))) (pa_cons pe_str pa_nil))))
    (pss_cons (ps_set (i := 2) sc_check_at_depth.nd rfl (Or.inl rfl) (pe_ix ix_tup (pv 0) pe_int (fun _ _ => rfl)))
    (pss_cons (ps_expr (pe_c G_require (hr.mono (by first | decide | omega)) (pa_cons (pe_and (pe_callB call_isi (by rfl) T.b_isinstance (by decide +kernel) (pa_cons (pv 2) (pa_cons (pe_bltn (v := .ty "str") (by rfl) T.b_str (by decide +kernel) rfl) pa_nil))) (pe_one (pe_cmpR (op_in_kd' TT.dL) (pv 2) (pe_glob (v := .ref A.k_LENGTHS) (by rfl) T.g_LENGTHS rfl) rfl))) (pa_cons pe_str pa_nil))))
    (pss_cons (ps_expr (pe_c G_require (hr.mono (by first | decide | omega)) (pa_cons (pe_cmpR op_eq (pe_callB call_len_seq (by rfl) T.b_len (by decide +kernel) (pa_cons (pv 0) pa_nil)) (pe_ix (ix_kd TT.dL) (pe_glob (v := .ref A.k_LENGTHS) (by rfl) T.g_LENGTHS rfl) (pv 2) (fun _ _ => rfl)) (nomark _)) (pa_cons pe_str pa_nil))))
    (pss_cons (ps_set (i := 3) sc_check_at_depth.nd rfl (Or.inl rfl) (pe_ix (ix_kd TT.dC) (pe_glob (v := .ref A.k_CHECKS) (by rfl) T.g_CHECKS rfl) (pv 2) (fun _ _ => rfl)))
    (pss_one (ps_expr ((pe_alt (pe_cL G_check_fraction hr (i := 3) rfl (Or.inl rfl) (pa_cons (pv 0) (pa_cons (pv 1) pa_nil))) (pe_alt (pe_cL G_check_root hr (i := 3) rfl (Or.inl rfl) (pa_cons (pv 0) (pa_cons (pv 1) pa_nil))) (pe_alt (pe_cL G_check_ruled hr (i := 3) rfl (Or.inl rfl) (pa_cons (pv 0) (pa_cons (pv 1) pa_nil))) (pe_alt (pe_cL G_check_four hr (i := 3) rfl (Or.inl rfl) (pa_cons (pv 0) (pa_cons (pv 1) pa_nil))) (pe_alt (pe_cL G_check_eight hr (i := 3) rfl (Or.inl rfl) (pa_cons (pv 0) (pa_cons (pv 1) pa_nil))) (pe_cL G_check_power hr (i := 3) rfl (Or.inl rfl) (pa_cons (pv 0) (pa_cons (pv 1) pa_nil))))))))))))))))), ?_⟩
    -- depth
    refine ⟨_, rfl, _, _, rfl, rfl, _, _, rfl, decide_eq_true hd, ?_⟩
    -- a tuple of something
    refine ⟨_, rfl, _, _, _, _, true, rfl, .ty "tuple", tyT ha, kit_ty (by decide +kernel), _, rfl, iteT ⟨_, rfl, a, _, rfl, .inr ha, _, _, rfl, rfl, _, _, rfl, decide_eq_true (by rw [List.length_cons]; omega), ?_⟩⟩
    refine ⟨_, rfl, a, _, 0, .str word, rfl, rfl, ha, atI_nat (j := 0) rfl, ?_⟩
    have key : ∀ {n : Int}, (word, n) ∈ ([("fraction", 3), ("root", 4), ("ruled", 4), ("four", 3), ("eight", 4), ("power", 3)] : List (Str × Int)) → n = (rest.length : Int) + 1 → ∃ t, PySem.W.nsIn K A.k_LENGTHS word = some (some (.int ((rest.length : Int) + 1) t)) := fun {n} hm e => by
      rw [← e]
      exact TT.lens word n hm
    have hlen : ∃ t, PySem.W.nsIn K A.k_LENGTHS word = some (some (.int ((rest.length : Int) + 1) t)) := by
      rcases hw with ⟨rfl, e, _⟩ | ⟨rfl, e, _⟩ | ⟨rfl, e, _⟩ | ⟨rfl, e, _⟩ | ⟨rfl, e, _⟩ | ⟨rfl, e, _⟩
      · exact key (n := 3) (by simp) (by omega)
      · exact key (n := 4) (by simp) (by omega)
      · exact key (n := 4) (by simp) (by omega)
      · exact key (n := 3) (by simp) (by omega)
      · exact key (n := 4) (by simp) (by omega)
      · exact key (n := 3) (by simp) (by omega)
    obtain ⟨tl, hl⟩ := hlen
    refine ⟨_, rfl, _, _, _, _, true, rfl, .ty "str", .base (.str word), kit_ty (by decide +kernel), _, rfl, iteT ⟨_, rfl, word, _, rfl, rfl, hl, _, _, rfl, rfl, ?_⟩⟩
    refine ⟨_, rfl, a, _, rfl, .inr ha, _, rfl, word, _, .int ((rest.length : Int) + 1), rfl, rfl, hl, ⟨_, rfl⟩, rfl, _, _, rfl, decide_eq_true (by rw [List.length_cons]; rfl), ?_⟩
    have chk : ∀ {y : Str} {sp : Sp}, (word, y) ∈ ([("fraction", "check_fraction"), ("root", "check_root"), ("ruled", "check_ruled"), ("four", "check_four"), ("eight", "check_eight"), ("power", "check_power")] : List (Str × Str)) → COk P w K mg base CX0 k y ["tree", "depth"] sp → ∃ f, mg y = some (.ref f) ∧ PySem.W.nsIn K A.k_CHECKS word = some (some (.ref f)) := fun {y sp} hm C => by
      obtain ⟨f, fd, _, e, _⟩ := C
      exact ⟨f, e, TT.chks word y f hm e⟩
    rcases hw with ⟨rfl, e, q⟩ | ⟨rfl, e, q⟩ | ⟨rfl, e, q⟩ | ⟨rfl, e, q⟩ | ⟨rfl, e, q⟩ | ⟨rfl, e, q⟩
    · obtain ⟨f1, e1, e2⟩ := chk (y := "check_fraction") (by simp) G_check_fraction
      exact ⟨_, rfl, _, _, .ref f1, rfl, rfl, e2, rfl, .inl ⟨fun g eg => by cases e1.symm.trans eg; rfl, _, rfl, _, rfl, q⟩⟩
    · obtain ⟨f1, e1, e2⟩ := chk (y := "check_root") (by simp) G_check_root
      exact ⟨_, rfl, _, _, .ref f1, rfl, rfl, e2, rfl, .inr (.inl ⟨fun g eg => by cases e1.symm.trans eg; rfl, _, rfl, _, rfl, q⟩)⟩
    · obtain ⟨f1, e1, e2⟩ := chk (y := "check_ruled") (by simp) G_check_ruled
      exact ⟨_, rfl, _, _, .ref f1, rfl, rfl, e2, rfl, .inr (.inr (.inl ⟨fun g eg => by cases e1.symm.trans eg; rfl, _, rfl, _, rfl, q⟩))⟩
    · obtain ⟨f1, e1, e2⟩ := chk (y := "check_four") (by simp) G_check_four
      exact ⟨_, rfl, _, _, .ref f1, rfl, rfl, e2, rfl, .inr (.inr (.inr (.inl ⟨fun g eg => by cases e1.symm.trans eg; rfl, _, rfl, _, rfl, q⟩)))⟩
    · obtain ⟨f1, e1, e2⟩ := chk (y := "check_eight") (by simp) G_check_eight
      exact ⟨_, rfl, _, _, .ref f1, rfl, rfl, e2, rfl, .inr (.inr (.inr (.inr (.inl ⟨fun g eg => by cases e1.symm.trans eg; rfl, _, rfl, _, rfl, q⟩))))⟩
    · obtain ⟨f1, e1, e2⟩ := chk (y := "check_power") (by simp) G_check_power
      exact ⟨_, rfl, _, _, .ref f1, rfl, rfl, e2, rfl, .inr (.inr (.inr (.inr (.inr ⟨fun g eg => by cases e1.symm.trans eg; rfl, _, rfl, _, rfl, q⟩))))⟩
/-- a promise that is never asked for -/
abbrev spNo : Sp := fun _ _ _ _ => False
theorem ok_no {k : Nat} {x : Str} {st : Stmt} {ps : List Str} (D : ∃ f fd, DefAt K mg x st ps f fd) : COk P w K mg base CX0 k x ps spNo := by
  obtain ⟨f, fd, F⟩ := D
  exact .of F ⟨(fun _ _ _ _ h => h.elim), (fun _ _ _ _ _ _ _ _ _ _ _ _ _ h => h.elim)⟩
/-- check_tree at level k + 1, over check_at_depth at level k -/
theorem ok_check_tree {k : Nat} {sp : Sp} (D : DT K mg A) (G_check_at_depth : COk P w K mg base CX0 k "check_at_depth" ["tree", "depth"] sp) :
    COk P w K mg base CX0 (k + 1) "check_tree" ["tree"] (fun vs H Q _ => ∃ v, vs = [v] ∧ sp [v, .int 1] H (fun _ => Q .non) E0) := by
  refine COk.by D.check_tree fun f fd F => ?_
  refine F.ok sc_check_tree (fun vs H Q E h => ?_) (fun cdv Ar outer s H vs Q E hr h => ?_)
  · obtain ⟨v, rfl, _⟩ := h
    rfl
  · obtain ⟨v, rfl, q⟩ := h
    refine ⟨_, (pss_one (ps_expr (pe_c G_check_at_depth (hr.mono (by first | decide | omega)) (pa_cons (pv 0) (pa_cons pe_int pa_nil))))), ?_⟩
    exact ⟨_, rfl, q⟩
end
/-! ### the meter, a leaf's asking, a reading of a leaf -/
section
variable {P : Program} {w : World} {K : PySem.W.Frag} {mg : Str → Option Value} {base : Heap} {A : Ad}
theorem root_there : ∀ s : Int, 0 ≤ s → ∃ r, IsRoot s r := by
  have key : ∀ n : Nat, ∃ r, IsRoot (n : Int) r := fun n => by
    induction n with
    | zero => exact ⟨0, by decide, by decide, by decide⟩
    | succ n ih =>
      obtain ⟨r, h0, h1, h2⟩ := ih
      have e1 : (r + 1 + 1) * (r + 1 + 1) = (r + 1) * (r + 1) + 2 * (r + 1) + 1 := by grind
      by_cases c : ((n + 1 : Nat) : Int) < (r + 1) * (r + 1)
      · exact ⟨r, h0, by omega, c⟩
      · exact ⟨r + 1, by omega, by omega, by omega⟩
  intro s hs
  obtain ⟨n, rfl⟩ := Int.eq_ofNat_of_zero_le hs
  exact key n
theorem ok_Meter_init (T : CT K mg A) (D : DT K mg A) : IOk P w K mg base 1 "Meter" A.c_Meter ["self"] (sp_ini A.c_Meter 0 fun _ => meF 0 0) := by
  refine IOk.of T.g_Meter D.Meter_init fun f fd F => ?_
  refine F.ok sc_Meter_init (fun vs H Q E h => ?_) (fun cdv Ar outer s H vs Q E hr h => ?_)
  · obtain ⟨p, dx, us, rfl, hl, _⟩ := h
    show us.length + 1 = 1
    omega
  · obtain ⟨p, dx, us, rfl, hl, hp, k⟩ := h
    match us, hl with
    | [], _ =>
      refine ⟨_, (pss_cons (ps_fld (pv 0) pe_int rfl)
    (pss_one (ps_fld (pv 0) pe_int rfl))), ?_⟩
      refine ⟨_, rfl, p, _, dx, [], rfl, hp, T.cl_Meter, T.n_Meter_left, (by show 0 < 1000; decide), ?_⟩
      refine ⟨_, rfl, p, _, dx, _, rfl, upd_same, T.cl_Meter, T.n_Meter_spent, (by show 1 < 1000; decide), ?_⟩
      refine cast (congrArg (Q V.non) ?_) k
      rw [upd_upd]
      rfl
theorem ok_Meter_allow (T : CT K mg A) (D : DT K mg A) : MOk P w K mg base CX0 1 A.c_Meter "allow" ["self", "most"] (fun vs H Q _ => ∃ m dx l s n, vs = [.ref m, .int n] ∧ H m = some (.ins A.c_Meter dx (meF l s)) ∧ Q .non (upd H m (.ins A.c_Meter dx (meF n s)))) := by
  refine MOk.of T.cl_Meter D.Meter_allow fun f fd F => ?_
  refine F.ok sc_Meter_allow (fun vs H Q E h => ?_) (fun cdv Ar outer s H vs Q E hr h => ?_)
  · obtain ⟨m, dx, l, sp, n, rfl, _⟩ := h
    rfl
  · obtain ⟨m, dx, l, sp, n, rfl, hm, k⟩ := h
    refine ⟨_, (pss_one (ps_fld (pv 0) (pv 1) rfl)), ?_⟩
    exact ⟨_, rfl, _, rfl, m, _, dx, _, rfl, hm, T.cl_Meter, T.n_Meter_left, (by show 2 < 1000; decide), k⟩
theorem ok_Meter_pay (T : CT K mg A) (D : DT K mg A) : MOk P w K mg base CX0 1 A.c_Meter "pay" ["self"] (fun vs H Q _ => ∃ m dx l s, vs = [.ref m] ∧ H m = some (.ins A.c_Meter dx (meF l s)) ∧ Q .non (upd H m (.ins A.c_Meter dx (meF (l - 1) (s + 1))))) := by
  refine MOk.of T.cl_Meter D.Meter_pay fun f fd F => ?_
  refine F.ok sc_Meter_pay (fun vs H Q E h => ?_) (fun cdv Ar outer s H vs Q E hr h => ?_)
  · obtain ⟨m, dx, l, sp, rfl, _⟩ := h
    rfl
  · obtain ⟨m, dx, l, sp, rfl, hm, k⟩ := h
    refine ⟨_, (pss_cons (ps_fldaug (pv 0) pe_int in_sub)
    (pss_one (ps_fldaug (pv 0) pe_int in_add))), ?_⟩
    refine ⟨_, rfl, m, _, dx, _, _, rfl, hm, T.cl_Meter, T.n_Meter_left, rfl, _, _, rfl, rfl, dx, _, hm, (by show 2 < 1000; decide), ?_⟩
    refine ⟨_, rfl, m, _, dx, _, _, rfl, upd_same, T.cl_Meter, T.n_Meter_spent, rfl, _, _, rfl, rfl, dx, _, upd_same, (by show 2 < 1000; decide), ?_⟩
    refine cast (congrArg (Q V.non) ?_) k
    rw [upd_upd]
    rfl
/-! what is told -/
inductive Ans where
  | part (n : Int) | fin | waits
def Ans.At (A : Ad) (H : Hp) (v : V) : Ans → Prop
  | .part n => ∃ p, v = .ref p ∧ H p = some (.tup [.str "part", .int n])
  | .fin => v = .ref A.k_END
  | .waits => v = .ref A.k_WAITS
/-- a leaf, asked with l parts to be taken -/
def Chain.ans (c : Chain) (l : Int) : Ans := if c.ended = true then .fin else if l < 1 then .waits else .part c.part
def Chain.then_ (c : Chain) (l : Int) : Chain := if c.ended = true then c else if l < 1 then c else c.next
def Chain.took (c : Chain) (l : Int) : Int := if c.ended = true then 0 else if l < 1 then 0 else 1
/-- a leaf at a, its chain at c -/
def LeafAt (A : Ad) (K : PySem.W.Frag) (H : Hp) (a c : Addr) (ch : Chain) : Prop := (∃ dx, H a = some (.ins A.c_Leaf dx (leF c))) ∧ Chain.At A K H c ch
/-- what holds of a chain, where the rest is kept -/
theorem Chain.At.kept {H H' : Hp} {a : Addr} {ch : Chain} {N : Addr → Prop} (h : Chain.At A K H a ch) (hn : ¬ N a) (k : ∀ b o, H b = some o → ¬ N b → H' b = some o) (hN : ∀ b o, N b → H b = some o → (∀ ys, o ≠ .tup ys) ∧ ∀ ob u, o ≠ .frz ob u) : Chain.At A K H' a ch := by
  cases ch with
  | frac t b => obtain ⟨dx, e⟩ := h; exact ⟨dx, k _ _ e hn⟩
  | root t s b r => obtain ⟨dx, e⟩ := h; exact ⟨dx, k _ _ e hn⟩
  | ruled ps ring steps i =>
    obtain ⟨dx, p, q, u, e, hp, hq, hu⟩ := h
    exact ⟨dx, p, q, u, k _ _ e hn, sqT_but hp k hN, sqT_but hq k hN, sqT_but hu k hN⟩
theorem Chain.At.same {H H' : Hp} {a : Addr} {ch : Chain} (h : Chain.At A K H a ch) (k : Same H H') : Chain.At A K H' a ch :=
  h.kept (N := fun _ => False) (fun z => z) (fun b o e _ => k b o e) fun _ _ z => z.elim
theorem Chain.At.there {H : Hp} {a : Addr} {ch : Chain} (h : Chain.At A K H a ch) : ∃ C dx fs, H a = some (.ins C dx fs) := by
  cases ch with
  | frac t b => obtain ⟨dx, e⟩ := h; exact ⟨_, _, _, e⟩
  | root t s b r => obtain ⟨dx, e⟩ := h; exact ⟨_, _, _, e⟩
  | ruled ps ring steps i => obtain ⟨dx, p, q, u, e, _⟩ := h; exact ⟨_, _, _, e⟩
theorem Chain.At.cls {H : Hp} {a C dx : Addr} {fs : Flds} {ch : Chain} (h : Chain.At A K H a ch) (e : H a = some (.ins C dx fs)) : fs.lookup ("has_ended" : Str) = none ∧ fs.lookup ("next_part" : Str) = none := by
  cases ch with
  | frac t b => obtain ⟨dx', e'⟩ := h; rw [e'] at e; cases e; exact ⟨rfl, rfl⟩
  | root t s b r => obtain ⟨dx', e'⟩ := h; rw [e'] at e; cases e; exact ⟨rfl, rfl⟩
  | ruled ps ring steps i => obtain ⟨dx', p, q, u, e', _⟩ := h; rw [e'] at e; cases e; exact ⟨rfl, rfl⟩
theorem ins_no {C dx : Addr} {fs : Flds} {o : HO} (e : o = .ins C dx fs) : (∀ ys, o ≠ .tup ys) ∧ ∀ ob u, o ≠ .frz ob u := by
  subst e
  exact ⟨fun _ q => (by cases q), fun _ _ q => (by cases q)⟩
theorem Chain.Ok.next {ch : Chain} (h : ch.Ok) (he : ch.ended = false) : ch.next.Ok := by
  cases ch with
  | frac t b =>
    have hb : b ≠ 0 := fun z => by subst z; cases he
    exact ⟨h.2, small_fm h.2 hb⟩
  | root t s b r => exact root_next h
  | ruled ps ring steps i => exact h
def sp_Leaf_ask (A : Ad) (K : PySem.W.Frag) : Sp := fun vs H Q _ => ∃ (a c m : Addr) (ch : Chain) (l s : Int), vs = [.ref a, .ref m] ∧ LeafAt A K H a c ch ∧ ch.Ok ∧ MeterAt A H m l s ∧ a ≠ c ∧ a ≠ m ∧ c ≠ m ∧
  ∀ v H', LeafAt A K H' a c (ch.then_ l) → MeterAt A H' m (l - ch.took l) (s + ch.took l) → (ch.ans l).At A H' v → (∀ b o, H b = some o → b ≠ c → b ≠ m → H' b = some o) → Q v H'
theorem ok_Leaf_ask (T : CT K mg A) (D : DT K mg A) : MOk P w K mg base CX0 2 A.c_Leaf "ask" ["self", "meter"] (sp_Leaf_ask A K) := by
  have M1 := ok_FractionChain_has_ended (P := P) (w := w) (base := base) T D
  have M2 := ok_RootChain_has_ended (P := P) (w := w) (base := base) T D
  have M3 := ok_RuledChain_has_ended (P := P) (w := w) (base := base) T D
  have N1 := ok_FractionChain_next_part (P := P) (w := w) (base := base) T D
  have N2 := ok_RootChain_next_part (P := P) (w := w) (base := base) T D
  have N3 := ok_RuledChain_next_part (P := P) (w := w) (base := base) T D
  have M_pay := ok_Meter_pay (P := P) (w := w) (base := base) T D
  refine MOk.of T.cl_Leaf D.Leaf_ask fun f fd F => ?_
  refine F.ok sc_Leaf_ask (fun vs H Q E h => ?_) (fun cdv Ar outer s H vs Q E hr h => ?_)
  · obtain ⟨a, c, m, ch, l, sp, rfl, _⟩ := h
    rfl
  · obtain ⟨a, c, m, ch, l, sp, rfl, ⟨⟨dx, ha⟩, hc⟩, ok, ⟨dm, hm⟩, nac, nam, ncm, k⟩ := h
    refine ⟨_, (C8.pss_cut (ps_if (pt_val ((pe_alt (pe_m0 M1 (hr.mono (by decide)) (pe_fld (pv 0) rfl)) (pe_alt (pe_m0 M2 (hr.mono (by decide)) (pe_fld (pv 0) rfl)) (pe_m0 M3 (hr.mono (by decide)) (pe_fld (pv 0) rfl))))))
      (pss_one (ps_ret (pe_glob (v := .ref A.k_END) (by rfl) T.g_END rfl))) pss_nil)
    (pss_cons (ps_if (pt_cmpR op_lt (pe_fld (pv 1) rfl) pe_int (nomark _))
      (pss_one (ps_ret (pe_glob (v := .ref A.k_WAITS) (by rfl) T.g_WAITS rfl))) pss_nil)
    (pss_cons (ps_expr (pe_m0 M_pay (hr.mono (by first | decide | omega)) (pv 1)))
    (pss_one (ps_ret (pe_tup (pa_cons pe_str (pa_cons ((pe_alt (pe_m0 N1 (hr.mono (by decide)) (pe_fld (pv 0) rfl)) (pe_alt (pe_m0 N2 (hr.mono (by decide)) (pe_fld (pv 0) rfl)) (pe_m0 N3 (hr.mono (by decide)) (pe_fld (pv 0) rfl))))) pa_nil)))))))), ?_⟩
    have cl := T.cl_Leaf
    obtain ⟨C, dc, fs, hcs⟩ := hc.there
    obtain ⟨lk1, lk2⟩ := hc.cls hcs
    refine ⟨fun σ H2 => σ = [some (.ref a), some (.ref m)] ∧ H2 = H ∧ ch.ended = false, ?_, ?_⟩
    · -- has it ended
      have two : ∀ {b : Bool}, b = ch.ended → (if b = true then tRet (tC (V.ref A.k_END)) { nx := fun σ H2 => σ = [some (.ref a), some (.ref m)] ∧ H2 = H ∧ ch.ended = false, rt := Q } [some (.ref a), some (.ref m)] H else tNext { nx := fun σ H2 => σ = [some (.ref a), some (.ref m)] ∧ H2 = H ∧ ch.ended = false, rt := Q } [some (.ref a), some (.ref m)] H) := fun {b} e => by
        subst e
        cases he : ch.ended with
        | true =>
          rw [if_pos rfl]
          have e1 : ch.ans l = .fin := by unfold Chain.ans; rw [if_pos he]
          have e2 : ch.then_ l = ch := by unfold Chain.then_; rw [if_pos he]
          have e3 : ch.took l = 0 := by unfold Chain.took; rw [if_pos he]
          refine k _ H ?_ ?_ ?_ (fun b o e _ _ => e)
          · rw [e2]; exact ⟨⟨dx, ha⟩, hc⟩
          · rw [e3, Int.sub_zero, Int.add_zero]; exact ⟨dm, hm⟩
          · rw [e1]; rfl
        | false =>
          rw [if_neg (by decide)]
          exact ⟨rfl, rfl, rfl⟩
      cases ch with
      | frac t b =>
        obtain ⟨dc', hc'⟩ := id hc
        exact .inl ⟨_, rfl, a, _, dx, _, _, rfl, ha, cl, T.n_Leaf_chain, rfl, c, dc', _, rfl, hc', rfl, c, t, b, rfl, hc, _, rfl, two rfl⟩
      | root t s b r =>
        obtain ⟨dc', hc'⟩ := id hc
        exact .inr (.inl ⟨_, rfl, a, _, dx, _, _, rfl, ha, cl, T.n_Leaf_chain, rfl, c, dc', _, rfl, hc', rfl, c, rfl, _, rfl, two rfl⟩)
      | ruled ps ring steps i =>
        obtain ⟨dc', p, q, u, hc', _⟩ := id hc
        exact .inr (.inr ⟨_, rfl, a, _, dx, _, _, rfl, ha, cl, T.n_Leaf_chain, rfl, c, dc', _, rfl, hc', rfl, c, ps, ring, steps, i, rfl, hc, _, rfl, two rfl⟩)
    · rintro σ H2 ⟨rfl, rfl, he⟩
      refine ⟨_, rfl, m, _, dm, _, _, rfl, hm, T.cl_Meter, T.n_Meter_left, rfl, _, _, rfl, rfl, _, rfl, ite2 (fun cl1 => ?_) (fun cl1 => ?_)⟩
      · have hl : l < 1 := of_decide_eq_true cl1
        have e1 : ch.ans l = .waits := by unfold Chain.ans; rw [he, if_neg (by decide), if_pos hl]
        have e2 : ch.then_ l = ch := by unfold Chain.then_; rw [he, if_neg (by decide), if_pos hl]
        have e3 : ch.took l = 0 := by unfold Chain.took; rw [he, if_neg (by decide), if_pos hl]
        refine k _ _ ?_ ?_ ?_ (fun b o e _ _ => e)
        · rw [e2]; exact ⟨⟨dx, ha⟩, hc⟩
        · rw [e3, Int.sub_zero, Int.add_zero]; exact ⟨dm, hm⟩
        · rw [e1]; rfl
      · have hl : ¬ l < 1 := fun z => cl1 (decide_eq_true z)
        have e1 : ch.ans l = .part ch.part := by unfold Chain.ans; rw [he, if_neg (by decide), if_neg hl]
        have e2 : ch.then_ l = ch.next := by unfold Chain.then_; rw [he, if_neg (by decide), if_neg hl]
        have e3 : ch.took l = 1 := by unfold Chain.took; rw [he, if_neg (by decide), if_neg hl]
        rw [e1, e2, e3] at k
        -- pay
        refine ⟨_, rfl, m, dm, _, rfl, hm, rfl, m, dm, l, sp, rfl, hm, ?_⟩
        have kp1 : ∀ b o, H2 b = some o → b ≠ m → (upd H2 m (.ins A.c_Meter dm (meF (l - 1) (sp + 1)))) b = some o := fun b o e hb => by rw [upd_ne hb]; exact e
        have hc1 : Chain.At A K (upd H2 m (.ins A.c_Meter dm (meF (l - 1) (sp + 1)))) c ch := hc.kept (N := fun b => b = m) ncm kp1 fun b o e z => by subst e; rw [hm] at z; exact ins_no (Option.some.inj z).symm
        have ha1 := kp1 a _ ha nam
        have hm1 : (upd H2 m (.ins A.c_Meter dm (meF (l - 1) (sp + 1)))) m = some (.ins A.c_Meter dm (meF (l - 1) (sp + 1))) := upd_same
        have hcs1 := kp1 c _ hcs ncm
        generalize upd H2 m (.ins A.c_Meter dm (meF (l - 1) (sp + 1))) = H3 at *
        have fin : ∀ H4, Chain.At A K H4 c ch.next → (∀ b o, H3 b = some o → b ≠ c → H4 b = some o) → ∀ p, H4 p = none → Q (.ref p) (upd H4 p (.tup [.str "part", .int ch.part])) := fun H4 hn kp4 p np => by
          have s5 := same_upd (o := .tup [V.str "part", .int ch.part]) np
          refine k _ _ ⟨⟨dx, s5 _ _ (kp4 a _ ha1 nac)⟩, hn.same s5⟩ ⟨dm, s5 _ _ (kp4 m _ hm1 (Ne.symm ncm))⟩ ⟨p, rfl, upd_same⟩ fun b o e hb hb2 => s5 _ _ (kp4 b o (kp1 b o e hb2) hb)
        have two : (2 : Nat) ≤ sizeLine := by decide
        cases ch with
        | frac t b =>
          obtain ⟨dc', hc'⟩ := id hc1
          have hb : b ≠ 0 := fun z => by subst z; cases he
          exact .inl ⟨_, rfl, a, _, dx, _, _, rfl, ha1, cl, T.n_Leaf_chain, rfl, c, dc', _, rfl, hc', rfl, c, t, b, rfl, hc1, hb, ok.1, ok.2, fun H4 hn kp4 => ⟨two, fun p np => fin H4 hn kp4 p np⟩⟩
        | root t s b r =>
          obtain ⟨dc', hc'⟩ := id hc1
          exact .inr (.inl ⟨_, rfl, a, _, dx, _, _, rfl, ha1, cl, T.n_Leaf_chain, rfl, c, dc', _, rfl, hc', rfl, c, t, s, b, r, rfl, hc1, ok, fun H4 hn kp4 => ⟨two, fun p np => fin H4 hn kp4 p np⟩⟩)
        | ruled ps ring steps i =>
          obtain ⟨dc', p, q, u, hc', _⟩ := id hc1
          have hne : ring = [] → i < ps.length := fun z => by
            subst z
            have he' : decide (ps.length ≤ i) = false := he
            have := of_decide_eq_false he'
            omega
          exact .inr (.inr ⟨_, rfl, a, _, dx, _, _, rfl, ha1, cl, T.n_Leaf_chain, rfl, c, dc', _, rfl, hc', rfl, c, ps, ring, steps, i, rfl, hc1, ok, hne, fun H4 hn kp4 => ⟨two, fun p np => fin H4 hn kp4 p np⟩⟩)
theorem ok_Leaf_init (T : CT K mg A) (D : DT K mg A) : IOk P w K mg base 1 "Leaf" A.c_Leaf ["self", "chain"] (sp_ini A.c_Leaf 1 fun us => [("chain", us.getD 0 .non)]) := by
  refine IOk.of T.g_Leaf D.Leaf_init fun f fd F => ?_
  refine F.ok sc_Leaf_init (fun vs H Q E h => ?_) (fun cdv Ar outer s H vs Q E hr h => ?_)
  · obtain ⟨p, dx, us, rfl, hl, _⟩ := h
    show us.length + 1 = 2
    omega
  · obtain ⟨p, dx, us, rfl, hl, hp, k⟩ := h
    match us, hl with
    | [u0], _ =>
      refine ⟨_, (pss_one (ps_fld (pv 0) (pv 1) rfl)), ?_⟩
      exact ⟨_, rfl, _, rfl, p, _, dx, [], rfl, hp, T.cl_Leaf, T.n_Leaf_chain, (by show 0 < 1000; decide), k⟩
/-! trees of one leaf -/
inductive Leaf where
  | frac (t b : Int) | root (t s b : Int) | ruled (ps ring steps : List Int)
def Leaf.At (K : PySem.W.Frag) (H : Hp) (a : Addr) : Leaf → Prop
  | .frac t b => SqT K H a [.str "fraction", .int t, .int b]
  | .root t s b => SqT K H a [.str "root", .int t, .int s, .int b]
  | .ruled ps ring steps => ∃ p q u, SqT K H a [.str "ruled", .ref p, .ref q, .ref u] ∧ SqT K H p (ps.map V.int) ∧ SqT K H q (ring.map V.int) ∧ SqT K H u (steps.map V.int)
def Leaf.Good : Leaf → Prop
  | .frac t b => tame t ∧ tame b ∧ b ≠ 0
  | .root t s b => tame t ∧ tame s ∧ 0 ≤ s ∧ tame b ∧ b ≠ 0
  | .ruled ps ring steps => RuledGood ps ring steps
/-- the chain that a leaf begins with -/
def Leaf.Starts : Leaf → Chain → Prop
  | .frac t b, ch => ch = .frac t b
  | .root t s b, ch => ∃ r, IsRoot s r ∧ ((r * r = s ∧ ch = .frac (t + r) b) ∨ (r * r ≠ s ∧ ∃ q, IsRoot (s * (b.natAbs : Int) * (b.natAbs : Int)) q ∧ ch = .root (t * (b.natAbs : Int)) (s * (b.natAbs : Int) * (b.natAbs : Int)) (b * (b.natAbs : Int)) q))
  | .ruled ps ring steps, ch => ch = .ruled ps ring steps 0
theorem Leaf.At.same {H H' : Hp} {a : Addr} {f : Leaf} (h : f.At K H a) (k : Same H H') : f.At K H' a := by
  cases f with
  | frac t b => exact sqT_same h k
  | root t s b => exact sqT_same h k
  | ruled ps ring steps =>
    obtain ⟨p, q, u, e, hp, hq, hu⟩ := h
    exact ⟨p, q, u, sqT_same e k, sqT_same hp k, sqT_same hq k, sqT_same hu k⟩
/-- two new objects: an instance and its own dict -/
theorem made_same {H : Hp} {x dx : Addr} {o o' : HO} (nx : H x = none) (nd : H dx = none) : Same H (upd (upd H dx o) x o') := fun b u e => by
  rw [upd_ne (ne_of_none e nx), upd_ne (ne_of_none e nd)]
  exact e
def sp_root_chain (A : Ad) (K : PySem.W.Frag) : Sp := fun vs H Q _ => ∃ (t s b : Int), vs = [.int t, .int s, .int b] ∧ Leaf.Good (.root t s b) ∧
  ∀ c ch H', Chain.At A K H' c ch → Leaf.Starts (.root t s b) ch → ch.Ok → Same H H' → H c = none → Q (.ref c) H'
theorem ok_root_chain (T : CT K mg A) (D : DT K mg A) : COk P w K mg base CX0 4 "root_chain" ["top", "square", "below"] (sp_root_chain A K) := by
  have G_root_below : COk P w K mg base CX0 1 "root_below" ["number"] sp_root_below := COk.by D.root_below fun f fd F => ok_root_below F
  have I_FractionChain := ok_FractionChain_init (P := P) (w := w) (base := base) T D
  have I_RootChain := ok_RootChain_init (P := P) (w := w) (base := base) T D G_root_below root_there
  refine COk.by D.root_chain fun f fd F => ?_
  refine F.ok sc_root_chain (fun vs H Q E h => ?_) (fun cdv Ar outer s H vs Q E hr h => ?_)
  · obtain ⟨t, s, b, rfl, _⟩ := h
    rfl
  · obtain ⟨t, sq, b, rfl, ⟨ht, hs, hs0, hb, hb0⟩, k⟩ := h
    refine ⟨_, (pss_cons (ps_set (i := 3) sc_root_chain.nd rfl (Or.inl rfl) (pe_c G_root_below (hr.mono (by first | decide | omega)) (pa_cons (pv 1) pa_nil)))
    (pss_cons (ps_if (pt_cmpR op_eq (pe_op op_mul (pv 3) (pv 3)) (pv 1) (nomark _))
      (pss_one (ps_ret (pe_mk I_FractionChain (hr.mono (by first | decide | omega)) (pa_cons (pe_op op_add (pv 0) (pv 3)) (pa_cons (pv 2) pa_nil))))) pss_nil)
    (pss_one (ps_ret (pe_mk I_RootChain (hr.mono (by first | decide | omega)) (pa_cons (pv 0) (pa_cons (pv 1) (pa_cons (pv 2) pa_nil)))))))), ?_⟩
    obtain ⟨s1, s2⟩ := id hs
    obtain ⟨t1, t2⟩ := id ht
    refine ⟨_, rfl, sq, rfl, hs0, Int.lt_of_le_of_lt s2 (by decide +kernel), fun r hr0 => ?_⟩
    have r1 : r < 2 ^ 20 := lt_of_sq (k := 20) hr0.1 hr0.2.1 (Int.lt_of_le_of_lt s2 (by decide))
    have p20 : (2 : Int) ^ 20 = 1048576 := by decide
    have r0 := hr0.1
    have p64 : (2 : Int) ^ 64 = 18446744073709551616 := by decide
    have w64 : -(2 ^ 64) < r ∧ r < 2 ^ 64 := ⟨by omega, by omega⟩
    refine ⟨_, rfl, _, rfl, _, _, rfl, rfl, .inl w64, _, rfl, rfl, _, rfl, ite2 (fun c => ?_) (fun c => ?_)⟩
    · have e : r * r = sq := V.int.inj (of_decide_eq_true c)
      refine ⟨_, rfl, _, rfl, _, _, rfl, rfl, _, rfl, fun x dx nx nd ne => ?_⟩
      refine ⟨x, dx, [.int (t + r), .int b], rfl, rfl, upd_same, rfl, ?_⟩
      rw [upd_upd]
      refine k x (.frac (t + r) b) _ ⟨dx, upd_same⟩ ⟨r, hr0, .inl ⟨e, rfl⟩⟩ ⟨?_, small_tame hb⟩ (made_same nx nd) nx
      have p40 : (2 : Nat) ^ 41 = 2199023255552 := by decide
      exact Nat.lt_trans (show (t + r).natAbs < 2 ^ 41 by omega) (Nat.pow_lt_pow_right (by decide) (by decide))
    · have e : r * r ≠ sq := fun z => c (decide_eq_true (congrArg V.int z))
      refine ⟨_, rfl, _, rfl, _, rfl, fun x dx nx nd ne => ?_⟩
      refine ⟨x, dx, t, sq, b, rfl, upd_same, ht, hs0, s2, hb, hb0, (fun r' hr' => by rw [hr'.unique hr0]; exact e), fun q hq => ⟨rfl, ?_⟩⟩
      rw [upd_upd]
      exact k x (.root _ _ _ q) _ ⟨dx, upd_same⟩ ⟨r, hr0, .inr ⟨e, q, hq.rt, rfl⟩⟩ hq (made_same nx nd) nx
/-- a new leaf -/
def sp_leaf_of (A : Ad) (K : PySem.W.Frag) : Sp := fun vs H Q _ => ∃ (v : Addr) (f : Leaf), vs = [.ref v] ∧ f.At K H v ∧ f.Good ∧
  ∀ a c ch H', LeafAt A K H' a c ch → f.Starts ch → ch.Ok → Same H H' → H a = none → H c = none → a ≠ c → Q (.ref a) H'
theorem ok_leaf_of (T : CT K mg A) (D : DT K mg A) : COk P w K mg base CX0 5 "leaf_of" ["tree"] (sp_leaf_of A K) := by
  have G_root_chain := ok_root_chain (P := P) (w := w) (base := base) T D
  have I_FractionChain := ok_FractionChain_init (P := P) (w := w) (base := base) T D
  have I_RuledChain := ok_RuledChain_init (P := P) (w := w) (base := base) T D
  have I_Leaf := ok_Leaf_init (P := P) (w := w) (base := base) T D
  refine COk.by D.leaf_of fun f fd F => ?_
  refine F.ok sc_leaf_of (fun vs H Q E h => ?_) (fun cdv Ar outer s H vs Q E hr h => ?_)
  · obtain ⟨v, f, rfl, _⟩ := h
    rfl
  · obtain ⟨v, f, rfl, hf, hg, k⟩ := h
    refine ⟨_, (pss_cons (ps_if (pt_cmpR op_eq (pe_ix ix_tup (pv 0) pe_int (fun _ _ => rfl)) pe_str (nomark _))
      (pss_one (ps_ret (pe_mk I_Leaf (hr.mono (by first | decide | omega)) (pa_cons (pe_mk I_FractionChain (hr.mono (by first | decide | omega)) (pa_cons (pe_ix ix_tup (pv 0) pe_int (fun _ _ => rfl)) (pa_cons (pe_ix ix_tup (pv 0) pe_int (fun _ _ => rfl)) pa_nil))) pa_nil)))) pss_nil)
    (pss_cons (ps_if (pt_cmpR op_eq (pe_ix ix_tup (pv 0) pe_int (fun _ _ => rfl)) pe_str (nomark _))
      (pss_one (ps_ret (pe_mk I_Leaf (hr.mono (by first | decide | omega)) (pa_cons (pe_c G_root_chain (hr.mono (by first | decide | omega)) (pa_cons (pe_ix ix_tup (pv 0) pe_int (fun _ _ => rfl)) (pa_cons (pe_ix ix_tup (pv 0) pe_int (fun _ _ => rfl)) (pa_cons (pe_ix ix_tup (pv 0) pe_int (fun _ _ => rfl)) pa_nil)))) pa_nil)))) pss_nil)
    (pss_one (ps_ret (pe_mk I_Leaf (hr.mono (by first | decide | omega)) (pa_cons (pe_mk I_RuledChain (hr.mono (by first | decide | omega)) (pa_cons (pe_ix ix_tup (pv 0) pe_int (fun _ _ => rfl)) (pa_cons (pe_ix ix_tup (pv 0) pe_int (fun _ _ => rfl)) (pa_cons (pe_ix ix_tup (pv 0) pe_int (fun _ _ => rfl)) pa_nil)))) pa_nil)))))), ?_⟩
    have fin : ∀ c ch H1, Chain.At A K H1 c ch → f.Starts ch → ch.Ok → Same H H1 → H c = none → ∀ x dx, H1 x = none → H1 dx = none → dx ≠ x → Q (.ref x) (upd (upd (upd H1 dx (.own x)) x (.ins A.c_Leaf dx [])) x (.ins A.c_Leaf dx (leF c))) := fun c ch H1 hc st ok sm nc x dx nx nd ne => by
      rw [upd_upd]
      have s2 := made_same (o := .own x) (o' := .ins A.c_Leaf dx (leF c)) nx nd
      obtain ⟨C, d, fs, e⟩ := hc.there
      exact k x c ch _ ⟨⟨dx, upd_same⟩, hc.same s2⟩ st ok (sm.trans s2) (sm.free nx) nc (ne_of_none e nx).symm
    cases f with
    | frac t b =>
      refine ⟨_, rfl, v, _, 0, _, rfl, rfl, hf, atI_nat (j := 0) rfl, rfl, _, rfl, ?_⟩
      refine iteT ⟨_, rfl, v, _, 1, _, rfl, rfl, hf, atI_nat (j := 1) rfl, _, rfl, v, _, 2, _, rfl, rfl, hf, atI_nat (j := 2) rfl, fun x dx nx nd ne => ?_⟩
      refine ⟨x, dx, [.int t, .int b], rfl, rfl, upd_same, rfl, ?_⟩
      rw [upd_upd]
      intro x2 dx2 nx2 nd2 ne2
      exact ⟨x2, dx2, [.ref x], rfl, rfl, upd_same, rfl, fin x (.frac t b) _ ⟨dx, upd_same⟩ rfl ⟨small_tame hg.1, small_tame hg.2.1⟩ (made_same nx nd) nx x2 dx2 nx2 nd2 ne2⟩
    | root t sq b =>
      refine ⟨_, rfl, v, _, 0, _, rfl, rfl, hf, atI_nat (j := 0) rfl, rfl, _, rfl, ?_⟩
      refine iteF ⟨_, rfl, v, _, 0, _, rfl, rfl, hf, atI_nat (j := 0) rfl, rfl, _, rfl, ?_⟩
      refine iteT ⟨_, rfl, v, _, 1, _, rfl, rfl, hf, atI_nat (j := 1) rfl, _, rfl, v, _, 2, _, rfl, rfl, hf, atI_nat (j := 2) rfl, _, rfl, v, _, 3, _, rfl, rfl, hf, atI_nat (j := 3) rfl, t, sq, b, rfl, hg, fun c ch H1 hc st ok sm nc => ?_⟩
      intro x2 dx2 nx2 nd2 ne2
      exact ⟨x2, dx2, [.ref c], rfl, rfl, upd_same, rfl, fin c ch H1 hc st ok sm nc x2 dx2 nx2 nd2 ne2⟩
    | ruled ps ring steps =>
      obtain ⟨p, q, u, hv, hp, hq, hu⟩ := hf
      refine ⟨_, rfl, v, _, 0, _, rfl, rfl, hv, atI_nat (j := 0) rfl, rfl, _, rfl, ?_⟩
      refine iteF ⟨_, rfl, v, _, 0, _, rfl, rfl, hv, atI_nat (j := 0) rfl, rfl, _, rfl, ?_⟩
      refine iteF ⟨_, rfl, v, _, 1, _, rfl, rfl, hv, atI_nat (j := 1) rfl, _, rfl, v, _, 2, _, rfl, rfl, hv, atI_nat (j := 2) rfl, _, rfl, v, _, 3, _, rfl, rfl, hv, atI_nat (j := 3) rfl, fun x dx nx nd ne => ?_⟩
      refine ⟨x, dx, [.ref p, .ref q, .ref u], rfl, rfl, upd_same, rfl, ?_⟩
      rw [upd_upd]
      intro x2 dx2 nx2 nd2 ne2
      have s1 := made_same (o := .own x) (o' := .ins A.c_RuledChain dx (ruF p q u 0)) nx nd
      exact ⟨x2, dx2, [.ref x], rfl, rfl, upd_same, rfl, fin x (.ruled ps ring steps 0) _ ⟨dx, p, q, u, upd_same, sqT_same hp s1, sqT_same hq s1, sqT_same hu s1⟩ rfl hg.toRuledOk s1 nx x2 dx2 nx2 nd2 ne2⟩
end
/-! ### readings -/
section
variable {P : Program} {w : World} {K : PySem.W.Frag} {mg : Str → Option Value} {base : Heap} {A : Ad}
def sp_Reading_init (A : Ad) : Sp := fun vs H Q _ => ∃ (p dx : Addr) (b : Addr), vs = [.ref p, .ref b] ∧ H p = some (.ins A.c_Reading dx []) ∧
  ∀ m H', H m = none → H' p = some (.ins A.c_Reading dx (reF b m)) → MeterAt A H' m 0 0 → (∀ c o, H c = some o → c ≠ p → H' c = some o) → Q .non H'
theorem ok_Reading_init (T : CT K mg A) (D : DT K mg A) : IOk P w K mg base 3 "Reading" A.c_Reading ["self", "box"] (sp_Reading_init A) := by
  have I_Meter := ok_Meter_init (P := P) (w := w) (base := base) T D
  refine IOk.of T.g_Reading D.Reading_init fun f fd F => ?_
  refine F.ok sc_Reading_init (fun vs H Q E h => ?_) (fun cdv Ar outer s H vs Q E hr h => ?_)
  · obtain ⟨p, dx, b, rfl, _⟩ := h
    rfl
  · obtain ⟨p, dx, b, rfl, hp, k⟩ := h
    refine ⟨_, (pss_cons (ps_fld (pv 0) (pv 1) rfl)
    (pss_one (ps_fld (pv 0) (pe_mk0 I_Meter (hr.mono (by first | decide | omega))) rfl))), ?_⟩
    refine ⟨_, rfl, _, rfl, p, _, dx, [], rfl, hp, T.cl_Reading, T.n_Reading_box, (by show 0 < 1000; decide), ?_⟩
    intro m dm nm ndm ne
    refine ⟨m, dm, [], rfl, rfl, upd_same, rfl, ?_⟩
    rw [upd_upd]
    have h1 : (upd H p (.ins A.c_Reading dx (putF "box" (.ref b) []))) p = some (.ins A.c_Reading dx [("box", .ref b)]) := upd_same
    have s1 := made_same (o := .own m) (o' := .ins A.c_Meter dm (meF 0 0)) nm ndm
    have hpm : p ≠ m := ne_of_none h1 nm
    refine ⟨_, rfl, p, _, dx, _, rfl, s1 _ _ h1, T.cl_Reading, T.n_Reading_meter, (by show 1 < 1000; decide), ?_⟩
    refine k m _ ?_ upd_same ⟨dm, by rw [upd_ne hpm.symm, upd_same]⟩ fun c o e hc => ?_
    · rw [upd_ne hpm.symm] at nm
      exact nm
    · rw [upd_ne hc]
      exact s1 _ _ (by rw [upd_ne hc]; exact e)
theorem ok_Reading_took (T : CT K mg A) (D : DT K mg A) : MOk P w K mg base CX0 1 A.c_Reading "took" ["self"] (fun vs H Q _ => ∃ r rx b m dm l s, vs = [.ref r] ∧ H r = some (.ins A.c_Reading rx (reF b m)) ∧ H m = some (.ins A.c_Meter dm (meF l s)) ∧ Q (.int s) H) := by
  refine MOk.of T.cl_Reading D.Reading_took fun f fd F => ?_
  refine F.ok sc_Reading_took (fun vs H Q E h => ?_) (fun cdv Ar outer s H vs Q E hr h => ?_)
  · obtain ⟨r, rx, b, m, dm, l, s, rfl, _⟩ := h
    rfl
  · obtain ⟨r, rx, b, m, dm, l, sp, rfl, hr0, hm, k⟩ := h
    refine ⟨_, (pss_one (ps_ret (pe_fld (pe_fld (pv 0) rfl) rfl))), ?_⟩
    exact ⟨_, rfl, r, _, rx, _, _, rfl, hr0, T.cl_Reading, T.n_Reading_meter, rfl, m, _, dm, _, _, rfl, hm, T.cl_Meter, T.n_Meter_spent, rfl, k⟩
/-- a reading asks its box, of the class at C -/
def sp_part (A : Ad) (C : Addr) (spA : Sp) : Sp := fun vs H Q _ => ∃ (r rx b m dm db : Addr) (fb : Flds) (l s n : Int), vs = [.ref r, .int n] ∧ H r = some (.ins A.c_Reading rx (reF b m)) ∧ H m = some (.ins A.c_Meter dm (meF l s)) ∧ r ≠ m ∧ b ≠ m ∧ H b = some (.ins C db fb) ∧ fb.lookup ("ask" : Str) = none ∧
  spA [.ref b, .ref m] (upd H m (.ins A.c_Meter dm (meF n s))) Q E0
theorem ok_Reading_part {k : Nat} {C : Addr} {spA : Sp} (T : CT K mg A) (D : DT K mg A) (hk : 1 ≤ k) (M_ask : MOk P w K mg base CX0 k C "ask" ["self", "meter"] spA) : MOk P w K mg base CX0 (k + 1) A.c_Reading "part" ["self", "most"] (sp_part A C spA) := by
  have M_allow := ok_Meter_allow (P := P) (w := w) (base := base) T D
  refine MOk.of T.cl_Reading D.Reading_part fun f fd F => ?_
  refine F.ok sc_Reading_part (fun vs H Q E h => ?_) (fun cdv Ar outer s H vs Q E hr h => ?_)
  · obtain ⟨r, rx, b, m, dm, db, fb, l, s, n, rfl, _⟩ := h
    rfl
  · obtain ⟨r, rx, b, m, dm, db, fb, l, sp, n, rfl, hr0, hm, nrm, nbm, hb, lk, q⟩ := h
    refine ⟨_, (pss_cons (ps_expr (pe_m M_allow (hr.mono (by first | decide | omega)) (pe_fld (pv 0) rfl) (pa_cons (pv 1) pa_nil)))
    (pss_one (ps_ret (pe_m M_ask (hr.mono (by first | decide | omega)) (pe_fld (pv 0) rfl) (pa_cons (pe_fld (pv 0) rfl) pa_nil))))), ?_⟩
    have cl := T.cl_Reading
    refine ⟨_, rfl, r, _, rx, _, _, rfl, hr0, cl, T.n_Reading_meter, rfl, m, dm, _, rfl, hm, rfl, _, rfl, m, dm, l, sp, n, rfl, hm, ?_⟩
    have hr1 : (upd H m (.ins A.c_Meter dm (meF n sp))) r = some (.ins A.c_Reading rx (reF b m)) := by rw [upd_ne nrm]; exact hr0
    have hb1 : (upd H m (.ins A.c_Meter dm (meF n sp))) b = some (.ins C db fb) := by rw [upd_ne nbm]; exact hb
    exact ⟨_, rfl, r, _, rx, _, _, rfl, hr1, cl, T.n_Reading_box, rfl, b, db, fb, rfl, hb1, lk, _, rfl, r, _, rx, _, _, rfl, hr1, cl, T.n_Reading_meter, rfl, q⟩
/-! a reading of a leaf -/
structure ReadAt (A : Ad) (K : PySem.W.Frag) (H : Hp) (r a c m : Addr) (ch : Chain) (l s : Int) : Prop where
  rd : ∃ rx, H r = some (.ins A.c_Reading rx (reF a m))
  lf : LeafAt A K H a c ch
  mt : MeterAt A H m l s
  ra : r ≠ a
  rc : r ≠ c
  rm : r ≠ m
  ac : a ≠ c
  am : a ≠ m
  cm : c ≠ m
  ok : ch.Ok
theorem ReadAt.same {H H' : Hp} {r a c m : Addr} {ch : Chain} {l s : Int} (R : ReadAt A K H r a c m ch l s) (k : Same H H') : ReadAt A K H' r a c m ch l s := by
  obtain ⟨⟨rx, e⟩, ⟨⟨dx, e2⟩, hc⟩, ⟨dm, e3⟩, ra, rc, rm, ac, am, cm, ok⟩ := R
  exact ⟨⟨rx, k _ _ e⟩, ⟨⟨dx, k _ _ e2⟩, hc.same k⟩, ⟨dm, k _ _ e3⟩, ra, rc, rm, ac, am, cm, ok⟩
/-- another list is written -/
theorem ReadAt.put {H : Hp} {r a c m d : Addr} {ch : Chain} {l s : Int} {xs ys : List V} (R : ReadAt A K H r a c m ch l s) (hd : H d = some (.lst xs)) (_ : d ≠ c) (_ : d ≠ m) : ReadAt A K (upd H d (.lst ys)) r a c m ch l s := by
  obtain ⟨⟨rx, e⟩, ⟨⟨dx, e2⟩, hc⟩, ⟨dm, e3⟩, ra, rc, rm, ac, am, cm, ok⟩ := R
  have k : ∀ b o, H b = some o → ¬ b = d → (upd H d (.lst ys)) b = some o := fun b o z n => by rw [upd_ne n]; exact z
  have ne : ∀ {b C dx fs}, H b = some (.ins C dx fs) → b ≠ d := fun {b C dx fs} z => ne_of z hd (by intro q; cases q)
  obtain ⟨C, dc, fs, e4⟩ := hc.there
  refine ⟨⟨rx, k _ _ e (ne e)⟩, ⟨⟨dx, k _ _ e2 (ne e2)⟩, hc.kept (N := fun b => b = d) (ne e4) k fun b o z y => ?_⟩, ⟨dm, k _ _ e3 (ne e3)⟩, ra, rc, rm, ac, am, cm, ok⟩
  subst z
  rw [hd] at y
  cases y
  exact ⟨fun _ q => (by cases q), fun _ _ q => (by cases q)⟩
/-- one asking of a leaf's reading -/
def sp_part_leaf (A : Ad) (K : PySem.W.Frag) : Sp := fun vs H Q _ => ∃ (r a c m : Addr) (ch : Chain) (l s n : Int), vs = [.ref r, .int n] ∧ ReadAt A K H r a c m ch l s ∧
  ∀ v H', ReadAt A K H' r a c m (ch.then_ n) (n - ch.took n) (s + ch.took n) → (ch.ans n).At A H' v → (∀ b o, H b = some o → b ≠ c → b ≠ m → H' b = some o) → Q v H'
theorem Chain.Ok.then_ {ch : Chain} (h : ch.Ok) (n : Int) : (ch.then_ n).Ok := by
  unfold Chain.then_
  split
  · exact h
  · split
    · exact h
    · rename_i h1 _
      exact h.next (by rw [Bool.not_eq_true] at h1; exact h1)
theorem ok_part_leaf (T : CT K mg A) (D : DT K mg A) : MOk P w K mg base CX0 3 A.c_Reading "part" ["self", "most"] (sp_part_leaf A K) := by
  obtain ⟨cl, f, fd, F, M, B⟩ := ok_Reading_part (P := P) (w := w) (base := base) T D (by decide) (ok_Leaf_ask T D)
  refine ⟨cl, f, fd, F.imp fun vs H Q E h => ?_, M, B⟩
  obtain ⟨r, a, c, m, ch, l, s, n, rfl, R, k⟩ := h
  obtain ⟨⟨rx, e⟩, ⟨⟨dx, e2⟩, hc⟩, ⟨dm, e3⟩, ra, rc, rm, ac, am, cm, ok⟩ := R
  refine ⟨r, rx, a, m, dm, dx, leF c, l, s, n, rfl, e, e3, rm, am, e2, rfl, ?_⟩
  have kp : ∀ b o, H b = some o → b ≠ m → (upd H m (.ins A.c_Meter dm (meF n s))) b = some o := fun b o z hb => by rw [upd_ne hb]; exact z
  have hc1 : Chain.At A K (upd H m (.ins A.c_Meter dm (meF n s))) c ch := hc.kept (N := fun b => b = m) cm kp fun b o z y => by subst z; rw [e3] at y; exact ins_no (Option.some.inj y).symm
  refine ⟨a, c, m, ch, n, s, rfl, ⟨⟨dx, kp _ _ e2 am⟩, hc1⟩, ok, ⟨dm, upd_same⟩, ac, am, cm, fun v H' hl hm ha k2 => ?_⟩
  exact k v H' ⟨⟨rx, k2 _ _ (kp _ _ e rm) rc rm⟩, hl, hm, ra, rc, rm, ac, am, cm, ok.then_ n⟩ ha fun b o z hb hb2 => k2 b o (kp b o z hb2) hb hb2
theorem ok_took_leaf (T : CT K mg A) (D : DT K mg A) : MOk P w K mg base CX0 1 A.c_Reading "took" ["self"] (fun vs H Q _ => ∃ r a c m ch l s, vs = [.ref r] ∧ ReadAt A K H r a c m ch l s ∧ Q (.int s) H) := by
  obtain ⟨cl, f, fd, F, M, B⟩ := ok_Reading_took (P := P) (w := w) (base := base) T D
  refine ⟨cl, f, fd, F.imp fun vs H Q E h => ?_, M, B⟩
  obtain ⟨r, a, c, m, ch, l, s, rfl, ⟨⟨rx, e⟩, _, ⟨dm, e3⟩, _⟩, q⟩ := h
  exact ⟨r, rx, a, m, dm, l, s, rfl, e, e3, q⟩
theorem ok_box_of_leaf (T : CT K mg A) (D : DT K mg A) : COk P w K mg base CX0 6 "box_of" ["tree"] (sp_leaf_of A K) := by
  have G_leaf_of := ok_leaf_of (P := P) (w := w) (base := base) T D
  refine COk.by D.box_of fun f fd F => ?_
  refine F.ok sc_box_of (fun vs H Q E h => ?_) (fun cdv Ar outer s H vs Q E hr h => ?_)
  · obtain ⟨v, f, rfl, _⟩ := h
    rfl
  · obtain ⟨v, f, rfl, hf, hg, k⟩ := h
    refine ⟨_, (pss_cons (ps_set (i := 1) sc_box_of.nd rfl (Or.inl rfl) (pe_ix ix_tup (pv 0) pe_int (fun _ _ => rfl)))
    (pss_cons (ps_if (pt_cmpR op_eq (pv 1) pe_str (nomark _))
      (pss_one (ps_never)) pss_nil)
    (pss_cons (ps_if (pt_cmpR op_eq (pv 1) pe_str (nomark _))
      (pss_one (ps_never)) pss_nil)
    (pss_cons (ps_if (pt_cmpR op_eq (pv 1) pe_str (nomark _))
      (pss_one (ps_never)) pss_nil)
    (pss_one (ps_ret (pe_c G_leaf_of (hr.mono (by first | decide | omega)) (pa_cons (pv 0) pa_nil)))))))), ?_⟩
    cases f with
    | frac t b => exact ⟨_, rfl, v, _, 0, _, rfl, rfl, hf, atI_nat (j := 0) rfl, _, rfl, rfl, _, rfl, iteF ⟨_, rfl, rfl, _, rfl, iteF ⟨_, rfl, rfl, _, rfl, iteF ⟨_, rfl, v, .frac t b, rfl, hf, hg, k⟩⟩⟩⟩
    | root t s b => exact ⟨_, rfl, v, _, 0, _, rfl, rfl, hf, atI_nat (j := 0) rfl, _, rfl, rfl, _, rfl, iteF ⟨_, rfl, rfl, _, rfl, iteF ⟨_, rfl, rfl, _, rfl, iteF ⟨_, rfl, v, .root t s b, rfl, hf, hg, k⟩⟩⟩⟩
    | ruled ps ring steps =>
      obtain ⟨p, q, u, hv, h3⟩ := id hf
      exact ⟨_, rfl, v, _, 0, _, rfl, rfl, hv, atI_nat (j := 0) rfl, _, rfl, rfl, _, rfl, iteF ⟨_, rfl, rfl, _, rfl, iteF ⟨_, rfl, rfl, _, rfl, iteF ⟨_, rfl, v, .ruled ps ring steps, rfl, hf, hg, k⟩⟩⟩⟩
def sp_reader_leaf (A : Ad) (K : PySem.W.Frag) : Sp := fun vs H Q _ => ∃ (v : Addr) (f : Leaf), vs = [.ref v] ∧ f.At K H v ∧ f.Good ∧
  ∀ r a c m ch H', ReadAt A K H' r a c m ch 0 0 → f.Starts ch → Same H H' → H r = none → H a = none → H c = none → H m = none → Q (.ref r) H'
theorem ok_reader_leaf (T : CT K mg A) (TT : TB K w mg A) (D : DT K mg A) : COk P w K mg base CX0 7 "reader" ["tree"] (sp_reader_leaf A K) := by
  have G_box_of := ok_box_of_leaf (P := P) (w := w) (base := base) T D
  have I_Reading := ok_Reading_init (P := P) (w := w) (base := base) T D
  have G_at := ok_check_at_depth (P := P) (w := w) (base := base) (k := 3) T TT D (by decide) (ok_check_fraction T D) (ok_check_root T D) (ok_check_ruled T D) (ok_no D.check_four) (ok_no D.check_eight) (ok_no D.check_power)
  have G_check_tree := ok_check_tree D G_at
  refine COk.by D.reader fun f fd F => ?_
  refine F.ok sc_reader (fun vs H Q E h => ?_) (fun cdv Ar outer s H vs Q E hr h => ?_)
  · obtain ⟨v, f, rfl, _⟩ := h
    rfl
  · obtain ⟨v, f, rfl, hf, hg, k⟩ := h
    refine ⟨_, (pss_cons (ps_expr (pe_c G_check_tree (hr.mono (by first | decide | omega)) (pa_cons (pv 0) pa_nil)))
    (pss_one (ps_ret (pe_mk I_Reading (hr.mono (by first | decide | omega)) (pa_cons (pe_c G_box_of (hr.mono (by first | decide | omega)) (pa_cons (pv 0) pa_nil)) pa_nil))))), ?_⟩
    have rest : ∀ H1, Same H H1 → (tRet (tMake A.c_Reading (sp_Reading_init A) [] E0 (tCons (tCall (sp_leaf_of A K) [] E0 (tCons (tVar 0) tNil)) tNil))) { nx := fun _ H' => Q .non H', rt := Q } [some (V.ref v)] H1 := fun H1 s1 => by
      refine ⟨_, rfl, v, f, rfl, hf.same s1, hg, fun a c ch H2 hl st ok s2 na nc nac => ?_⟩
      intro x dx nx nd ne
      refine ⟨x, dx, a, rfl, upd_same, fun m H3 nm hx hm kp => ⟨rfl, ?_⟩⟩
      have s3 : Same H2 H3 := fun b o e => kp b o (by rw [upd_ne (ne_of_none e nx), upd_ne (ne_of_none e nd)]; exact e) (ne_of_none e nx)
      obtain ⟨⟨da, e2⟩, hc⟩ := id hl
      obtain ⟨C, dc, fs, e3⟩ := hc.there
      have nm2 : H2 m = none := by
        cases q : H2 m with
        | none => rfl
        | some o =>
          have hmx : m ≠ x := fun z => by rw [z, upd_same] at nm; cases nm
          have hmd : m ≠ dx := fun z => by rw [z, upd_ne ne, upd_same] at nm; cases nm
          rw [upd_ne hmx, upd_ne hmd, q] at nm
          cases nm
      have hxm : x ≠ m := fun z => by rw [← z, upd_same] at nm; cases nm
      have ss : Same H H3 := (s1.trans s2).trans s3
      exact k x a c m ch H3 ⟨⟨dx, hx⟩, ⟨⟨da, s3 _ _ e2⟩, hc.same s3⟩, hm, (ne_of_none e2 nx).symm, (ne_of_none e3 nx).symm, hxm, nac, ne_of_none e2 nm2, ne_of_none e3 nm2, ok⟩ st ss ((s1.trans s2).free nx) (s1.free na) (s1.free nc) ((s1.trans s2).free nm2)
    cases f with
    | frac t b => exact ⟨_, rfl, _, rfl, v, "fraction", [.int t, .int b], 1, rfl, by decide, hf, .inl ⟨rfl, rfl, v, t, b, 1, rfl, hf, hg.1, hg.2.1, hg.2.2, fun H' s' => rest H' s'⟩⟩
    | root t s b => exact ⟨_, rfl, _, rfl, v, "root", [.int t, .int s, .int b], 1, rfl, by decide, hf, .inr (.inl ⟨rfl, rfl, v, t, s, b, 1, rfl, hf, hg.1, hg.2.1, hg.2.2.1, hg.2.2.2.1, hg.2.2.2.2, fun H' s' => rest H' s'⟩)⟩
    | ruled ps ring steps =>
      obtain ⟨p, q, u, hv, hp, hq, hu⟩ := id hf
      exact ⟨_, rfl, _, rfl, v, "ruled", [.ref p, .ref q, .ref u], 1, rfl, by decide, hv, .inr (.inr (.inl ⟨rfl, rfl, v, p, q, u, ps, ring, steps, 1, rfl, hv, hp, hq, hu, hg, fun H' s' => rest H' s'⟩))⟩
end
/-! ### what is told, as the laws hold it against what is due -/
def Ans.vals : Ans → List V
  | .part n => [.str "part", .int n]
  | .fin => [.str "end"]
  | .waits => [.str "waits"]
theorem ints_at' {ns : List Int} {i : Nat} {y : V} (h : (ns.map V.int)[i]? = some y) : ∃ z, ns[i]? = some z ∧ y = V.int z := by
  rw [List.getElem?_map] at h
  cases e : ns[i]? with
  | none => rw [e] at h; cases h
  | some z => rw [e] at h; exact ⟨z, rfl, (Option.some.inj h).symm⟩
def Ans.data : Ans → List PyData
  | .part n => [.str "part", .int n]
  | .fin => [.str "end"]
  | .waits => [.str "waits"]
section
variable {P : Program} {w : World} {K : PySem.W.Frag} {mg : Str → Option Value} {base : Heap} {A : Ad}
theorem Ans.At.tup (T : CT K mg A) {H : Hp} {v : V} {a : Ans} (h : a.At A H v) : ∃ p, v = .ref p ∧ SqT K H p a.vals := by
  cases a with
  | part n =>
    obtain ⟨p, e, hp⟩ := h
    exact ⟨p, e, SqT.of hp⟩
  | fin => exact ⟨_, h, T.t_END H⟩
  | waits => exact ⟨_, h, T.t_WAITS H⟩
theorem Ans.shaped (a : Ans) : SeqAt.shaped (.tuple a.data) = true := by
  have h1 : PyData.strOk "part" = true := by decide +kernel
  have h2 : PyData.strOk "end" = true := by decide +kernel
  have h3 : PyData.strOk "waits" = true := by decide +kernel
  cases a with
  | part n => simp [SeqAt.shaped, Ans.data, PyData.canLay0, PyData.canLayAll0, PyData.depth, PyData.depthAll, h1]
  | fin => simp [SeqAt.shaped, Ans.data, PyData.canLay0, PyData.canLayAll0, PyData.depth, PyData.depthAll, h2]
  | waits => simp [SeqAt.shaped, Ans.data, PyData.canLay0, PyData.canLayAll0, PyData.depth, PyData.depthAll, h3]
theorem Ans.dp {H : Hp} {p : Addr} (a : Ans) (h : SqT K H p a.vals) : Dp K H (.ref p) (.tuple a.data) := by
  cases a with
  | part n => exact .tup h (.cons (.str _) (.cons (.int n) .nil))
  | fin => exact .tup h (.cons (.str _) .nil)
  | waits => exact .tup h (.cons (.str _) .nil)
theorem ans_sq {H H' : Hp} {b c m : Addr} {xs : List V} (h : SqT K H b xs) (hc : ∃ C dx fs, H c = some (.ins C dx fs)) (hm : ∃ C dx fs, H m = some (.ins C dx fs)) (k : ∀ b o, H b = some o → b ≠ c → b ≠ m → H' b = some o) : SqT K H' b xs :=
  sqT_but (N := fun z => z = c ∨ z = m) h (fun b o e n => k b o e (fun z => n (.inl z)) fun z => n (.inr z)) fun b o e z => by
    rcases e with rfl | rfl
    · obtain ⟨C, dx, fs, e⟩ := hc; rw [e] at z; exact ins_no (Option.some.inj z).symm
    · obtain ⟨C, dx, fs, e⟩ := hm; rw [e] at z; exact ins_no (Option.some.inj z).symm
/-- what a leaf's reading tells is what is due -/
def sp_law_got (A : Ad) (K : PySem.W.Frag) : Sp := fun vs H Q _ => ∃ (r a c m d : Addr) (ch : Chain) (l s n : Int), vs = [.ref r, .int n, .ref d] ∧ ReadAt A K H r a c m ch l s ∧ SqT K H d (ch.ans n).vals ∧
  ∀ H', ReadAt A K H' r a c m (ch.then_ n) (n - ch.took n) (s + ch.took n) → (∀ b o, H b = some o → b ≠ c → b ≠ m → H' b = some o) → Q (.bl true) H'
end
/-! ### boxes: what is reckoned with their numbers -/
/-- as great as a number of a box may be -/
def capE : Nat := 10000000
@[irreducible] def bigN : Nat := 2 ^ capE
theorem bigN_eq : bigN = 2 ^ capE := by unfold bigN; rfl
theorem bigN_two : bigN + bigN = 2 ^ (capE + 1) := by rw [bigN_eq, Nat.pow_succ, Nat.mul_two]
def fits (z : Int) : Prop := z.natAbs < bigN
instance (z : Int) : Decidable (fits z) := inferInstanceAs (Decidable (z.natAbs < bigN))
theorem fits_of {z : Int} (h : z.natAbs < 2 ^ capE) : fits z := by rw [← bigN_eq] at h; exact h
theorem fits.lt {z : Int} (h : fits z) : z.natAbs < 2 ^ capE := by rw [← bigN_eq]; exact h
theorem fits_mul {x y : Int} (h : fits x) (h' : fits y) : CMulW x y := wide_mul (a := capE) (b := capE) h.lt h'.lt (by decide) (by decide) (by decide)
theorem fits_neg {x : Int} (h : fits x) : fits (-x) := by
  unfold fits at *
  omega
theorem bigN_pos : 0 < bigN := by rw [bigN_eq]; exact Nat.pow_pos (by decide)
theorem fits_mul' {x y : Int} (h : fits x) (h' : (y - 1).natAbs < bigN ∨ fits y) : CMulW x y := by
  refine wide_mul (a := capE) (b := capE + 1) h.lt ?_ (by decide) (by decide) (by decide)
  rw [← bigN_two]
  have p := bigN_pos
  unfold fits at h'
  omega
/-- // of great numbers: by _pylong where they are that great -/
theorem room_py {k : Nat} {A : Around} (h : Room k A) (hk : 34 ≤ k) : A.depth + Builtin.pylongFrames < recursionLimit := by
  have := h.dp
  show A.depth + 100 < recursionLimit
  omega
def CDivM (_ j : Int) : Prop := j ≠ 0
theorem op_fdivM {X : Cx} {k : Nat} (hS : ∀ b : Heap, Mod X.K X.mg b → b.NoSeer) (hT : X.prog.given.tree = none) (hr : Room k X.A) (hk : 34 ≤ k) (hst : X.stack = X.env :: X.outer) (hg : X.env.scope.isGenerator = false) (hc : X.env.scope.isCoroutine = false) :
    OpR X (binaryOp .FloorDiv) (rI CDivM fun i j => .int (i.fdiv j)) := by
  intro pins s σ H x y v u Q I rx ry h
  obtain ⟨i, j, rfl, rfl, hj, q⟩ := h
  obtain ⟨t, rfl⟩ := rx
  obtain ⟨t', rfl⟩ := ry
  refine PyProof.Rows.floordiv_int hj ⟨.int (i.fdiv j), H, I.tok _, ⟨_, rfl⟩, q⟩ (.inr (PylongRoom.of I.nolimit (room_py hr hk) ?_))
  exact SeerAt.of ((hS _ I.mod).keeps I.bk) hT (I.ok.frames.trans (congrArg some hst)) hg hc I.ok.blt I.ok.glob
def turnedOver (ns : List Int) (q : Int) : List Int := ns.drop (ns.length / 2) ++ List.zipWith (fun t u => t - q * u) (ns.take (ns.length / 2)) (ns.drop (ns.length / 2))
def fourCorners (ns : List Int) : List (Int × Int) := [(ns.getD 0 0, ns.getD 2 0), (ns.getD 0 0 + ns.getD 1 0, ns.getD 2 0 + ns.getD 3 0)]
def eightCorners (ns : List Int) : List (Int × Int) :=
  [(ns.getD 0 0, ns.getD 4 0), (ns.getD 0 0 + ns.getD 1 0, ns.getD 4 0 + ns.getD 5 0), (ns.getD 0 0 + ns.getD 2 0, ns.getD 4 0 + ns.getD 6 0),
    (ns.getD 0 0 + ns.getD 1 0 + ns.getD 2 0 + ns.getD 3 0, ns.getD 4 0 + ns.getD 5 0 + ns.getD 6 0 + ns.getD 7 0)]
def withFirst (ns : List Int) (q : Int) : List Int :=
  [ns.getD 0 0 * q + ns.getD 2 0, ns.getD 1 0 * q + ns.getD 3 0, ns.getD 0 0, ns.getD 1 0, ns.getD 4 0 * q + ns.getD 6 0, ns.getD 5 0 * q + ns.getD 7 0, ns.getD 4 0, ns.getD 5 0]
def withSecond (ns : List Int) (q : Int) : List Int :=
  [ns.getD 0 0 * q + ns.getD 1 0, ns.getD 0 0, ns.getD 2 0 * q + ns.getD 3 0, ns.getD 2 0, ns.getD 4 0 * q + ns.getD 5 0, ns.getD 4 0, ns.getD 6 0 * q + ns.getD 7 0, ns.getD 6 0]
def withOne (ns : List Int) (q : Int) : List Int := [ns.getD 0 0 * q + ns.getD 1 0, ns.getD 0 0, ns.getD 2 0 * q + ns.getD 3 0, ns.getD 2 0]
/-- the corners, none below nought where the first one is not -/
def flipped (cs : List (Int × Int)) : List (Int × Int) := if (cs.getD 0 (0, 0)).2 < 0 then cs.map fun c => (-c.1, -c.2) else cs
def surePart (cs : List (Int × Int)) : Option Int :=
  let ds := flipped cs
  if ds.all (fun d => decide (0 < d.2)) then
    let q := (ds.getD 0 (0, 0)).1.fdiv (ds.getD 0 (0, 0)).2
    if ds.all (fun d => decide (q * d.2 ≤ d.1) && decide (d.1 ≤ (q + 1) * d.2)) then some q else none
  else none
/-- pairs of numbers, one behind another -/
def PairsAt (K : PySem.W.Frag) (H : Hp) : List Addr → List (Int × Int) → Prop
  | [], [] => True
  | t :: ts, c :: cs => SqT K H t [.int c.1, .int c.2] ∧ PairsAt K H ts cs
  | _, _ => False
theorem PairsAt.len {K : PySem.W.Frag} {H : Hp} : ∀ {ts : List Addr} {cs : List (Int × Int)}, PairsAt K H ts cs → ts.length = cs.length
  | [], [], _ => rfl
  | _ :: ts, _ :: cs, h => by rw [List.length_cons, List.length_cons, PairsAt.len h.2]
  | [], _ :: _, h => h.elim
  | _ :: _, [], h => h.elim
theorem PairsAt.same {K : PySem.W.Frag} {H H' : Hp} (s : Same H H') : ∀ {ts : List Addr} {cs : List (Int × Int)}, PairsAt K H ts cs → PairsAt K H' ts cs
  | [], [], _ => trivial
  | _ :: ts, _ :: cs, h => ⟨sqT_same h.1 s, PairsAt.same s h.2⟩
  | [], _ :: _, h => h.elim
  | _ :: _, [], h => h.elim
theorem PairsAt.at_ {K : PySem.W.Frag} {H : Hp} : ∀ {ts : List Addr} {cs : List (Int × Int)}, PairsAt K H ts cs → ∀ {i : Nat} {x : V}, (ts.map V.ref)[i]? = some x → ∃ t c, x = .ref t ∧ cs[i]? = some c ∧ SqT K H t [.int c.1, .int c.2]
  | [], [], _, i, x, e => by simp at e
  | t :: ts, c :: cs, h, 0, x, e => ⟨t, c, (Option.some.inj e).symm, rfl, h.1⟩
  | t :: ts, c :: cs, h, i + 1, x, e => by
    obtain ⟨t2, c2, e1, e2, e3⟩ := PairsAt.at_ h.2 (i := i) (x := x) (by simpa using e)
    exact ⟨t2, c2, e1, by simpa using e2, e3⟩
  | [], _ :: _, h, _, _, _ => h.elim
  | _ :: _, [], h, _, _, _ => h.elim
theorem PairsAt.snoc {K : PySem.W.Frag} {H : Hp} {t : Addr} {c : Int × Int} (hc : SqT K H t [.int c.1, .int c.2]) : ∀ {ts : List Addr} {cs : List (Int × Int)}, PairsAt K H ts cs → PairsAt K H (ts ++ [t]) (cs ++ [c])
  | [], [], _ => ⟨hc, trivial⟩
  | _ :: ts, _ :: cs, h => ⟨h.1, PairsAt.snoc hc h.2⟩
  | [], _ :: _, h => h.elim
  | _ :: _, [], h => h.elim
section
variable {P : Program} [NoTree P] {w : World} {K : PySem.W.Frag} {mg : Str → Option Value} {base : Heap} {A : Ad}
open RZ
/-- a comprehension over zip of two tuples of one length -/
theorem lc_zipT {K : PySem.W.Frag} {a b : Addr} {xs ys : List V} {g : TG} {tt : TT} {te : TE} {vs : List Nat} {σ : L2.St} {H1 : Hp} {D : Addr} {Qd : Hp → Prop} (hl : xs.length = ys.length) (Pv : Nat → Hp → Prop) (h0 : Pv 0 (upd H1 D (.lst []))) (hq : ∀ i H, i ≤ xs.length → Pv i H → SqT K H a xs ∧ SqT K H b ys)
    (hs : ∀ (i : Nat) (x y : V) (T : Addr) (H : Hp), xs[i]? = some x → ys[i]? = some y → Pv i H → H T = none → g (.ref T) (wipe σ vs) (upd H T (.tup [x, y])) fun σ2 H2 => wipe σ2 vs = wipe σ vs ∧ tt σ2 H2 fun b H3 =>
      if b = true then te σ2 H3 fun y H4 => ∃ acc, H4 D = some (.lst acc) ∧ acc.length < sizeLine ∧ Pv (i + 1) (upd H4 D (.lst (acc ++ [y]))) else Pv (i + 1) H3) (hd : ∀ H, Pv xs.length H → Qd H) :
    ∃ W : Nat → Nat → Hp → Prop, (∃ m, W 0 m (upd H1 D (.lst []))) ∧ ∀ i m H, W i m H →
      ((ItzT K a b).stop i H ∧ Qd H) ∨ ((ItzT K a b).go i H ∧ ∃ Nx : Hp → Prop, (∀ H', Nx H' → ∃ m', m' < m ∧ W (i + 1) m' H') ∧ ∀ x H', (ItzT K a b).yld i H x H' → g x (wipe σ vs) H' fun σ2 H2 => wipe σ2 vs = wipe σ vs ∧ tt σ2 H2 fun b H3 =>
        if b = true then te σ2 H3 fun y H4 => ∃ acc, H4 D = some (.lst acc) ∧ acc.length < sizeLine ∧ Nx (upd H4 D (.lst (acc ++ [y]))) else Nx H3) := by
  refine ⟨fun i m H => m = xs.length - i ∧ i ≤ xs.length ∧ Pv i H, ⟨xs.length, by simp, Nat.zero_le _, h0⟩, ?_⟩
  rintro i m H ⟨rfl, hi, p⟩
  obtain ⟨qx, qy⟩ := hq i H hi p
  by_cases hlt : i < xs.length
  · have hx : xs[i]? = some xs[i] := List.getElem?_eq_getElem hlt
    have hlt2 : i < ys.length := by omega
    have hy : ys[i]? = some ys[i] := List.getElem?_eq_getElem hlt2
    refine .inr ⟨⟨xs, ys, _, _, qx, qy, hx, hy⟩, Pv (i + 1), fun H' p' => ⟨xs.length - (i + 1), by omega, rfl, hlt, p'⟩, fun x H' y => ?_⟩
    obtain ⟨T, x1, y1, rfl, nT, rfl, e1, e2⟩ := y
    exact hs i x1 y1 T H (e1 xs qx) (e2 ys qy) p nT
  · have e : i = xs.length := by omega
    subst e
    exact .inl ⟨⟨xs, ys, qx, qy, .inl (Nat.le_refl _)⟩, hd H p⟩
theorem cut_takeB (xs : List V) (n : Nat) : cutV xs none (some (n : Int)) = xs.take n := by
  unfold cutV
  rw [HT.sIx_none, HT.sIx_nat, List.drop_zero, Nat.sub_zero]
  rcases Nat.le_total n xs.length with h | h
  · rw [Nat.min_eq_left h]
  · rw [Nat.min_eq_right h, List.take_of_length_le (Nat.le_refl _), List.take_of_length_le h]
theorem cut_dropB (xs : List V) (n : Nat) : cutV xs (some (n : Int)) none = xs.drop n := by
  unfold cutV
  rw [HT.sIx_none, HT.sIx_nat]
  rcases Nat.le_total n xs.length with h | h
  · rw [Nat.min_eq_left h, List.take_of_length_le (Nat.le_of_eq List.length_drop)]
  · rw [Nat.min_eq_right h, List.take_of_length_le (Nat.le_of_eq List.length_drop), List.drop_of_length_le (Nat.le_refl _), List.drop_of_length_le h]
def sp_turned_over (K : PySem.W.Frag) : Sp := fun vs H Q _ => ∃ (p : Addr) (ns : List Int) (q : Int), vs = [.ref p, .int q] ∧ SqT K H p (ns.map V.int) ∧ (∃ h, ns.length = 2 * h ∧ 0 < h ∧ h ≤ 4) ∧ (∀ z ∈ ns, fits z) ∧ fits q ∧
  ∀ r H', SqT K H' r ((turnedOver ns q).map V.int) → Same H H' → Q (.ref r) H'
theorem ok_turned_over (T : CT K mg A) (D : DT K mg A) : COk P w K mg base CX0 1 "turned_over" ["numbers", "part"] (sp_turned_over K) := by
  refine COk.by D.turned_over fun f fd F => ?_
  refine F.ok sc_turned_over (fun vs H Q E h => ?_) (fun cdv Ar outer s H vs Q E hr h => ?_)
  · obtain ⟨p, ns, q, rfl, _⟩ := h
    rfl
  · obtain ⟨p, ns, q, rfl, hp, ⟨h, hl, h0, h4⟩, hf, hq, k⟩ := h
    refine ⟨_, (pss_cons (ps_set (i := 2) sc_turned_over.nd rfl (Or.inl rfl) (pe_op op_fdiv (pe_callB call_len_seq (by rfl) T.b_len (by decide +kernel) (pa_cons (pv 0) pa_nil)) pe_int))
    (pss_cons (ps_par (i := 3) (j := 4) (by rfl) sc_turned_over.nd rfl rfl (by decide) rfl rfl (pa_cons (pe_slice sl_tupA (pv 0) po_none (po_some (pv 2))) (pa_cons (pe_slice sl_tupA (pv 0) (po_some (pv 2)) po_none) pa_nil)) (by rfl))
    (pss_cons (ps_setLc (i := 5) (own := [("top", 6), ("under", 7)]) (g := gTup K 2 (gCons (gName 6) (gCons (gName 7) gNil))) (tt := tYes) rfl sc_turned_over.nd rfl rfl (sw_true rfl rfl rfl (by decide +kernel)) (RZ.pi_zipA (by rfl) T.b_zip (pa_cons (pv 3) (pa_cons (pv 4) pa_nil))) (blkOk_by (own := [("top", 6), ("under", 7)]) (N := ["numbers", "part", "half", "above", "below", "left", "top", "under"]) (sc := defScope s_turned_over) (by decide +kernel)) (fun _ _ _ _ _ => (pg_tup rfl (pgs_cons (pg_name (i := 6) sc_turned_over.nd rfl (Or.inl rfl)) (pgs_cons (pg_name (i := 7) sc_turned_over.nd rfl (Or.inl rfl)) pgs_nil)))) (fun _ _ _ _ _ => pts_nil) (fun _ _ _ _ _ => (pe_op op_sub (pv 6) (pe_op op_mulW (pv 1) (pv 7)))))
    (pss_one (ps_ret (pe_op op_catC (pv 4) (pe_callTy call_tuple_of (by rfl) T.b_tuple (by decide +kernel) (pa_cons (pv 5) pa_nil)))))))), ?_⟩
    have e1 : (((ns.map V.int).length : Nat) : Int) / 2 = ((h : Nat) : Int) := by rw [List.length_map, hl]; omega
    have nf : ¬ (HT.sIx (ns.map V.int).length 0 none = 0 ∧ HT.sIx (ns.map V.int).length (ns.map V.int).length (some (h : Int)) = (ns.map V.int).length) := fun z => by
      have := z.2
      rw [HT.sIx_nat, List.length_map] at this
      omega
    have c1 : cutV (ns.map V.int) none (some (h : Int)) = (ns.take h).map V.int := by
      rw [cut_takeB, List.map_take]
    have c2 : cutV (ns.map V.int) (some (h : Int)) none = (ns.drop h).map V.int := by
      rw [cut_dropB, List.map_drop]
    have lt : (ns.take h).length = h := by rw [List.length_take]; omega
    have ld : (ns.drop h).length = h := by rw [List.length_drop]; omega
    have ee : turnedOver ns q = ns.drop h ++ List.zipWith (fun t u => t - q * u) (ns.take h) (ns.drop h) := by
      unfold turnedOver
      rw [show ns.length / 2 = h by omega]
    refine ⟨_, rfl, p, _, rfl, .inr hp, _, _, rfl, rfl, ⟨by decide, by decide⟩, ?_⟩
    show tSeq _ _ _ [some (V.ref p), some (V.int q), some (V.int ((((ns.map V.int).length : Nat) : Int) / 2)), none, none, none, none, none] H
    rw [e1]
    refine ⟨_, rfl, _, rfl, _, rfl, p, _, rfl, hp, fun z => absurd z nf, fun _ u nu => ?_⟩
    have s1 := same_upd (o := .tup (cutV (ns.map V.int) none (some (h : Int)))) nu
    have hu : SqT K (upd H u (.tup (cutV (ns.map V.int) none (some (h : Int))))) u ((ns.take h).map V.int) := by rw [← c1]; exact SqT.of upd_same
    generalize upd H u (.tup (cutV (ns.map V.int) none (some (h : Int)))) = H1 at s1 hu ⊢
    have hp1 := sqT_same hp s1
    refine ⟨_, rfl, _, rfl, _, rfl, p, _, rfl, hp1, fun z => absurd z (not_whole h0 (by rw [List.length_map]; omega)), fun _ v nv => ?_⟩
    have s2 := same_upd (o := .tup (cutV (ns.map V.int) (some (h : Int)) none)) nv
    have hv : SqT K (upd H1 v (.tup (cutV (ns.map V.int) (some (h : Int)) none))) v ((ns.drop h).map V.int) := by rw [← c2]; exact SqT.of upd_same
    generalize upd H1 v (.tup (cutV (ns.map V.int) (some (h : Int)) none)) = H2 at s2 hv ⊢
    have hu2 := sqT_same hu s2
    refine ⟨_, _, rfl, ?_⟩
    refine ⟨_, rfl, _, rfl, u, v, _, _, rfl, .inr ⟨hu2, hv, fun D0 nD => lc_zipT (by rw [List.length_map, List.length_map, lt, ld]) (fun i H' => Same H2 H' ∧ H' D0 = some (.lst (((List.zipWith (fun t u => t - q * u) (ns.take h) (ns.drop h)).take i).map V.int))) ⟨same_upd nD, upd_same⟩ (fun i H' _ z => ⟨sqT_same hu2 z.1, sqT_same hv z.1⟩) ?_ ?_⟩⟩
    · rintro i x y T' H' hx hy ⟨s3, hD⟩ nT
      rw [List.getElem?_map] at hx hy
      cases ex : (ns.take h)[i]? with
      | none => rw [ex] at hx; cases hx
      | some t =>
        cases ey : (ns.drop h)[i]? with
        | none => rw [ey] at hy; cases hy
        | some b =>
          rw [ex] at hx
          rw [ey] at hy
          cases hx
          cases hy
          have hb : fits b := hf b (List.mem_of_mem_drop (List.mem_of_getElem? ey))
          have s4 := same_upd (o := .tup [V.int t, V.int b]) nT
          refine ⟨T', _, rfl, SqT.of upd_same, rfl, _, _, rfl, _, _, rfl, rfl, rfl, ?_⟩
          refine ⟨_, rfl, _, rfl, _, rfl, _, _, rfl, rfl, fits_mul hq hb, _, _, rfl, rfl, ?_⟩
          have hi : i < h := by
            have := (List.getElem?_eq_some_iff.mp ex).1
            omega
          refine ⟨_, s4 _ _ hD, ?_, ?_, ?_⟩
          · rw [List.length_map, List.length_take]
            exact Nat.lt_of_le_of_lt (Nat.min_le_left _ _) (Nat.lt_of_lt_of_le (show i < 4 by omega) (by decide))
          · intro c o z
            rw [upd_ne (ne_of_none z nD)]
            exact s4 _ _ (s3 _ _ z)
          · rw [upd_same, List.take_add_one, List.getElem?_zipWith, ex, ey]
            simp
    · rintro H3 ⟨s3, hD⟩
      rw [List.length_map, lt, List.take_of_length_le (by rw [List.length_zipWith]; omega)] at hD
      have hv3 := sqT_same hv s3
      refine ⟨_, rfl, _, rfl, D0, _, rfl, .inl ⟨SqL.of hD, fun l nl => ?_⟩⟩
      have s4 := same_upd (o := .tup ((List.zipWith (fun t u => t - q * u) (ns.take h) (ns.drop h)).map V.int)) nl
      refine ⟨v, l, _, _, rfl, rfl, sqT_same hv3 s4, SqT.of upd_same, ?_, fun c H' s5 hc => ?_⟩
      · rw [List.length_map, List.length_map, List.length_zipWith, lt, ld]
        exact Nat.le_trans (show h + min h h ≤ 8 by omega) (by decide)
      · refine k c H' ?_ ((((s1.trans s2).trans s3).trans s4).trans s5)
        rw [ee, List.map_append]
        exact hc
end
/-! ### boxes: corners, parts taken, the sure part -/
section
variable {P : Program} [NoTree P] {w : World} {K : PySem.W.Frag} {mg : Str → Option Value} {base : Heap} {A : Ad}
theorem fits_mul1 {x y : Int} (h : fits x) (h' : fits y) : CMulW (x + 1) y := by
  refine wide_mul (a := capE + 1) (b := capE) ?_ h'.lt (by decide) (by decide) (by decide)
  rw [← bigN_two]
  have p := bigN_pos
  unfold fits at h
  omega
theorem sqL_same {H H' : Hp} {a : Addr} {xs : List V} (h : SqL K H a xs) (k : Same H H') : SqL K H' a xs := by
  rcases h with (h | ⟨o, h⟩) | h
  · exact .inl (.inl (k _ _ h))
  · exact .inl (.inr ⟨o, k _ _ h⟩)
  · exact .inr h
theorem sqT_lst {H : Hp} {a d : Addr} {xs ys : List V} {o : HO} (h : SqT K H a xs) (hd : H d = some (.lst ys)) : SqT K (upd H d o) a xs :=
  sqT_but (N := fun c => c = d) h (fun c u e n => by rw [upd_ne n]; exact e) fun c u e z => by
    subst e
    rw [hd] at z
    cases z
    exact ⟨fun _ q => (by cases q), fun _ _ q => (by cases q)⟩
theorem PairsAt.lst {H : Hp} {d : Addr} {ys : List V} {o : HO} (hd : H d = some (.lst ys)) : ∀ {ts : List Addr} {cs : List (Int × Int)}, PairsAt K H ts cs → PairsAt K (upd H d o) ts cs
  | [], [], _ => trivial
  | _ :: ts, _ :: cs, h => ⟨sqT_lst h.1 hd, PairsAt.lst hd h.2⟩
  | [], _ :: _, h => h.elim
  | _ :: _, [], h => h.elim
/-- the corners' list -/
def CornersAt (K : PySem.W.Frag) (H : Hp) (l : Addr) (cs : List (Int × Int)) : Prop := ∃ ts : List Addr, SqL K H l (ts.map V.ref) ∧ PairsAt K H ts cs
def sp_four_corners (K : PySem.W.Frag) : Sp := fun vs H Q _ => ∃ (p : Addr) (ns : List Int), vs = [.ref p] ∧ SqT K H p (ns.map V.int) ∧ ns.length = 4 ∧
  ∀ l H', CornersAt K H' l (fourCorners ns) → Same H H' → Q (.ref l) H'
theorem ok_four_corners (T : CT K mg A) (D : DT K mg A) : COk P w K mg base CX0 1 "four_corners" ["numbers"] (sp_four_corners K) := by
  refine COk.by D.four_corners fun f fd F => ?_
  refine F.ok sc_four_corners (fun vs H Q E h => ?_) (fun cdv Ar outer s H vs Q E hr h => ?_)
  · obtain ⟨p, ns, rfl, _⟩ := h
    rfl
  · obtain ⟨p, ns, rfl, hp, hl, k⟩ := h
    refine ⟨_, (pss_cons (ps_asg (pv 0) (pg_tup rfl (pgs_cons (pg_name (i := 1) sc_four_corners.nd rfl (Or.inl rfl)) (pgs_cons (pg_name (i := 2) sc_four_corners.nd rfl (Or.inl rfl)) (pgs_cons (pg_name (i := 3) sc_four_corners.nd rfl (Or.inl rfl)) (pgs_cons (pg_name (i := 4) sc_four_corners.nd rfl (Or.inl rfl)) pgs_nil))))))
    (pss_one (ps_ret (pe_lst (pa_cons (pe_tup (pa_cons (pv 1) (pa_cons (pv 3) pa_nil))) (pa_cons (pe_tup (pa_cons (pe_op op_add (pv 1) (pv 2)) (pa_cons (pe_op op_add (pv 3) (pv 4)) pa_nil))) pa_nil)))))), ?_⟩
    match ns, hl with
    | [a, b, c, d], _ =>
      refine ⟨_, rfl, p, _, rfl, hp, rfl, _, _, rfl, _, _, rfl, _, _, rfl, _, _, rfl, rfl, ?_⟩
      refine ⟨_, rfl, _, rfl, (by show 2 ≤ sizeLine; decide), fun q nq => ?_⟩
      have s1 := same_upd (o := .tup [V.int a, .int c]) nq
      refine ⟨_, rfl, _, rfl, _, _, rfl, rfl, _, rfl, _, rfl, _, _, rfl, rfl, (by show 2 ≤ sizeLine; decide), fun r nr => ?_⟩
      have s2 := same_upd (o := .tup [V.int (a + b), .int (c + d)]) nr
      refine ⟨(by show 2 ≤ sizeLine; decide), fun l nl => ?_⟩
      have s3 := same_upd (o := .lst [V.ref q, .ref r]) nl
      exact k l _ ⟨[q, r], SqL.of upd_same, sqT_same (SqT.of upd_same) (s2.trans s3), sqT_same (SqT.of upd_same) s3, trivial⟩ ((s1.trans s2).trans s3)
def sp_eight_corners (K : PySem.W.Frag) : Sp := fun vs H Q _ => ∃ (p : Addr) (ns : List Int), vs = [.ref p] ∧ SqT K H p (ns.map V.int) ∧ ns.length = 8 ∧
  ∀ l H', CornersAt K H' l (eightCorners ns) → Same H H' → Q (.ref l) H'
theorem ok_eight_corners (T : CT K mg A) (D : DT K mg A) : COk P w K mg base CX0 1 "eight_corners" ["numbers"] (sp_eight_corners K) := by
  refine COk.by D.eight_corners fun f fd F => ?_
  refine F.ok sc_eight_corners (fun vs H Q E h => ?_) (fun cdv Ar outer s H vs Q E hr h => ?_)
  · obtain ⟨p, ns, rfl, _⟩ := h
    rfl
  · obtain ⟨p, ns, rfl, hp, hl, k⟩ := h
    refine ⟨_, (pss_cons (ps_asg (pv 0) (pg_tup rfl (pgs_cons (pg_name (i := 1) sc_eight_corners.nd rfl (Or.inl rfl)) (pgs_cons (pg_name (i := 2) sc_eight_corners.nd rfl (Or.inl rfl)) (pgs_cons (pg_name (i := 3) sc_eight_corners.nd rfl (Or.inl rfl)) (pgs_cons (pg_name (i := 4) sc_eight_corners.nd rfl (Or.inl rfl)) (pgs_cons (pg_name (i := 5) sc_eight_corners.nd rfl (Or.inl rfl)) (pgs_cons (pg_name (i := 6) sc_eight_corners.nd rfl (Or.inl rfl)) (pgs_cons (pg_name (i := 7) sc_eight_corners.nd rfl (Or.inl rfl)) (pgs_cons (pg_name (i := 8) sc_eight_corners.nd rfl (Or.inl rfl)) pgs_nil))))))))))
    (pss_one (ps_ret (pe_lst (pa_cons (pe_tup (pa_cons (pv 1) (pa_cons (pv 5) pa_nil))) (pa_cons (pe_tup (pa_cons (pe_op op_add (pv 1) (pv 2)) (pa_cons (pe_op op_add (pv 5) (pv 6)) pa_nil))) (pa_cons (pe_tup (pa_cons (pe_op op_add (pv 1) (pv 3)) (pa_cons (pe_op op_add (pv 5) (pv 7)) pa_nil))) (pa_cons (pe_tup (pa_cons (pe_op op_add (pe_op op_add (pe_op op_add (pv 1) (pv 2)) (pv 3)) (pv 4)) (pa_cons (pe_op op_add (pe_op op_add (pe_op op_add (pv 5) (pv 6)) (pv 7)) (pv 8)) pa_nil))) pa_nil)))))))), ?_⟩
    match ns, hl with
    | [a, b, c, d, e, f, g, h], _ =>
      refine ⟨_, rfl, p, _, rfl, hp, rfl, _, _, rfl, _, _, rfl, _, _, rfl, _, _, rfl, _, _, rfl, _, _, rfl, _, _, rfl, _, _, rfl, rfl, ?_⟩
      refine ⟨_, rfl, _, rfl, (by show 2 ≤ sizeLine; decide), fun q nq => ?_⟩
      have s1 := same_upd (o := .tup [V.int a, .int e]) nq
      refine ⟨_, rfl, _, rfl, _, _, rfl, rfl, _, rfl, _, rfl, _, _, rfl, rfl, (by show 2 ≤ sizeLine; decide), fun r nr => ?_⟩
      have s2 := same_upd (o := .tup [V.int (a + b), .int (e + f)]) nr
      refine ⟨_, rfl, _, rfl, _, _, rfl, rfl, _, rfl, _, rfl, _, _, rfl, rfl, (by show 2 ≤ sizeLine; decide), fun t nt => ?_⟩
      have s3 := same_upd (o := .tup [V.int (a + c), .int (e + g)]) nt
      refine ⟨_, rfl, _, rfl, _, _, rfl, rfl, _, rfl, _, _, rfl, rfl, _, rfl, _, _, rfl, rfl, _, rfl, _, rfl, _, _, rfl, rfl, _, rfl, _, _, rfl, rfl, _, rfl, _, _, rfl, rfl, (by show 2 ≤ sizeLine; decide), fun u nu => ?_⟩
      have s4 := same_upd (o := .tup [V.int (a + b + c + d), .int (e + f + g + h)]) nu
      refine ⟨(by show 4 ≤ sizeLine; decide), fun l nl => ?_⟩
      have s5 := same_upd (o := .lst [V.ref q, .ref r, .ref t, .ref u]) nl
      exact k l _ ⟨[q, r, t, u], SqL.of upd_same, sqT_same (SqT.of upd_same) (((s2.trans s3).trans s4).trans s5), sqT_same (SqT.of upd_same) ((s3.trans s4).trans s5), sqT_same (SqT.of upd_same) (s4.trans s5), sqT_same (SqT.of upd_same) s5, trivial⟩ ((((s1.trans s2).trans s3).trans s4).trans s5)
def sp_with (K : PySem.W.Frag) (g : List Int → Int → List Int) : Sp := fun vs H Q _ => ∃ (p : Addr) (ns : List Int) (q : Int), vs = [.ref p, .int q] ∧ SqT K H p (ns.map V.int) ∧ ns.length = 8 ∧ (∀ z ∈ ns, fits z) ∧ fits q ∧
  ∀ r H', SqT K H' r ((g ns q).map V.int) → Same H H' → Q (.ref r) H'
theorem ok_with_first_part (T : CT K mg A) (D : DT K mg A) : COk P w K mg base CX0 1 "with_first_part" ["numbers", "part"] (sp_with K withFirst) := by
  refine COk.by D.with_first_part fun f fd F => ?_
  refine F.ok sc_with_first_part (fun vs H Q E h => ?_) (fun cdv Ar outer s H vs Q E hr h => ?_)
  · obtain ⟨p, ns, q, rfl, _⟩ := h
    rfl
  · obtain ⟨p, ns, q, rfl, hp, hl, hf, hq, k⟩ := h
    refine ⟨_, (pss_cons (ps_asg (pv 0) (pg_tup rfl (pgs_cons (pg_name (i := 2) sc_with_first_part.nd rfl (Or.inl rfl)) (pgs_cons (pg_name (i := 3) sc_with_first_part.nd rfl (Or.inl rfl)) (pgs_cons (pg_name (i := 4) sc_with_first_part.nd rfl (Or.inl rfl)) (pgs_cons (pg_name (i := 5) sc_with_first_part.nd rfl (Or.inl rfl)) (pgs_cons (pg_name (i := 6) sc_with_first_part.nd rfl (Or.inl rfl)) (pgs_cons (pg_name (i := 7) sc_with_first_part.nd rfl (Or.inl rfl)) (pgs_cons (pg_name (i := 8) sc_with_first_part.nd rfl (Or.inl rfl)) (pgs_cons (pg_name (i := 9) sc_with_first_part.nd rfl (Or.inl rfl)) pgs_nil))))))))))
    (pss_one (ps_ret (pe_tup (pa_cons (pe_op op_add (pe_op op_mulW (pv 2) (pv 1)) (pv 4)) (pa_cons (pe_op op_add (pe_op op_mulW (pv 3) (pv 1)) (pv 5)) (pa_cons (pv 2) (pa_cons (pv 3) (pa_cons (pe_op op_add (pe_op op_mulW (pv 6) (pv 1)) (pv 8)) (pa_cons (pe_op op_add (pe_op op_mulW (pv 7) (pv 1)) (pv 9)) (pa_cons (pv 6) (pa_cons (pv 7) pa_nil)))))))))))), ?_⟩
    match ns, hl with
    | [a, b, c, d, e, f, g, h], _ =>
      have ma : CMulW a q := fits_mul (hf a (by simp)) hq
      have mb : CMulW b q := fits_mul (hf b (by simp)) hq
      have me : CMulW e q := fits_mul (hf e (by simp)) hq
      have mf : CMulW f q := fits_mul (hf f (by simp)) hq
      refine ⟨_, rfl, p, _, rfl, hp, rfl, _, _, rfl, _, _, rfl, _, _, rfl, _, _, rfl, _, _, rfl, _, _, rfl, _, _, rfl, _, _, rfl, rfl, ?_⟩
      refine ⟨_, rfl, _, rfl, _, _, rfl, rfl, ma, _, rfl, _, _, rfl, rfl, _, rfl, _, rfl, _, _, rfl, rfl, mb, _, rfl, _, _, rfl, rfl, _, rfl, _, rfl, _, rfl, _, rfl, _, _, rfl, rfl, me, _, rfl, _, _, rfl, rfl, _, rfl, _, rfl, _, _, rfl, rfl, mf, _, rfl, _, _, rfl, rfl, _, rfl, _, rfl, (by show 8 ≤ sizeLine; decide), fun r nr => ?_⟩
      exact k r _ (SqT.of upd_same) (same_upd nr)
theorem ok_with_second_part (T : CT K mg A) (D : DT K mg A) : COk P w K mg base CX0 1 "with_second_part" ["numbers", "part"] (sp_with K withSecond) := by
  refine COk.by D.with_second_part fun f fd F => ?_
  refine F.ok sc_with_second_part (fun vs H Q E h => ?_) (fun cdv Ar outer s H vs Q E hr h => ?_)
  · obtain ⟨p, ns, q, rfl, _⟩ := h
    rfl
  · obtain ⟨p, ns, q, rfl, hp, hl, hf, hq, k⟩ := h
    refine ⟨_, (pss_cons (ps_asg (pv 0) (pg_tup rfl (pgs_cons (pg_name (i := 2) sc_with_second_part.nd rfl (Or.inl rfl)) (pgs_cons (pg_name (i := 3) sc_with_second_part.nd rfl (Or.inl rfl)) (pgs_cons (pg_name (i := 4) sc_with_second_part.nd rfl (Or.inl rfl)) (pgs_cons (pg_name (i := 5) sc_with_second_part.nd rfl (Or.inl rfl)) (pgs_cons (pg_name (i := 6) sc_with_second_part.nd rfl (Or.inl rfl)) (pgs_cons (pg_name (i := 7) sc_with_second_part.nd rfl (Or.inl rfl)) (pgs_cons (pg_name (i := 8) sc_with_second_part.nd rfl (Or.inl rfl)) (pgs_cons (pg_name (i := 9) sc_with_second_part.nd rfl (Or.inl rfl)) pgs_nil))))))))))
    (pss_one (ps_ret (pe_tup (pa_cons (pe_op op_add (pe_op op_mulW (pv 2) (pv 1)) (pv 3)) (pa_cons (pv 2) (pa_cons (pe_op op_add (pe_op op_mulW (pv 4) (pv 1)) (pv 5)) (pa_cons (pv 4) (pa_cons (pe_op op_add (pe_op op_mulW (pv 6) (pv 1)) (pv 7)) (pa_cons (pv 6) (pa_cons (pe_op op_add (pe_op op_mulW (pv 8) (pv 1)) (pv 9)) (pa_cons (pv 8) pa_nil)))))))))))), ?_⟩
    match ns, hl with
    | [a, b, c, d, e, f, g, h], _ =>
      have ma : CMulW a q := fits_mul (hf a (by simp)) hq
      have mc : CMulW c q := fits_mul (hf c (by simp)) hq
      have me : CMulW e q := fits_mul (hf e (by simp)) hq
      have mg' : CMulW g q := fits_mul (hf g (by simp)) hq
      refine ⟨_, rfl, p, _, rfl, hp, rfl, _, _, rfl, _, _, rfl, _, _, rfl, _, _, rfl, _, _, rfl, _, _, rfl, _, _, rfl, _, _, rfl, rfl, ?_⟩
      refine ⟨_, rfl, _, rfl, _, _, rfl, rfl, ma, _, rfl, _, _, rfl, rfl, _, rfl, _, rfl, _, rfl, _, _, rfl, rfl, mc, _, rfl, _, _, rfl, rfl, _, rfl, _, rfl, _, rfl, _, _, rfl, rfl, me, _, rfl, _, _, rfl, rfl, _, rfl, _, rfl, _, rfl, _, _, rfl, rfl, mg', _, rfl, _, _, rfl, rfl, _, rfl, (by show 8 ≤ sizeLine; decide), fun r nr => ?_⟩
      exact k r _ (SqT.of upd_same) (same_upd nr)
def sp_sure_part (K : PySem.W.Frag) : Sp := fun vs H Q _ => ∃ (l : Addr) (cs : List (Int × Int)), vs = [.ref l] ∧ CornersAt K H l cs ∧ 0 < cs.length ∧ cs.length ≤ 4 ∧ (∀ c ∈ cs, fits c.1 ∧ fits c.2) ∧
  ∀ H', Same H H' → Q (match surePart cs with | some q => .int q | none => .non) H'
theorem ok_sure_part (T : CT K mg A) (D : DT K mg A) : COk P w K mg base CX0 35 "sure_part" ["corners"] (sp_sure_part K) := by
  refine COk.by D.sure_part fun f fd F => ?_
  refine F.ok (k := 34) sc_sure_part (fun vs H Q E h => ?_) (fun cdv Ar outer s H vs Q E hr h => ?_)
  · obtain ⟨l, cs, rfl, _⟩ := h
    rfl
  · obtain ⟨l, cs, rfl, ⟨ts, hl, hts⟩, h0, h4, hf, k⟩ := h
    refine ⟨_, (C8.pss_cut (ps_if (pt_cmpR op_lt (pe_ix ix_tup (pe_ix ix_list (pv 0) pe_int (fun _ _ => rfl)) pe_int (fun _ _ => rfl)) pe_int (nomark _))
      (pss_one (ps_setLc (i := 0) (own := [("top", 1), ("below", 2)]) (g := gTup K 2 (gCons (gName 1) (gCons (gName 2) gNil))) (tt := tYes) rfl sc_sure_part.nd rfl rfl (sw_true rfl rfl rfl (by decide +kernel)) (pi_list (pv 0)) (blkOk_by (own := [("top", 1), ("below", 2)]) (N := ["corners", "top", "below", "part"]) (sc := defScope s_sure_part) (by decide +kernel)) (fun _ _ _ _ _ => (pg_tup rfl (pgs_cons (pg_name (i := 1) sc_sure_part.nd rfl (Or.inl rfl)) (pgs_cons (pg_name (i := 2) sc_sure_part.nd rfl (Or.inl rfl)) pgs_nil)))) (fun _ _ _ _ _ => pts_nil) (fun _ _ _ _ _ => (pe_tup (pa_cons (pe_un un_neg (pv 1)) (pa_cons (pe_un un_neg (pv 2)) pa_nil)))))) pss_nil)
    (pss_cons (ps_if (pt_cmpR op_le (pe_callB (cr_min rfl) (by rfl) T.b_min (by decide +kernel) (pa_cons (pe_lc (own := [("top", 1), ("below", 2)]) (g := gTup K 2 (gCons (gName 1) (gCons (gName 2) gNil))) (tt := tYes) rfl sc_sure_part.nd (pi_list (pv 0)) (blkOk_by (own := [("top", 1), ("below", 2)]) (N := ["corners", "top", "below", "part"]) (sc := defScope s_sure_part) (by decide +kernel)) (fun _ _ _ _ _ => (pg_tup rfl (pgs_cons (pg_name (i := 1) sc_sure_part.nd rfl (Or.inl rfl)) (pgs_cons (pg_name (i := 2) sc_sure_part.nd rfl (Or.inl rfl)) pgs_nil)))) (fun _ _ _ _ _ => pts_nil) (fun _ _ _ _ _ => (pv 2))) pa_nil)) pe_int (nomark _))
      (pss_one (ps_ret pe_non)) pss_nil)
    (pss_cons (ps_set (i := 3) sc_sure_part.nd rfl (Or.inl rfl) (pe_op (op_fdivM T.seer (NoTree.tree (P := P)) hr (by first | decide | omega) rfl rfl rfl) (pe_ix ix_tup (pe_ix ix_list (pv 0) pe_int (fun _ _ => rfl)) pe_int (fun _ _ => rfl)) (pe_ix ix_tup (pe_ix ix_list (pv 0) pe_int (fun _ _ => rfl)) pe_int (fun _ _ => rfl))))
    (pss_cons (ps_for PassesOwn.never rfl (pi_list (pv 0)) (pg_tup rfl (pgs_cons (pg_name (i := 1) sc_sure_part.nd rfl (Or.inl rfl)) (pgs_cons (pg_name (i := 2) sc_sure_part.nd rfl (Or.inl rfl)) pgs_nil)))
      (pss_one (ps_if (pt_not (pt_chain op_le op_le (pe_op op_mulW (pv 3) (pv 2)) (pv 1) (pe_op op_mulW (pe_op op_add (pv 3) pe_int) (pv 2))))
      (pss_one (ps_ret pe_non)) pss_nil)))
    (pss_one (ps_ret (pv 3))))))), ?_⟩
    match cs, ts, hts, h0 with
    | c0 :: cr, t0 :: tr, hts, _ =>
    have ht0 := hts.1
    refine ⟨fun σ H' => ∃ l', σ = [some (V.ref l'), none, none, none] ∧ CornersAt K H' l' (flipped (c0 :: cr)) ∧ Same H H', ?_, ?_⟩
    · refine ⟨_, rfl, l, _, 0, _, rfl, rfl, hl, atI_nat (j := 0) rfl, t0, _, 1, _, rfl, rfl, ht0, atI_nat (j := 1) rfl, _, _, rfl, rfl, _, rfl, ite2 (fun c => ?_) (fun c => ?_)⟩
      · have cn : c0.2 < 0 := of_decide_eq_true c
        refine ⟨_, rfl, l, rfl, ⟨_, hl⟩, fun D0 nD => lc_list (K := K) (a := l) (xs := (t0 :: tr).map V.ref) (fun i H' => Same H H' ∧ ∃ us : List Addr, H' D0 = some (.lst (us.map V.ref)) ∧ us.length ≤ i ∧ PairsAt K H' us (((c0 :: cr).take i).map fun d => (-d.1, -d.2)))
          ⟨same_upd nD, [], upd_same, Nat.zero_le _, trivial⟩ (fun i H' _ z => sqL_same hl z.1) ?_ ?_⟩
        · rintro i x H' hx ⟨s1, us, hD, hu, hus⟩
          obtain ⟨t, d, rfl, ed, htd⟩ := hts.at_ hx
          refine ⟨t, _, rfl, sqT_same htd s1, rfl, _, _, rfl, _, _, rfl, rfl, rfl, ?_⟩
          refine ⟨_, rfl, _, rfl, _, rfl, _, rfl, (by show 2 ≤ sizeLine; decide), fun q nq => ?_⟩
          have s2 := same_upd (o := .tup [V.int (-d.1), .int (-d.2)]) nq
          have hi : i < 4 := by
            have := (List.getElem?_eq_some_iff.mp ed).1
            omega
          refine ⟨_, s2 _ _ hD, ?_, ?_, us ++ [q], ?_, ?_, ?_⟩
          · rw [List.length_map]
            exact Nat.lt_of_le_of_lt hu (Nat.lt_of_lt_of_le hi (by decide))
          · intro b o z
            rw [upd_ne (ne_of_none z nD)]
            exact s2 _ _ (s1 _ _ z)
          · rw [upd_same, List.map_append]
            rfl
          · rw [List.length_append]
            exact Nat.succ_le_succ hu
          · rw [List.take_add_one, ed, List.map_append]
            exact PairsAt.snoc (c := (-d.1, -d.2)) (sqT_lst (SqT.of upd_same) (s2 _ _ hD)) (PairsAt.lst (s2 _ _ hD) (hus.same s2))
        · rintro H' ⟨s1, us, hD, hu, hus⟩
          refine ⟨D0, rfl, ⟨us, SqL.of hD, ?_⟩, s1⟩
          rw [List.length_map, hts.len, List.take_of_length_le (Nat.le_refl _)] at hus
          unfold flipped
          rw [List.getD_cons_zero, if_pos cn]
          exact hus
      · refine ⟨l, rfl, ⟨_, hl, ?_⟩, Same.refl H⟩
        unfold flipped
        rw [List.getD_cons_zero, if_neg (fun z => c (decide_eq_true z))]
        exact hts
    · rintro σ H1 ⟨l1, rfl, ⟨us, hl1, hus⟩, s1⟩
      have hfd : ∀ d ∈ flipped (c0 :: cr), fits d.1 ∧ fits d.2 := by
        unfold flipped
        split
        · intro d hd
          obtain ⟨c, hc, rfl⟩ := List.mem_map.mp hd
          exact ⟨fits_neg (hf c hc).1, fits_neg (hf c hc).2⟩
        · exact hf
      have hlen : (flipped (c0 :: cr)).length = (c0 :: cr).length := by
        unfold flipped
        split
        · rw [List.length_map]
        · rfl
      have eS : surePart (c0 :: cr) = (if (flipped (c0 :: cr)).all (fun d => decide (0 < d.2)) then
        (if (flipped (c0 :: cr)).all (fun d => decide (((flipped (c0 :: cr)).getD 0 (0, 0)).1.fdiv ((flipped (c0 :: cr)).getD 0 (0, 0)).2 * d.2 ≤ d.1) && decide (d.1 ≤ (((flipped (c0 :: cr)).getD 0 (0, 0)).1.fdiv ((flipped (c0 :: cr)).getD 0 (0, 0)).2 + 1) * d.2)) then some (((flipped (c0 :: cr)).getD 0 (0, 0)).1.fdiv ((flipped (c0 :: cr)).getD 0 (0, 0)).2) else none) else none) := rfl
      rw [eS] at k
      clear eS
      have hle : (flipped (c0 :: cr)).length ≤ 4 := by rw [hlen]; exact h4
      have hge : 0 < (flipped (c0 :: cr)).length := by rw [hlen]; exact Nat.succ_pos _
      generalize flipped (c0 :: cr) = ds at *
      match ds, us, hus, hge with
      | d0 :: dr, u0 :: ur, hus, _ =>
      have hu0 := hus.1
      refine ⟨_, rfl, l1, rfl, ⟨_, hl1⟩, fun D1 nD1 => lc_list (K := K) (a := l1) (xs := (u0 :: ur).map V.ref) (fun i H' => Same H1 H' ∧ H' D1 = some (.lst ((((d0 :: dr).take i).map fun d => d.2).map V.int)))
          ⟨same_upd nD1, upd_same⟩ (fun i H' _ z => sqL_same hl1 z.1) ?_ ?_⟩
      · rintro i x H' hx ⟨s2, hD⟩
        obtain ⟨t, d, rfl, ed, htd⟩ := hus.at_ hx
        refine ⟨t, _, rfl, sqT_same htd s2, rfl, _, _, rfl, _, _, rfl, rfl, rfl, ?_⟩
        have hi : i < 4 := by
          have := (List.getElem?_eq_some_iff.mp ed).1
          omega
        refine ⟨_, rfl, _, hD, ?_, ?_, ?_⟩
        · rw [List.length_map, List.length_map, List.length_take]
          exact Nat.lt_of_le_of_lt (Nat.min_le_left _ _) (Nat.lt_of_lt_of_le hi (by decide))
        · intro b o z
          rw [upd_ne (ne_of_none z nD1)]
          exact s2 _ _ z
        · rw [upd_same, List.take_add_one, ed]
          simp
      · rintro H2 ⟨s2, hD⟩
        rw [List.length_map, hus.len, List.take_of_length_le (Nat.le_refl _)] at hD
        refine ⟨D1, _, rfl, SqL.of hD, (by rw [List.length_map]; exact Nat.succ_pos _), fun m hm hmin => ⟨_, _, rfl, rfl, _, rfl, ite2 (fun c => ?_) (fun c => ?_)⟩⟩
        · have mn : m ≤ 0 := of_decide_eq_true c
          have := k H2 (s1.trans s2)
          rw [if_neg ?_] at this
          · exact this
          · intro z
            obtain ⟨d, hd, rfl⟩ := List.mem_map.mp hm
            have := of_decide_eq_true (List.all_eq_true.mp z d hd)
            omega
        · have mp : 0 < m := by
            have : ¬ m ≤ 0 := fun z => c (decide_eq_true z)
            omega
          have pos : ∀ d ∈ d0 :: dr, 0 < d.2 := fun d hd => by
            have := hmin d.2 (List.mem_map.mpr ⟨d, hd, rfl⟩)
            omega
          have k1 := k
          rw [if_pos (List.all_eq_true.mpr fun d hd => decide_eq_true (pos d hd)), List.getD_cons_zero] at k1
          have p0 := pos d0 List.mem_cons_self
          have f0 := hfd d0 List.mem_cons_self
          have hu02 := sqT_same hu0 s2
          have hl12 := sqL_same hl1 s2
          have fq : fits (d0.1.fdiv d0.2) := Nat.lt_of_le_of_lt (fdiv_abs (by omega)) f0.1
          refine ⟨_, rfl, l1, _, 0, _, rfl, rfl, hl12, atI_nat (j := 0) rfl, u0, _, 0, _, rfl, rfl, hu02, atI_nat (j := 0) rfl, _, rfl, l1, _, 0, _, rfl, rfl, hl12, atI_nat (j := 0) rfl, u0, _, 1, _, rfl, rfl, hu02, atI_nat (j := 1) rfl, _, _, rfl, rfl, (show CDivM _ _ by show _ ≠ _; omega), ?_⟩
          obtain ⟨q, hq⟩ : ∃ q, d0.1.fdiv d0.2 = q := ⟨_, rfl⟩
          rw [hq] at fq
          simp only [hq] at k1
          refine ⟨_, rfl, l1, rfl, ⟨_, hl12⟩, for_list (K := K) (a := l1) (xs := (u0 :: ur).map V.ref) (fun i σ H' => ∃ v1 v2, σ = [some (V.ref l1), v1, v2, some (V.int q)] ∧ H' = H2 ∧ ((d0 :: dr).take i).all (fun d => decide (q * d.2 ≤ d.1) && decide (d.1 ≤ (q + 1) * d.2)) = true)
            ⟨none, none, (by rw [← hq]; rfl), rfl, rfl⟩ (fun i σ H' _ ⟨_, _, _, e, _⟩ => by rw [e]; exact hl12) ?_ ?_⟩
          · rintro i x σ H' hx ⟨v1, v2, rfl, rfl, hall⟩
            obtain ⟨t, d, rfl, ed, htd⟩ := hus.at_ hx
            have hd : d ∈ d0 :: dr := List.mem_of_getElem? ed
            have fd' := hfd d hd
            have done : ¬ (decide (q * d.2 ≤ d.1) && decide (d.1 ≤ (q + 1) * d.2)) = true → Q .non H' := fun z => by
              have := k1 H' (s1.trans s2)
              rw [if_neg (fun y => z (List.all_eq_true.mp y d hd))] at this
              exact this
            refine ⟨t, _, rfl, sqT_same htd s2, rfl, _, _, rfl, _, _, rfl, rfl, ?_⟩
            refine ⟨_, rfl, _, rfl, _, _, rfl, rfl, fits_mul fq fd'.2, _, rfl, _, _, rfl, rfl, _, rfl, ite2 (fun c1 => ?_) (fun c1 => ?_)⟩
            · refine ⟨_, rfl, _, _, rfl, rfl, _, rfl, _, _, rfl, rfl, fits_mul1 fq fd'.2, _, _, rfl, rfl, _, rfl, ite2 (fun c2 => ?_) (fun c2 => ?_)⟩
              · refine done fun z => ?_
                rw [Bool.and_eq_true] at z
                rw [z.2] at c2
                cases c2
              · refine ⟨_, _, rfl, rfl, ?_⟩
                rw [List.take_add_one, ed, List.all_append, hall]
                have : decide (d.1 ≤ (q + 1) * d.2) = true := by
                  cases e : decide (d.1 ≤ (q + 1) * d.2) with
                  | true => rfl
                  | false => exact absurd (by rw [e]; rfl) c2
                simp only [Option.toList_some, List.all_cons, List.all_nil, Bool.and_true, c1, this]
            · refine ⟨_, rfl, iteT ?_⟩
              refine done fun z => ?_
              rw [Bool.and_eq_true] at z
              exact c1 z.1
          · rintro σ H' ⟨v1, v2, rfl, rfl, hall⟩
            rw [List.length_map, hus.len, List.take_of_length_le (Nat.le_refl _)] at hall
            refine ⟨_, rfl, ?_⟩
            have := k1 H' (s1.trans s2)
            rw [if_pos hall] at this
            exact this
end
/-! ### boxes: fractions, fours, eights -/
def fbF (t b : Int) (told : Bool) : Flds := [("top", .int t), ("below", .int b), ("told", .bl told)]
def foF (p x : Addr) (st told : Bool) (r : V) : Flds := [("numbers", .ref p), ("tree", .ref x), ("started", .bl st), ("told", .bl told), ("rest", r)]
def eiF (p q l : Addr) (told : Bool) (r : V) : Flds := [("numbers", .ref p), ("trees", .ref q), ("taken", .ref l), ("told", .bl told), ("rest", r)]
section
variable {P : Program} [NoTree P] {w : World} {K : PySem.W.Frag} {mg : Str → Option Value} {base : Heap} {A : Ad}
theorem ok_FractionBox_init (T : CT K mg A) (D : DT K mg A) : IOk P w K mg base 1 "FractionBox" A.c_FractionBox ["self", "top", "below", "told"] (sp_ini A.c_FractionBox 3 fun us => [("top", us.getD 0 .non), ("below", us.getD 1 .non), ("told", us.getD 2 .non)]) := by
  refine IOk.of T.g_FractionBox D.FractionBox_init fun f fd F => ?_
  refine F.ok sc_FractionBox_init (fun vs H Q E h => ?_) (fun cdv Ar outer s H vs Q E hr h => ?_)
  · obtain ⟨p, dx, us, rfl, hl, _⟩ := h
    show us.length + 1 = 4
    omega
  · obtain ⟨p, dx, us, rfl, hl, hp, k⟩ := h
    match us, hl with
    | [u0, u1, u2], _ =>
      refine ⟨_, (pss_cons (ps_fld (pv 0) (pv 1) rfl)
    (pss_cons (ps_fld (pv 0) (pv 2) rfl)
    (pss_one (ps_fld (pv 0) (pv 3) rfl)))), ?_⟩
      refine ⟨_, rfl, _, rfl, p, _, dx, [], rfl, hp, T.cl_FractionBox, T.n_FractionBox_top, (by show 0 < 1000; decide), ?_⟩
      refine ⟨_, rfl, _, rfl, p, _, dx, _, rfl, upd_same, T.cl_FractionBox, T.n_FractionBox_below, (by show 1 < 1000; decide), ?_⟩
      refine ⟨_, rfl, _, rfl, p, _, dx, _, rfl, upd_same, T.cl_FractionBox, T.n_FractionBox_told, (by show 2 < 1000; decide), ?_⟩
      refine cast (congrArg (Q V.non) ?_) k
      rw [upd_upd, upd_upd]
      rfl
def sp_nothing_left (A : Ad) : Sp := fun vs H Q E => ∃ (a dx : Addr) (t b : Int) (told : Bool), vs = [.ref a] ∧ H a = some (.ins A.c_FractionBox dx (fbF t b told)) ∧
  (told = true → Q (.ref A.k_END) H) ∧ (told = false → E (.ref A.c_NoValue) none H)
theorem ok_nothing_left (T : CT K mg A) (D : DT K mg A) : MOk P w K mg base (L2.CX P w) 1 A.c_FractionBox "nothing_left" ["self"] (sp_nothing_left A) := by
  refine MOk.of T.cl_FractionBox D.FractionBox_nothing_left fun f fd F => ?_
  refine F.okX sc_FractionBox_nothing_left (fun vs H Q E h => ?_) (fun cdv Ar outer s H vs Q E hr h => ?_)
  · obtain ⟨a, dx, t, b, told, rfl, _⟩ := h
    rfl
  · obtain ⟨a, dx, t, b, told, rfl, ha, k1, k2⟩ := h
    refine ⟨_, (pss_cons (ps_if (pt_val (pe_fld (pv 0) rfl))
      (pss_one (ps_ret (pe_glob (v := .ref A.k_END) (by rfl) T.g_END rfl))) pss_nil)
    (pss_one (ps_raise rfl (takes_of rfl rfl rfl rfl) (pmk_own PySem.F.excBase_ValueError T.x_NoValue.x T.x_NoValue.g T.x_NoValue.k (raises_own T.x_NoValue.b T.x_NoValue.t) rfl)))), ?_⟩
    refine ⟨_, rfl, a, _, dx, _, _, rfl, ha, T.cl_FractionBox, T.n_FractionBox_told, rfl, ?_⟩
    cases told with
    | true => exact ⟨true, rfl, k1 rfl⟩
    | false => exact ⟨false, rfl, k2 rfl⟩
/-- a fraction box, asked: its parts cost nothing -/
def sp_fb (A : Ad) (K : PySem.W.Frag) : Sp := fun vs H Q E => ∃ (a dx : Addr) (m : V) (t b : Int) (told : Bool), vs = [.ref a, m] ∧ H a = some (.ins A.c_FractionBox dx (fbF t b told)) ∧ fits t ∧ fits b ∧
  (b = 0 → told = true → Q (.ref A.k_END) H) ∧ (b = 0 → told = false → E (.ref A.c_NoValue) none H) ∧
  (b ≠ 0 → ∀ r H', H' r = some (.tup [.str "part", .int (t.fdiv b)]) → H' a = some (.ins A.c_FractionBox dx (fbF b (t - t.fdiv b * b) true)) → (∀ c o, H c = some o → c ≠ a → H' c = some o) → Q (.ref r) H')
theorem ok_FractionBox_ask (T : CT K mg A) (D : DT K mg A) : MOk P w K mg base (L2.CX P w) 35 A.c_FractionBox "ask" ["self", "meter"] (sp_fb A K) := by
  have M_nothing := ok_nothing_left (P := P) (w := w) (base := base) T D
  have G_turned_over := ok_turned_over (P := P) (w := w) (base := base) T D
  refine MOk.of T.cl_FractionBox D.FractionBox_ask fun f fd F => ?_
  refine F.okX (k := 34) sc_FractionBox_ask (fun vs H Q E h => ?_) (fun cdv Ar outer s H vs Q E hr h => ?_)
  · obtain ⟨a, dx, m, t, b, told, rfl, _⟩ := h
    rfl
  · obtain ⟨a, dx, m, t, b, told, rfl, ha, ft, fb, k1, k2, k3⟩ := h
    refine ⟨_, (pss_cons (ps_if (pt_cmpR op_eq (pe_fld (pv 0) rfl) pe_int (nomark _))
      (pss_one (ps_ret (pe_mX0 M_nothing (hr.mono (by first | decide | omega)) (passes_tk (takes_of rfl rfl rfl rfl)) (pv 0)))) pss_nil)
    (pss_cons (ps_set (i := 2) sc_FractionBox_ask.nd rfl (Or.inl rfl) (pe_op (op_fdivM T.seer (NoTree.tree (P := P)) hr (by first | decide | omega) rfl rfl rfl) (pe_fld (pv 0) rfl) (pe_fld (pv 0) rfl)))
    (pss_cons (ps_asg (pe_c G_turned_over (hr.mono (by first | decide | omega)) (pa_cons (pe_tup (pa_cons (pe_fld (pv 0) rfl) (pa_cons (pe_fld (pv 0) rfl) pa_nil))) (pa_cons (pv 2) pa_nil))) (pg_tup rfl (pgs_cons (pg_fld (pv 0)) (pgs_cons (pg_fld (pv 0)) pgs_nil))))
    (pss_cons (ps_fld (pv 0) pe_bl rfl)
    (pss_one (ps_ret (pe_tup (pa_cons pe_str (pa_cons (pv 2) pa_nil))))))))), ?_⟩
    have cl := T.cl_FractionBox
    refine ⟨_, rfl, a, _, dx, _, _, rfl, ha, cl, T.n_FractionBox_below, rfl, rfl, _, rfl, ite2 (fun c => ?_) (fun c => ?_)⟩
    · have hb : b = 0 := V.int.inj (of_decide_eq_true c)
      exact ⟨_, rfl, a, dx, _, rfl, ha, rfl, a, dx, t, b, told, rfl, ha, k1 hb, k2 hb⟩
    · have hb : b ≠ 0 := fun z => c (decide_eq_true (by rw [z]))
      refine ⟨_, rfl, a, _, dx, _, _, rfl, ha, cl, T.n_FractionBox_top, rfl, _, rfl, a, _, dx, _, _, rfl, ha, cl, T.n_FractionBox_below, rfl, _, _, rfl, rfl, hb, ?_⟩
      have fq : fits (t.fdiv b) := Nat.lt_of_le_of_lt (fdiv_abs hb) ft
      refine ⟨_, rfl, a, _, dx, _, _, rfl, ha, cl, T.n_FractionBox_top, rfl, _, rfl, a, _, dx, _, _, rfl, ha, cl, T.n_FractionBox_below, rfl, (by show 2 ≤ sizeLine; decide), fun q nq => ?_⟩
      have s1 := same_upd (o := .tup [V.int t, .int b]) nq
      refine ⟨_, rfl, q, [t, b], t.fdiv b, rfl, SqT.of upd_same, ⟨1, rfl, by decide, by decide⟩, (by intro z hz; simp at hz; rcases hz with rfl | rfl <;> assumption), fq, fun r H1 hr1 s2 => ?_⟩
      have ss := s1.trans s2
      have et : turnedOver [t, b] (t.fdiv b) = [b, t - t.fdiv b * b] := by simp [turnedOver]
      rw [et] at hr1
      refine ⟨r, _, rfl, hr1, rfl, _, _, rfl, _, rfl, a, _, dx, _, rfl, ss _ _ ha, cl, T.n_FractionBox_top, (by show 3 < 1000; decide), ?_⟩
      refine ⟨_, _, rfl, _, rfl, a, _, dx, _, rfl, upd_same, cl, T.n_FractionBox_below, (by show 3 < 1000; decide), rfl, ?_⟩
      refine ⟨_, rfl, a, _, dx, _, rfl, upd_same, cl, T.n_FractionBox_told, (by show 3 < 1000; decide), ?_⟩
      refine ⟨_, rfl, (by show 2 ≤ sizeLine; decide), fun u nu => ?_⟩
      have s3 := same_upd (o := .tup [V.str "part", .int (t.fdiv b)]) nu
      rw [upd_upd, upd_upd] at *
      exact k3 hb u _ upd_same (s3 _ _ upd_same) fun c o e hc => s3 _ _ (by rw [upd_ne hc]; exact ss _ _ e)
theorem ok_FourBox_init (T : CT K mg A) (D : DT K mg A) : IOk P w K mg base 1 "FourBox" A.c_FourBox ["self", "numbers", "tree", "started", "told"] (sp_ini A.c_FourBox 4 fun us => [("numbers", us.getD 0 .non), ("tree", us.getD 1 .non), ("started", us.getD 2 .non), ("told", us.getD 3 .non), ("rest", .non)]) := by
  refine IOk.of T.g_FourBox D.FourBox_init fun f fd F => ?_
  refine F.ok sc_FourBox_init (fun vs H Q E h => ?_) (fun cdv Ar outer s H vs Q E hr h => ?_)
  · obtain ⟨p, dx, us, rfl, hl, _⟩ := h
    show us.length + 1 = 5
    omega
  · obtain ⟨p, dx, us, rfl, hl, hp, k⟩ := h
    match us, hl with
    | [u0, u1, u2, u3], _ =>
      refine ⟨_, (pss_cons (ps_fld (pv 0) (pv 1) rfl)
    (pss_cons (ps_fld (pv 0) (pv 2) rfl)
    (pss_cons (ps_fld (pv 0) (pv 3) rfl)
    (pss_cons (ps_fld (pv 0) (pv 4) rfl)
    (pss_one (ps_fld (pv 0) pe_non rfl)))))), ?_⟩
      refine ⟨_, rfl, _, rfl, p, _, dx, [], rfl, hp, T.cl_FourBox, T.n_FourBox_numbers, (by show 0 < 1000; decide), ?_⟩
      refine ⟨_, rfl, _, rfl, p, _, dx, _, rfl, upd_same, T.cl_FourBox, T.n_FourBox_tree, (by show 1 < 1000; decide), ?_⟩
      refine ⟨_, rfl, _, rfl, p, _, dx, _, rfl, upd_same, T.cl_FourBox, T.n_FourBox_started, (by show 2 < 1000; decide), ?_⟩
      refine ⟨_, rfl, _, rfl, p, _, dx, _, rfl, upd_same, T.cl_FourBox, T.n_FourBox_told, (by show 3 < 1000; decide), ?_⟩
      refine ⟨_, rfl, p, _, dx, _, rfl, upd_same, T.cl_FourBox, T.n_FourBox_rest, (by show 4 < 1000; decide), ?_⟩
      refine cast (congrArg (Q V.non) ?_) k
      rw [upd_upd, upd_upd, upd_upd, upd_upd]
      rfl
/-- a part is told: the four's numbers are turned over -/
def sp_four_tell (A : Ad) (K : PySem.W.Frag) : Sp := fun vs H Q _ => ∃ (a dx p x : Addr) (ns : List Int) (st told : Bool) (q : Int), vs = [.ref a, .int q] ∧ H a = some (.ins A.c_FourBox dx (foF p x st told .non)) ∧ SqT K H p (ns.map V.int) ∧ ns.length = 4 ∧ (∀ z ∈ ns, fits z) ∧ fits q ∧
  ∀ r p' H', H' r = some (.tup [.str "part", .int q]) → H' a = some (.ins A.c_FourBox dx (foF p' x st true .non)) → SqT K H' p' ((turnedOver ns q).map V.int) → (∀ c o, H c = some o → c ≠ a → H' c = some o) → Q (.ref r) H'
theorem ok_FourBox_tell (T : CT K mg A) (D : DT K mg A) : MOk P w K mg base CX0 2 A.c_FourBox "tell" ["self", "part"] (sp_four_tell A K) := by
  have G_turned_over := ok_turned_over (P := P) (w := w) (base := base) T D
  refine MOk.of T.cl_FourBox D.FourBox_tell fun f fd F => ?_
  refine F.ok sc_FourBox_tell (fun vs H Q E h => ?_) (fun cdv Ar outer s H vs Q E hr h => ?_)
  · obtain ⟨a, dx, p, x, ns, st, told, q, rfl, _⟩ := h
    rfl
  · obtain ⟨a, dx, p, x, ns, st, told, q, rfl, ha, hp, hl, hf, fq, k⟩ := h
    refine ⟨_, (pss_cons (ps_fld (pv 0) (pe_c G_turned_over (hr.mono (by first | decide | omega)) (pa_cons (pe_fld (pv 0) rfl) (pa_cons (pv 1) pa_nil))) rfl)
    (pss_cons (ps_fld (pv 0) pe_bl rfl)
    (pss_one (ps_ret (pe_tup (pa_cons pe_str (pa_cons (pv 1) pa_nil))))))), ?_⟩
    have cl := T.cl_FourBox
    refine ⟨_, rfl, a, _, dx, _, _, rfl, ha, cl, T.n_FourBox_numbers, rfl, _, rfl, p, ns, q, rfl, hp, ⟨2, hl, by decide, by decide⟩, hf, fq, fun p' H1 hp1 s1 => ?_⟩
    refine ⟨_, rfl, a, _, dx, _, rfl, s1 _ _ ha, cl, T.n_FourBox_numbers, (by show 5 < 1000; decide), ?_⟩
    refine ⟨_, rfl, a, _, dx, _, rfl, upd_same, cl, T.n_FourBox_told, (by show 5 < 1000; decide), ?_⟩
    refine ⟨_, rfl, (by show 2 ≤ sizeLine; decide), fun u nu => ?_⟩
    have s3 := same_upd (o := .tup [V.str "part", .int q]) nu
    rw [upd_upd] at *
    exact k u p' _ upd_same (s3 _ _ upd_same) (sqT_same (sqT_ins hp1 (s1 _ _ ha)) s3) fun c o e hc => s3 _ _ (by rw [upd_ne hc]; exact s1 _ _ e)
def Ans.isFin : Ans → Bool
  | .fin => true
  | _ => false
def Ans.isWaits : Ans → Bool
  | .waits => true
  | _ => false
theorem eqv_fin (a : Ans) : PyData.eqv (.tuple a.data) (.tuple Ans.fin.data) = a.isFin := by
  cases a with
  | part n => rfl
  | fin => rfl
  | waits => rfl
theorem eqv_waits (a : Ans) : PyData.eqv (.tuple a.data) (.tuple Ans.waits.data) = a.isWaits := by
  cases a with
  | part n => rfl
  | fin => rfl
  | waits => rfl
/-- what a four's tree told is taken -/
def sp_four_take (A : Ad) (K : PySem.W.Frag) : Sp := fun vs H Q _ => ∃ (a dx p x : Addr) (ns : List Int) (st told : Bool) (v : V) (an : Ans), vs = [.ref a, v] ∧ an.At A H v ∧ H a = some (.ins A.c_FourBox dx (foF p x st told .non)) ∧ SqT K H p (ns.map V.int) ∧ ns.length = 4 ∧ (∀ z ∈ ns, fits z) ∧
  match an with
  | .waits => False
  | .fin => ∀ r dr H', H' a = some (.ins A.c_FourBox dx (foF p x st told (.ref r))) → H' r = some (.ins A.c_FractionBox dr (fbF (ns.getD 0 0) (ns.getD 2 0) told)) → H r = none → (∀ c o, H c = some o → c ≠ a → H' c = some o) → Q .non H'
  | .part q => fits q ∧ ∀ p' H', H' a = some (.ins A.c_FourBox dx (foF p' x true told .non)) → SqT K H' p' ((withOne ns q).map V.int) → (∀ c o, H c = some o → c ≠ a → H' c = some o) → Q .non H'
theorem ok_FourBox_take (T : CT K mg A) (D : DT K mg A) : MOk P w K mg base CX0 3 A.c_FourBox "take" ["self", "answer"] (sp_four_take A K) := by
  have I_FractionBox := ok_FractionBox_init (P := P) (w := w) (base := base) T D
  refine MOk.of T.cl_FourBox D.FourBox_take fun f fd F => ?_
  refine F.ok sc_FourBox_take (fun vs H Q E h => ?_) (fun cdv Ar outer s H vs Q E hr h => ?_)
  · obtain ⟨a, dx, p, x, ns, st, told, v, an, rfl, _⟩ := h
    rfl
  · obtain ⟨a, dx, p, x, ns, st, told, v, an, rfl, hv, ha, hp, hl, hf, k⟩ := h
    refine ⟨_, (pss_cons (ps_asg (pe_fld (pv 0) rfl) (pg_tup rfl (pgs_cons (pg_name (i := 2) sc_FourBox_take.nd rfl (Or.inl rfl)) (pgs_cons (pg_name (i := 3) sc_FourBox_take.nd rfl (Or.inl rfl)) (pgs_cons (pg_name (i := 4) sc_FourBox_take.nd rfl (Or.inl rfl)) (pgs_cons (pg_name (i := 5) sc_FourBox_take.nd rfl (Or.inl rfl)) pgs_nil))))))
    (pss_cons (ps_if (pt_cmpR (op_eqD hr.units) (pv 1) (pe_glob (v := .ref A.k_END) (by rfl) T.g_END rfl) (nomark _))
      (pss_cons (ps_fld (pv 0) (pe_mk I_FractionBox (hr.mono (by first | decide | omega)) (pa_cons (pv 2) (pa_cons (pv 4) (pa_cons (pe_fld (pv 0) rfl) pa_nil)))) rfl)
    (pss_one ps_retN)) pss_nil)
    (pss_cons (ps_set (i := 6) sc_FourBox_take.nd rfl (Or.inl rfl) (pe_ix ix_tup (pv 1) pe_int (fun _ _ => rfl)))
    (pss_cons (ps_fld (pv 0) (pe_tup (pa_cons (pe_op op_add (pe_op op_mulW (pv 2) (pv 6)) (pv 3)) (pa_cons (pv 2) (pa_cons (pe_op op_add (pe_op op_mulW (pv 4) (pv 6)) (pv 5)) (pa_cons (pv 4) pa_nil))))) rfl)
    (pss_one (ps_fld (pv 0) pe_bl rfl)))))), ?_⟩
    have cl := T.cl_FourBox
    match ns, hl with
    | [n0, n1, n2, n3], _ =>
      refine ⟨_, rfl, a, _, dx, _, _, rfl, ha, cl, T.n_FourBox_numbers, rfl, p, _, rfl, hp, rfl, _, _, rfl, _, _, rfl, _, _, rfl, _, _, rfl, rfl, ?_⟩
      obtain ⟨pv', rfl, hpv⟩ := hv.tup T
      have hE : SqT K H A.k_END Ans.fin.vals := T.t_END H
      refine ⟨_, rfl, _, _, an.dp hpv, Ans.fin.dp hE, an.shaped, Ans.fin.shaped, _, rfl, ?_⟩
      rw [eqv_fin]
      cases an with
      | waits => exact k.elim
      | fin =>
        refine iteT ⟨_, rfl, _, rfl, _, rfl, a, _, dx, _, _, rfl, ha, cl, T.n_FourBox_told, rfl, fun r dr nr nd ne => ?_⟩
        refine ⟨r, dr, _, rfl, rfl, upd_same, rfl, ?_⟩
        rw [upd_upd]
        have s1 := made_same (o := .own r) (o' := .ins A.c_FractionBox dr [("top", .int n0), ("below", .int n2), ("told", .bl told)]) nr nd
        refine ⟨_, rfl, a, _, dx, _, rfl, s1 _ _ ha, cl, T.n_FourBox_rest, (by show 5 < 1000; decide), ?_⟩
        exact k r dr _ upd_same (by rw [upd_ne (ne_of_none ha nr).symm]; exact upd_same) nr fun c o e hc => by rw [upd_ne hc]; exact s1 _ _ e
      | part q =>
        obtain ⟨fq, k⟩ := k
        refine iteF ⟨_, rfl, pv', _, 1, _, rfl, rfl, hpv, atI_nat (j := 1) rfl, ?_⟩
        refine ⟨_, rfl, _, rfl, _, _, rfl, rfl, fits_mul (hf n0 (by simp)) fq, _, rfl, _, _, rfl, rfl, _, rfl, _, rfl, _, rfl, _, _, rfl, rfl, fits_mul (hf n2 (by simp)) fq, _, rfl, _, _, rfl, rfl, _, rfl, (by show 4 ≤ sizeLine; decide), fun p' np => ?_⟩
        have s1 := same_upd (o := .tup [V.int (n0 * q + n1), .int n0, .int (n2 * q + n3), .int n2]) np
        refine ⟨_, rfl, a, _, dx, _, rfl, s1 _ _ ha, cl, T.n_FourBox_numbers, (by show 5 < 1000; decide), ?_⟩
        refine ⟨_, rfl, a, _, dx, _, rfl, upd_same, cl, T.n_FourBox_started, (by show 5 < 1000; decide), ?_⟩
        rw [upd_upd]
        exact k p' _ upd_same (sqT_ins (SqT.of upd_same) (s1 _ _ ha)) fun c o e hc => by rw [upd_ne hc]; exact s1 _ _ e
theorem ne_of_nd {i j : Int} (c : (!decide (V.int i = V.int j)) = true) : i ≠ j := fun z => by
  rw [z, decide_eq_true rfl] at c
  cases c
theorem eq_of_nd {i j : Int} (c : ¬ (!decide (V.int i = V.int j)) = true) : i = j := by
  rcases Decidable.em (i = j) with z | z
  · exact z
  · exact absurd (by rw [decide_eq_false (fun q => z (V.int.inj q))]; rfl) c
/-- the box of one tree alone -/
def OneIs (A : Ad) (p x : Addr) (ns : List Int) (told : Bool) (C : Addr) (fs : Flds) : Prop :=
  (ns.getD 0 0 * ns.getD 3 0 ≠ ns.getD 1 0 * ns.getD 2 0 ∧ C = A.c_FourBox ∧ fs = foF p x true told .non) ∨
  (ns.getD 0 0 * ns.getD 3 0 = ns.getD 1 0 * ns.getD 2 0 ∧ ns.getD 2 0 ≠ 0 ∧ C = A.c_FractionBox ∧ fs = fbF (ns.getD 0 0) (ns.getD 2 0) told) ∨
  (ns.getD 0 0 * ns.getD 3 0 = ns.getD 1 0 * ns.getD 2 0 ∧ ns.getD 2 0 = 0 ∧ C = A.c_FractionBox ∧ fs = fbF (ns.getD 1 0) (ns.getD 3 0) told)
def sp_box_of_one (A : Ad) (K : PySem.W.Frag) : Sp := fun vs H Q _ => ∃ (p x : Addr) (ns : List Int) (told : Bool), vs = [.ref p, .ref x, .bl told] ∧ SqT K H p (ns.map V.int) ∧ ns.length = 4 ∧ (∀ z ∈ ns, fits z) ∧
  ∀ r dr C fs H', H r = none → Same H H' → H' r = some (.ins C dr fs) → OneIs A p x ns told C fs → Q (.ref r) H'
theorem ok_box_of_one (T : CT K mg A) (D : DT K mg A) : COk P w K mg base CX0 3 "box_of_one" ["numbers", "tree", "told"] (sp_box_of_one A K) := by
  have I_FractionBox := ok_FractionBox_init (P := P) (w := w) (base := base) T D
  have I_FourBox := ok_FourBox_init (P := P) (w := w) (base := base) T D
  refine COk.by D.box_of_one fun f fd F => ?_
  refine F.ok sc_box_of_one (fun vs H Q E h => ?_) (fun cdv Ar outer s H vs Q E hr h => ?_)
  · obtain ⟨p, x, ns, told, rfl, _⟩ := h
    rfl
  · obtain ⟨p, x, ns, told, rfl, hp, hl, hf, k⟩ := h
    refine ⟨_, (pss_cons (ps_asg (pv 0) (pg_tup rfl (pgs_cons (pg_name (i := 3) sc_box_of_one.nd rfl (Or.inl rfl)) (pgs_cons (pg_name (i := 4) sc_box_of_one.nd rfl (Or.inl rfl)) (pgs_cons (pg_name (i := 5) sc_box_of_one.nd rfl (Or.inl rfl)) (pgs_cons (pg_name (i := 6) sc_box_of_one.nd rfl (Or.inl rfl)) pgs_nil))))))
    (pss_cons (ps_if (pt_cmpR op_ne (pe_op op_mulW (pv 3) (pv 6)) (pe_op op_mulW (pv 4) (pv 5)) (nomark _))
      (pss_one (ps_ret (pe_mk I_FourBox (hr.mono (by first | decide | omega)) (pa_cons (pv 0) (pa_cons (pv 1) (pa_cons pe_bl (pa_cons (pv 2) pa_nil))))))) pss_nil)
    (pss_cons (ps_if (pt_cmpR op_ne (pv 5) pe_int (nomark _))
      (pss_one (ps_ret (pe_mk I_FractionBox (hr.mono (by first | decide | omega)) (pa_cons (pv 3) (pa_cons (pv 5) (pa_cons (pv 2) pa_nil)))))) pss_nil)
    (pss_one (ps_ret (pe_mk I_FractionBox (hr.mono (by first | decide | omega)) (pa_cons (pv 4) (pa_cons (pv 6) (pa_cons (pv 2) pa_nil))))))))), ?_⟩
    match ns, hl with
    | [n0, n1, n2, n3], _ =>
      refine ⟨_, rfl, p, _, rfl, hp, rfl, _, _, rfl, _, _, rfl, _, _, rfl, _, _, rfl, rfl, ?_⟩
      refine ⟨_, rfl, _, rfl, _, _, rfl, rfl, fits_mul (hf n0 (by simp)) (hf n3 (by simp)), _, rfl, _, rfl, _, _, rfl, rfl, fits_mul (hf n1 (by simp)) (hf n2 (by simp)), ?_⟩
      refine ⟨rfl, _, rfl, ite2 (fun c => ?_) (fun c => ?_)⟩
      · have hc : n0 * n3 ≠ n1 * n2 := ne_of_nd c
        refine ⟨_, rfl, _, rfl, _, rfl, fun r dr nr nd ne => ?_⟩
        refine ⟨r, dr, _, rfl, rfl, upd_same, rfl, ?_⟩
        rw [upd_upd]
        exact k r dr _ _ _ nr (made_same nr nd) upd_same (.inl ⟨hc, rfl, rfl⟩)
      · have hc : n0 * n3 = n1 * n2 := eq_of_nd c
        refine ⟨_, rfl, rfl, _, rfl, ite2 (fun c2 => ?_) (fun c2 => ?_)⟩
        · have hc2 : n2 ≠ 0 := ne_of_nd c2
          refine ⟨_, rfl, _, rfl, _, rfl, fun r dr nr nd ne => ?_⟩
          refine ⟨r, dr, _, rfl, rfl, upd_same, rfl, ?_⟩
          rw [upd_upd]
          exact k r dr _ _ _ nr (made_same nr nd) upd_same (.inr (.inl ⟨hc, hc2, rfl, rfl⟩))
        · have hc2 : n2 = 0 := eq_of_nd c2
          refine ⟨_, rfl, _, rfl, _, rfl, fun r dr nr nd ne => ?_⟩
          refine ⟨r, dr, _, rfl, rfl, upd_same, rfl, ?_⟩
          rw [upd_upd]
          exact k r dr _ _ _ nr (made_same nr nd) upd_same (.inr (.inr ⟨hc, hc2, rfl, rfl⟩))
end
/-! ### boxes: eights -/
section
variable {P : Program} [NoTree P] {w : World} {K : PySem.W.Frag} {mg : Str → Option Value} {base : Heap} {A : Ad}
open PySem.Spec PyProof.Rows in
/-- xs[i], to be written again -/
theorem get_listP {X : Cx} : PGet X (fun o i H Q => ∃ (p : Addr) (xs : List V) (j : Nat) (v : V), o = .ref p ∧ i = .int j ∧ SqL X.K H p xs ∧ xs[j]? = some v ∧ Q v H) := by
  intro pins s σ H o i ov iv Q I ro ri h
  obtain ⟨p, xs, j, z, rfl, rfl, hq, he, q⟩ := h
  cases ro
  obtain ⟨t, rfl⟩ := ri
  obtain ⟨its, r, pl, hz⟩ := I.list hq
  obtain ⟨w, ew, rw'⟩ := r.get he
  have hl := r.length
  have hn := line63
  have hj : j < xs.length := (List.getElem?_eq_some_iff.mp he).1
  exact wpAny_getItem_list (x := w) pl.isList (by omega) (by omega) (by simpa using ew) ⟨z, H, I, rw', q⟩
def sp_EightBox_init (A : Ad) : Sp := fun vs H Q _ => ∃ (a dx p x y : Addr), vs = [.ref a, .ref p, .ref x, .ref y] ∧ H a = some (.ins A.c_EightBox dx []) ∧
  ∀ q l H', H q = none → H l = none → l ≠ q → H' a = some (.ins A.c_EightBox dx (eiF p q l false .non)) → H' q = some (.tup [.ref x, .ref y]) → H' l = some (.lst [.int 0, .int 0]) → (∀ c o, H c = some o → c ≠ a → H' c = some o) → Q .non H'
theorem ok_EightBox_init (T : CT K mg A) (D : DT K mg A) : IOk P w K mg base 1 "EightBox" A.c_EightBox ["self", "numbers", "one", "other"] (sp_EightBox_init A) := by
  refine IOk.of T.g_EightBox D.EightBox_init fun f fd F => ?_
  refine F.ok sc_EightBox_init (fun vs H Q E h => ?_) (fun cdv Ar outer s H vs Q E hr h => ?_)
  · obtain ⟨a, dx, p, x, y, rfl, _⟩ := h
    rfl
  · obtain ⟨a, dx, p, x, y, rfl, ha, k⟩ := h
    have cl := T.cl_EightBox
    refine ⟨_, (pss_cons (ps_fld (pv 0) (pv 1) rfl)
    (pss_cons (ps_fld (pv 0) (pe_tup (pa_cons (pv 2) (pa_cons (pv 3) pa_nil))) rfl)
    (pss_cons (ps_fld (pv 0) (pe_lst (pa_cons pe_int (pa_cons pe_int pa_nil))) rfl)
    (pss_cons (ps_fld (pv 0) pe_bl rfl)
    (pss_one (ps_fld (pv 0) pe_non rfl)))))), ?_⟩
    refine ⟨_, rfl, _, rfl, a, _, dx, [], rfl, ha, cl, T.n_EightBox_numbers, (by show 0 < 1000; decide), ?_⟩
    refine ⟨_, rfl, _, rfl, (by show 2 ≤ sizeLine; decide), fun q nq => ?_⟩
    have h1 : (upd H a (.ins A.c_EightBox dx (putF "numbers" (.ref p) []))) a = some (.ins A.c_EightBox dx [("numbers", .ref p)]) := upd_same
    have s1 := same_upd (o := .tup [V.ref x, .ref y]) nq
    have naq : a ≠ q := ne_of_none h1 nq
    refine ⟨_, rfl, a, _, dx, _, rfl, s1 _ _ h1, cl, T.n_EightBox_trees, (by show 1 < 1000; decide), ?_⟩
    refine ⟨(by show 2 ≤ sizeLine; decide), fun l nl => ?_⟩
    rw [upd_ne naq.symm] at nq
    have nal : a ≠ l := ne_of_none upd_same nl
    have nlq : l ≠ q := fun z => by rw [z, upd_ne naq.symm, upd_same] at nl; cases nl
    have nl0 : H l = none := by rw [upd_ne nal.symm, upd_ne nlq, upd_ne nal.symm] at nl; exact nl
    refine ⟨_, rfl, a, _, dx, _, rfl, (by rw [upd_ne nal, upd_same]), cl, T.n_EightBox_taken, (by show 2 < 1000; decide), ?_⟩
    refine ⟨_, rfl, a, _, dx, _, rfl, upd_same, cl, T.n_EightBox_told, (by show 3 < 1000; decide), ?_⟩
    refine ⟨_, rfl, a, _, dx, _, rfl, upd_same, cl, T.n_EightBox_rest, (by show 4 < 1000; decide), ?_⟩
    rw [upd_upd, upd_upd]
    refine k q l _ nq nl0 nlq upd_same ?_ ?_ fun c o e hc => ?_
    · rw [upd_ne naq.symm, upd_ne nlq.symm, upd_ne naq.symm, upd_same]
    · rw [upd_ne nal.symm, upd_same]
    · rw [upd_ne hc, upd_ne (ne_of_none e nl0), upd_ne hc, upd_ne (ne_of_none e nq), upd_ne hc]
      exact e
def sp_eight_tell (A : Ad) (K : PySem.W.Frag) : Sp := fun vs H Q _ => ∃ (a dx p t l : Addr) (ns : List Int) (told : Bool) (q : Int), vs = [.ref a, .int q] ∧ H a = some (.ins A.c_EightBox dx (eiF p t l told .non)) ∧ SqT K H p (ns.map V.int) ∧ ns.length = 8 ∧ (∀ z ∈ ns, fits z) ∧ fits q ∧
  ∀ r p' H', H' r = some (.tup [.str "part", .int q]) → H' a = some (.ins A.c_EightBox dx (eiF p' t l true .non)) → SqT K H' p' ((turnedOver ns q).map V.int) → (∀ c o, H c = some o → c ≠ a → H' c = some o) → Q (.ref r) H'
theorem ok_EightBox_tell (T : CT K mg A) (D : DT K mg A) : MOk P w K mg base CX0 2 A.c_EightBox "tell" ["self", "part"] (sp_eight_tell A K) := by
  have G_turned_over := ok_turned_over (P := P) (w := w) (base := base) T D
  refine MOk.of T.cl_EightBox D.EightBox_tell fun f fd F => ?_
  refine F.ok sc_EightBox_tell (fun vs H Q E h => ?_) (fun cdv Ar outer s H vs Q E hr h => ?_)
  · obtain ⟨a, dx, p, t, l, ns, told, q, rfl, _⟩ := h
    rfl
  · obtain ⟨a, dx, p, t, l, ns, told, q, rfl, ha, hp, hl, hf, fq, k⟩ := h
    refine ⟨_, (pss_cons (ps_fld (pv 0) (pe_c G_turned_over (hr.mono (by first | decide | omega)) (pa_cons (pe_fld (pv 0) rfl) (pa_cons (pv 1) pa_nil))) rfl)
    (pss_cons (ps_fld (pv 0) pe_bl rfl)
    (pss_one (ps_ret (pe_tup (pa_cons pe_str (pa_cons (pv 1) pa_nil))))))), ?_⟩
    have cl := T.cl_EightBox
    refine ⟨_, rfl, a, _, dx, _, _, rfl, ha, cl, T.n_EightBox_numbers, rfl, _, rfl, p, ns, q, rfl, hp, ⟨4, hl, by decide, by decide⟩, hf, fq, fun p' H1 hp1 s1 => ?_⟩
    refine ⟨_, rfl, a, _, dx, _, rfl, s1 _ _ ha, cl, T.n_EightBox_numbers, (by show 5 < 1000; decide), ?_⟩
    refine ⟨_, rfl, a, _, dx, _, rfl, upd_same, cl, T.n_EightBox_told, (by show 5 < 1000; decide), ?_⟩
    refine ⟨_, rfl, (by show 2 ≤ sizeLine; decide), fun u nu => ?_⟩
    have s3 := same_upd (o := .tup [V.str "part", .int q]) nu
    rw [upd_upd] at *
    exact k u p' _ upd_same (s3 _ _ upd_same) (sqT_same (sqT_ins hp1 (s1 _ _ ha)) s3) fun c o e hc => s3 _ _ (by rw [upd_ne hc]; exact s1 _ _ e)
def leftOf (ns : List Int) (which : Nat) : List Int := if which = 0 then [ns.getD 0 0, ns.getD 1 0, ns.getD 4 0, ns.getD 5 0] else [ns.getD 0 0, ns.getD 2 0, ns.getD 4 0, ns.getD 6 0]
def sp_left_without (A : Ad) (K : PySem.W.Frag) : Sp := fun vs H Q _ => ∃ (a dx p t l x y : Addr) (ns : List Int) (told : Bool) (which : Nat), vs = [.ref a, .int which] ∧ which ≤ 1 ∧ H a = some (.ins A.c_EightBox dx (eiF p t l told .non)) ∧ SqT K H p (ns.map V.int) ∧ SqT K H t [.ref x, .ref y] ∧ ns.length = 8 ∧ (∀ z ∈ ns, fits z) ∧
  ∀ p' r dr C fs H', SqT K H' p' ((leftOf ns which).map V.int) → H r = none → Same H H' → H' r = some (.ins C dr fs) → OneIs A p' (if which = 0 then y else x) (leftOf ns which) told C fs → Q (.ref r) H'
theorem ok_left_without (T : CT K mg A) (D : DT K mg A) : MOk P w K mg base CX0 4 A.c_EightBox "left_without" ["self", "which"] (sp_left_without A K) := by
  have G_box_of_one := ok_box_of_one (P := P) (w := w) (base := base) T D
  refine MOk.of T.cl_EightBox D.EightBox_left_without fun f fd F => ?_
  refine F.ok sc_EightBox_left_without (fun vs H Q E h => ?_) (fun cdv Ar outer s H vs Q E hr h => ?_)
  · obtain ⟨a, dx, p, t, l, x, y, ns, told, which, rfl, _⟩ := h
    rfl
  · obtain ⟨a, dx, p, t, l, x, y, ns, told, which, rfl, hw, ha, hp, ht, hl, hf, k⟩ := h
    refine ⟨_, (pss_cons (ps_asg (pe_fld (pv 0) rfl) (pg_tup rfl (pgs_cons (pg_name (i := 2) sc_EightBox_left_without.nd rfl (Or.inl rfl)) (pgs_cons (pg_name (i := 3) sc_EightBox_left_without.nd rfl (Or.inl rfl)) (pgs_cons (pg_name (i := 4) sc_EightBox_left_without.nd rfl (Or.inl rfl)) (pgs_cons (pg_name (i := 5) sc_EightBox_left_without.nd rfl (Or.inl rfl)) (pgs_cons (pg_name (i := 6) sc_EightBox_left_without.nd rfl (Or.inl rfl)) (pgs_cons (pg_name (i := 7) sc_EightBox_left_without.nd rfl (Or.inl rfl)) (pgs_cons (pg_name (i := 8) sc_EightBox_left_without.nd rfl (Or.inl rfl)) (pgs_cons (pg_name (i := 9) sc_EightBox_left_without.nd rfl (Or.inl rfl)) pgs_nil))))))))))
    (pss_cons (ps_if (pt_cmpR op_eq (pv 1) pe_int (nomark _))
      (pss_one (ps_ret (pe_c G_box_of_one (hr.mono (by first | decide | omega)) (pa_cons (pe_tup (pa_cons (pv 2) (pa_cons (pv 3) (pa_cons (pv 6) (pa_cons (pv 7) pa_nil))))) (pa_cons (pe_ix ix_tup (pe_fld (pv 0) rfl) pe_int (fun _ _ => rfl)) (pa_cons (pe_fld (pv 0) rfl) pa_nil)))))) pss_nil)
    (pss_one (ps_ret (pe_c G_box_of_one (hr.mono (by first | decide | omega)) (pa_cons (pe_tup (pa_cons (pv 2) (pa_cons (pv 4) (pa_cons (pv 6) (pa_cons (pv 8) pa_nil))))) (pa_cons (pe_ix ix_tup (pe_fld (pv 0) rfl) pe_int (fun _ _ => rfl)) (pa_cons (pe_fld (pv 0) rfl) pa_nil)))))))), ?_⟩
    have cl := T.cl_EightBox
    match ns, hl with
    | [n0, n1, n2, n3, n4, n5, n6, n7], _ =>
      refine ⟨_, rfl, a, _, dx, _, _, rfl, ha, cl, T.n_EightBox_numbers, rfl, p, _, rfl, hp, rfl, _, _, rfl, _, _, rfl, _, _, rfl, _, _, rfl, _, _, rfl, _, _, rfl, _, _, rfl, _, _, rfl, rfl, ?_⟩
      refine ⟨_, rfl, rfl, _, rfl, ?_⟩
      match which, hw with
      | 0, _ =>
        refine iteT ⟨_, rfl, _, rfl, _, rfl, _, rfl, (by show 4 ≤ sizeLine; decide), fun p' np => ?_⟩
        have s1 := same_upd (o := .tup [V.int n0, .int n1, .int n4, .int n5]) np
        refine ⟨_, rfl, a, _, dx, _, _, rfl, s1 _ _ ha, cl, T.n_EightBox_trees, rfl, t, _, 1, _, rfl, rfl, sqT_same ht s1, atI_nat (j := 1) rfl, _, rfl, a, _, dx, _, _, rfl, s1 _ _ ha, cl, T.n_EightBox_told, rfl, ?_⟩
        refine ⟨p', y, [n0, n1, n4, n5], told, rfl, SqT.of upd_same, rfl, (by intro z hz; simp at hz; rcases hz with rfl | rfl | rfl | rfl <;> exact hf _ (by simp)), fun r dr C fs H' nr s2 hr' o => ?_⟩
        exact k p' r dr C fs H' (sqT_same (SqT.of upd_same) s2) (s1.free nr) (s1.trans s2) hr' o
      | 1, _ =>
        refine iteF ⟨_, rfl, _, rfl, _, rfl, _, rfl, (by show 4 ≤ sizeLine; decide), fun p' np => ?_⟩
        have s1 := same_upd (o := .tup [V.int n0, .int n2, .int n4, .int n6]) np
        refine ⟨_, rfl, a, _, dx, _, _, rfl, s1 _ _ ha, cl, T.n_EightBox_trees, rfl, t, _, 0, _, rfl, rfl, sqT_same ht s1, atI_nat (j := 0) rfl, _, rfl, a, _, dx, _, _, rfl, s1 _ _ ha, cl, T.n_EightBox_told, rfl, ?_⟩
        refine ⟨p', x, [n0, n2, n4, n6], told, rfl, SqT.of upd_same, rfl, (by intro z hz; simp at hz; rcases hz with rfl | rfl | rfl | rfl <;> exact hf _ (by simp)), fun r dr C fs H' nr s2 hr' o => ?_⟩
        exact k p' r dr C fs H' (sqT_same (SqT.of upd_same) s2) (s1.free nr) (s1.trans s2) hr' o
def withPart (ns : List Int) (which : Nat) (q : Int) : List Int := if which = 0 then withFirst ns q else withSecond ns q
def sp_eight_take (A : Ad) (K : PySem.W.Frag) : Sp := fun vs H Q _ => ∃ (a dx p t l x y : Addr) (ns : List Int) (told : Bool) (which : Nat) (i j : Int) (v : V) (an : Ans), vs = [.ref a, .int which, v] ∧ which ≤ 1 ∧ an.At A H v ∧ H a = some (.ins A.c_EightBox dx (eiF p t l told .non)) ∧ SqT K H p (ns.map V.int) ∧ SqT K H t [.ref x, .ref y] ∧ H l = some (.lst [.int i, .int j]) ∧ ns.length = 8 ∧ (∀ z ∈ ns, fits z) ∧
  match an with
  | .waits => False
  | .fin => ∀ p' r dr C fs H', SqT K H' p' ((leftOf ns which).map V.int) → H r = none → H' a = some (.ins A.c_EightBox dx (eiF p t l told (.ref r))) → (∀ c o, H c = some o → c ≠ a → H' c = some o) → H' r = some (.ins C dr fs) → OneIs A p' (if which = 0 then y else x) (leftOf ns which) told C fs → Q .non H'
  | .part q => fits q ∧ ∀ p' H', H' a = some (.ins A.c_EightBox dx (eiF p' t l told .non)) → SqT K H' p' ((withPart ns which q).map V.int) → H' l = some (.lst (if which = 0 then [.int (i + 1), .int j] else [.int i, .int (j + 1)])) → (∀ c o, H c = some o → c ≠ a → c ≠ l → H' c = some o) → Q .non H'
theorem ok_EightBox_take (T : CT K mg A) (D : DT K mg A) : MOk P w K mg base CX0 5 A.c_EightBox "take" ["self", "which", "answer"] (sp_eight_take A K) := by
  have M_left := ok_left_without (P := P) (w := w) (base := base) T D
  have G_with_first_part := ok_with_first_part (P := P) (w := w) (base := base) T D
  have G_with_second_part := ok_with_second_part (P := P) (w := w) (base := base) T D
  refine MOk.of T.cl_EightBox D.EightBox_take fun f fd F => ?_
  refine F.ok sc_EightBox_take (fun vs H Q E h => ?_) (fun cdv Ar outer s H vs Q E hr h => ?_)
  · obtain ⟨a, dx, p, t, l, x, y, ns, told, which, i, j, v, an, rfl, _⟩ := h
    rfl
  · obtain ⟨a, dx, p, t, l, x, y, ns, told, which, i, j, v, an, rfl, hw, hv, ha, hp, ht, hL, hl, hf, k⟩ := h
    refine ⟨_, (pss_cons (ps_if (pt_cmpR (op_eqD hr.units) (pv 2) (pe_glob (v := .ref A.k_END) (by rfl) T.g_END rfl) (nomark _))
      (pss_cons (ps_fld (pv 0) (pe_m M_left (hr.mono (by first | decide | omega)) (pv 0) (pa_cons (pv 1) pa_nil)) rfl)
    (pss_one ps_retN)) pss_nil)
    (pss_cons (ps_if (pt_cmpR op_eq (pv 1) pe_int (nomark _))
      (pss_one (ps_fld (pv 0) (pe_c G_with_first_part (hr.mono (by first | decide | omega)) (pa_cons (pe_fld (pv 0) rfl) (pa_cons (pe_ix ix_tup (pv 2) pe_int (fun _ _ => rfl)) pa_nil))) rfl)) (pss_one (ps_fld (pv 0) (pe_c G_with_second_part (hr.mono (by first | decide | omega)) (pa_cons (pe_fld (pv 0) rfl) (pa_cons (pe_ix ix_tup (pv 2) pe_int (fun _ _ => rfl)) pa_nil))) rfl)))
    (pss_one (ps_augS (pe_fld (pv 0) rfl) (pv 1) get_listP pe_int ip_add set_list)))), ?_⟩
    have cl := T.cl_EightBox
    obtain ⟨pv', rfl, hpv⟩ := hv.tup T
    have hE : SqT K H A.k_END Ans.fin.vals := T.t_END H
    refine ⟨_, rfl, _, _, an.dp hpv, Ans.fin.dp hE, an.shaped, Ans.fin.shaped, _, rfl, ?_⟩
    rw [eqv_fin]
    cases an with
    | waits => exact k.elim
    | fin =>
      refine iteT ⟨_, rfl, a, dx, _, rfl, ha, rfl, _, rfl, a, dx, p, t, l, x, y, ns, told, which, rfl, hw, ha, hp, ht, hl, hf, fun p' r dr C fs H1 hp1 nr s1 hr1 o => ?_⟩
      refine ⟨_, rfl, a, _, dx, _, rfl, s1 _ _ ha, cl, T.n_EightBox_rest, (by show 5 < 1000; decide), ?_⟩
      exact k p' r dr C fs _ (sqT_ins hp1 (s1 _ _ ha)) nr upd_same (fun c o e hc => by rw [upd_ne hc]; exact s1 _ _ e) (by rw [upd_ne (ne_of_none ha nr).symm]; exact hr1) o
    | part q =>
      obtain ⟨fq, k⟩ := k
      have nal : l ≠ a := ne_of hL ha (by intro z; cases z)
      refine iteF ?_
      match which, hw with
      | 0, _ =>
        refine ⟨_, rfl, rfl, _, rfl, iteT ?_⟩
        refine ⟨_, rfl, a, _, dx, _, _, rfl, ha, cl, T.n_EightBox_numbers, rfl, _, rfl, pv', _, 1, _, rfl, rfl, hpv, atI_nat (j := 1) rfl, p, ns, q, rfl, hp, hl, hf, fq, fun p' H1 hp1 s1 => ?_⟩
        refine ⟨_, rfl, a, _, dx, _, rfl, s1 _ _ ha, cl, T.n_EightBox_numbers, (by show 5 < 1000; decide), ?_⟩
        have hL1 : (upd H1 a (.ins A.c_EightBox dx (putF "numbers" (.ref p') (eiF p t l told .non)))) l = some (.lst [.int i, .int j]) := by rw [upd_ne nal]; exact s1 _ _ hL
        refine ⟨_, rfl, a, _, dx, _, _, rfl, upd_same, cl, T.n_EightBox_taken, rfl, _, rfl, l, _, 0, _, rfl, rfl, SqL.of hL1, rfl, _, _, rfl, rfl, l, _, 0, 0, rfl, rfl, hL1, rfl, ?_⟩
        refine k p' _ ?_ ?_ upd_same fun c o e hc hcl => ?_
        · rw [upd_ne nal.symm, upd_same]; rfl
        · exact sqT_lst (sqT_ins hp1 (s1 _ _ ha)) hL1
        · rw [upd_ne hcl, upd_ne hc]; exact s1 _ _ e
      | 1, _ =>
        refine ⟨_, rfl, rfl, _, rfl, iteF ?_⟩
        refine ⟨_, rfl, a, _, dx, _, _, rfl, ha, cl, T.n_EightBox_numbers, rfl, _, rfl, pv', _, 1, _, rfl, rfl, hpv, atI_nat (j := 1) rfl, p, ns, q, rfl, hp, hl, hf, fq, fun p' H1 hp1 s1 => ?_⟩
        refine ⟨_, rfl, a, _, dx, _, rfl, s1 _ _ ha, cl, T.n_EightBox_numbers, (by show 5 < 1000; decide), ?_⟩
        have hL1 : (upd H1 a (.ins A.c_EightBox dx (putF "numbers" (.ref p') (eiF p t l told .non)))) l = some (.lst [.int i, .int j]) := by rw [upd_ne nal]; exact s1 _ _ hL
        refine ⟨_, rfl, a, _, dx, _, _, rfl, upd_same, cl, T.n_EightBox_taken, rfl, _, rfl, l, _, 1, _, rfl, rfl, SqL.of hL1, rfl, _, _, rfl, rfl, l, _, 1, 1, rfl, rfl, hL1, rfl, ?_⟩
        refine k p' _ ?_ ?_ upd_same fun c o e hc hcl => ?_
        · rw [upd_ne nal.symm, upd_same]; rfl
        · exact sqT_lst (sqT_ins hp1 (s1 _ _ ha)) hL1
        · rw [upd_ne hcl, upd_ne hc]; exact s1 _ _ e
end
/-! ### boxes: what they are, in plain Lean, and where they stand -/
inductive Box where
  | leaf (c : Chain)
  | fb (t b : Int) (told : Bool)
  | four (ns : List Int) (st told : Bool) (x : Box)
  | fourR (t b : Int) (told : Bool)
  | eight (ns : List Int) (i j : Int) (told : Bool) (x y : Box)
  | eightR (r : Box)
def Box.wt : Box → Nat
  | .leaf _ => 0
  | .fb _ _ _ => 0
  | .four _ _ _ x => x.wt + 1
  | .fourR _ _ _ => 1
  | .eight _ _ _ _ x y => max x.wt y.wt + 3
  | .eightR r => r.wt + 2
/-- of which class -/
def Box.kind : Box → Nat
  | .leaf _ => 0
  | .fb _ _ _ => 1
  | .four _ _ _ _ => 2
  | .fourR _ _ _ => 2
  | .eight _ _ _ _ _ _ => 3
  | .eightR _ => 3
/-- whole trees within: no fraction box there; a rest is a four or a fraction box -/
def Box.Ok : Box → Prop
  | .leaf c => c.Ok
  | .fb _ _ _ => True
  | .four ns _ _ x => ns.length = 4 ∧ x.Ok ∧ x.kind ≠ 1
  | .fourR _ _ _ => True
  | .eight ns i j _ x y => ns.length = 8 ∧ x.Ok ∧ y.Ok ∧ x.kind ≠ 1 ∧ y.kind ≠ 1 ∧ 0 ≤ i ∧ 0 ≤ j
  | .eightR r => r.Ok ∧ (r.kind = 1 ∨ r.kind = 2)
def allFit (ns : List Int) (cs : List (Int × Int)) : Bool := ns.all (fun z => decide (fits z)) && cs.all (fun c => decide (fits c.1) && decide (fits c.2))
/-- a fraction box, asked -/
def fbAsk (t b : Int) (told : Bool) : Option (Option Ans × Int × Int × Bool) :=
  if fits t ∧ fits b then (if b = 0 then (if told = true then some (some .fin, t, b, told) else some (none, t, b, told)) else some (some (.part (t.fdiv b)), b, t - t.fdiv b * b, true)) else none
def oneBox (ns : List Int) (told : Bool) (x : Box) : Box :=
  if ns.getD 0 0 * ns.getD 3 0 ≠ ns.getD 1 0 * ns.getD 2 0 then .four ns true told x
  else if ns.getD 2 0 ≠ 0 then .fb (ns.getD 0 0) (ns.getD 2 0) told else .fb (ns.getD 1 0) (ns.getD 3 0) told
/-- what is told (none: NoValue), the box behind it, how many parts of leaves may yet be taken; nothing where the numbers are too great, or the fuel too little -/
def askF : Nat → Box → Int → Option (Option Ans × Box × Int)
  | 0, _, _ => none
  | _ + 1, .leaf c, l => some (some (c.ans l), .leaf (c.then_ l), l - c.took l)
  | _ + 1, .fb t b told, l => (fbAsk t b told).map fun r => (r.1, .fb r.2.1 r.2.2.1 r.2.2.2, l)
  | _ + 1, .fourR t b told, l => (fbAsk t b told).map fun r => (r.1, .fourR r.2.1 r.2.2.1 r.2.2.2, l)
  | n + 1, .four ns st told x, l =>
    if allFit ns (fourCorners ns) = true then
      match (if st = true then surePart (fourCorners ns) else none) with
      | some q => some (some (.part q), .four (turnedOver ns q) st true x, l)
      | none => match askF n x l with
        | none => none
        | some (none, x', l') => some (none, .four ns st told x', l')
        | some (some .waits, x', l') => some (some .waits, .four ns st told x', l')
        | some (some .fin, _, l') => askF n (.fourR (ns.getD 0 0) (ns.getD 2 0) told) l'
        | some (some (.part q), x', l') => if fits q then askF n (.four (withOne ns q) true told x') l' else none
    else none
  | n + 1, .eight ns i j told x y, l =>
    if allFit ns (eightCorners ns) = true then
      match (if 0 < i ∧ 0 < j then surePart (eightCorners ns) else none) with
      | some q => some (some (.part q), .eight (turnedOver ns q) i j true x y, l)
      | none =>
        if i ≤ j then match askF n x l with
          | none => none
          | some (none, x', l') => some (none, .eight ns i j told x' y, l')
          | some (some .waits, x', l') => some (some .waits, .eight ns i j told x' y, l')
          | some (some .fin, _, l') => askF n (.eightR (oneBox (leftOf ns 0) told y)) l'
          | some (some (.part q), x', l') => if fits q then askF n (.eight (withFirst ns q) (i + 1) j told x' y) l' else none
        else match askF n y l with
          | none => none
          | some (none, y', l') => some (none, .eight ns i j told x y', l')
          | some (some .waits, y', l') => some (some .waits, .eight ns i j told x y', l')
          | some (some .fin, _, l') => askF n (.eightR (oneBox (leftOf ns 1) told x)) l'
          | some (some (.part q), y', l') => if fits q then askF n (.eight (withSecond ns q) i (j + 1) told x y') l' else none
    else none
  | n + 1, .eightR r, l => (askF n r l).map fun z => (z.1, .eightR z.2.1, z.2.2)
def BoxAt (A : Ad) (K : PySem.W.Frag) (H : Hp) : Box → Addr → List Addr → Prop
  | .leaf c, a, fp => ∃ ca, fp = [a, ca] ∧ LeafAt A K H a ca c ∧ a ≠ ca
  | .fb t b told, a, fp => ∃ dx, fp = [a] ∧ H a = some (.ins A.c_FractionBox dx (fbF t b told))
  | .four ns st told x, a, fp => ∃ dx p tx fx, fp = a :: fx ∧ H a = some (.ins A.c_FourBox dx (foF p tx st told .non)) ∧ SqT K H p (ns.map V.int) ∧ BoxAt A K H x tx fx ∧ a ∉ fx
  | .fourR t b told, a, fp => ∃ dx p tx st told' r dr, fp = [a, r] ∧ H a = some (.ins A.c_FourBox dx (foF p tx st told' (.ref r))) ∧ H r = some (.ins A.c_FractionBox dr (fbF t b told)) ∧ a ≠ r
  | .eight ns i j told x y, a, fp => ∃ dx p t l tx ty fx fy, fp = a :: l :: (fx ++ fy) ∧ H a = some (.ins A.c_EightBox dx (eiF p t l told .non)) ∧ SqT K H p (ns.map V.int) ∧ SqT K H t [.ref tx, .ref ty] ∧ H l = some (.lst [.int i, .int j]) ∧
      BoxAt A K H x tx fx ∧ BoxAt A K H y ty fy ∧ a ∉ fx ∧ a ∉ fy ∧ l ∉ fx ∧ l ∉ fy ∧ ∀ c ∈ fx, c ∉ fy
  | .eightR r, a, fp => ∃ dx p t l told b fr, fp = a :: fr ∧ H a = some (.ins A.c_EightBox dx (eiF p t l told (.ref b))) ∧ BoxAt A K H r b fr ∧ a ∉ fr
section
variable {P : Program} [NoTree P] {w : World} {K : PySem.W.Frag} {mg : Str → Option Value} {base : Heap} {A : Ad}
/-- no tuple, no locked thing -/
def Soft (H : Hp) (c : Addr) : Prop := (∃ C dx fs, H c = some (.ins C dx fs)) ∨ ∃ xs, H c = some (.lst xs)
theorem Soft.no {H : Hp} {c : Addr} {o : HO} (h : Soft H c) (e : H c = some o) : (∀ ys, o ≠ .tup ys) ∧ ∀ ob u, o ≠ .frz ob u := by
  rcases h with ⟨C, dx, fs, z⟩ | ⟨xs, z⟩
  · rw [z] at e; cases e; exact ⟨fun _ q => (by cases q), fun _ _ q => (by cases q)⟩
  · rw [z] at e; cases e; exact ⟨fun _ q => (by cases q), fun _ _ q => (by cases q)⟩
theorem BoxAt.soft {H : Hp} : ∀ {B : Box} {a : Addr} {fp : List Addr}, BoxAt A K H B a fp → ∀ c ∈ fp, Soft H c
  | .leaf ch, a, fp, h => by
    obtain ⟨ca, rfl, ⟨⟨dx, e⟩, hc⟩, _⟩ := h
    intro c hm
    simp only [List.mem_cons, List.not_mem_nil, or_false] at hm
    rcases hm with rfl | rfl
    · exact .inl ⟨_, _, _, e⟩
    · exact .inl hc.there
  | .fb t b told, a, fp, h => by
    obtain ⟨dx, rfl, e⟩ := h
    intro c hm
    simp only [List.mem_cons, List.not_mem_nil, or_false] at hm
    subst hm
    exact .inl ⟨_, _, _, e⟩
  | .four ns st told x, a, fp, h => by
    obtain ⟨dx, p, tx, fx, rfl, e, hp, hx, na⟩ := h
    intro c hm
    rcases List.mem_cons.mp hm with rfl | hm
    · exact .inl ⟨_, _, _, e⟩
    · exact BoxAt.soft hx c hm
  | .fourR t b told, a, fp, h => by
    obtain ⟨dx, p, tx, st, told', r, dr, rfl, e, er, _⟩ := h
    intro c hm
    simp only [List.mem_cons, List.not_mem_nil, or_false] at hm
    rcases hm with rfl | rfl
    · exact .inl ⟨_, _, _, e⟩
    · exact .inl ⟨_, _, _, er⟩
  | .eight ns i j told x y, a, fp, h => by
    obtain ⟨dx, p, t, l, tx, ty, fx, fy, rfl, e, hp, ht, hl, hx, hy, _⟩ := h
    intro c hm
    rcases List.mem_cons.mp hm with rfl | hm
    · exact .inl ⟨_, _, _, e⟩
    · rcases List.mem_cons.mp hm with rfl | hm
      · exact .inr ⟨_, hl⟩
      · rcases List.mem_append.mp hm with hm | hm
        · exact BoxAt.soft hx c hm
        · exact BoxAt.soft hy c hm
  | .eightR r, a, fp, h => by
    obtain ⟨dx, p, t, l, told, b, fr, rfl, e, hr, _⟩ := h
    intro c hm
    rcases List.mem_cons.mp hm with rfl | hm
    · exact .inl ⟨_, _, _, e⟩
    · exact BoxAt.soft hr c hm
theorem BoxAt.kept {H H' : Hp} {N : Addr → Prop} (k : ∀ c o, H c = some o → ¬ N c → H' c = some o) (hN : ∀ c o, N c → H c = some o → (∀ ys, o ≠ .tup ys) ∧ ∀ ob u, o ≠ .frz ob u) :
    ∀ {B : Box} {a : Addr} {fp : List Addr}, BoxAt A K H B a fp → (∀ c ∈ fp, ¬ N c) → BoxAt A K H' B a fp
  | .leaf ch, a, fp, h, n => by
    obtain ⟨ca, rfl, ⟨⟨dx, e⟩, hc⟩, ne⟩ := h
    exact ⟨ca, rfl, ⟨⟨dx, k _ _ e (n a (by simp))⟩, hc.kept (n ca (by simp)) k hN⟩, ne⟩
  | .fb t b told, a, fp, h, n => by
    obtain ⟨dx, rfl, e⟩ := h
    exact ⟨dx, rfl, k _ _ e (n a (by simp))⟩
  | .four ns st told x, a, fp, h, n => by
    obtain ⟨dx, p, tx, fx, rfl, e, hp, hx, na⟩ := h
    exact ⟨dx, p, tx, fx, rfl, k _ _ e (n a (by simp)), sqT_but hp k hN, BoxAt.kept k hN hx (fun c hc => n c (by simp [hc])), na⟩
  | .fourR t b told, a, fp, h, n => by
    obtain ⟨dx, p, tx, st, told', r, dr, rfl, e, er, ne⟩ := h
    exact ⟨dx, p, tx, st, told', r, dr, rfl, k _ _ e (n a (by simp)), k _ _ er (n r (by simp)), ne⟩
  | .eight ns i j told x y, a, fp, h, n => by
    obtain ⟨dx, p, t, l, tx, ty, fx, fy, rfl, e, hp, ht, hl, hx, hy, z⟩ := h
    exact ⟨dx, p, t, l, tx, ty, fx, fy, rfl, k _ _ e (n a (by simp)), sqT_but hp k hN, sqT_but ht k hN, k _ _ hl (n l (by simp)), BoxAt.kept k hN hx (fun c hc => n c (by simp [hc])), BoxAt.kept k hN hy (fun c hc => n c (by simp [hc])), z⟩
  | .eightR r, a, fp, h, n => by
    obtain ⟨dx, p, t, l, told, b, fr, rfl, e, hr, na⟩ := h
    exact ⟨dx, p, t, l, told, b, fr, rfl, k _ _ e (n a (by simp)), BoxAt.kept k hN hr (fun c hc => n c (by simp [hc])), na⟩
theorem BoxAt.same {H H' : Hp} {B : Box} {a : Addr} {fp : List Addr} (h : BoxAt A K H B a fp) (s : Same H H') : BoxAt A K H' B a fp :=
  h.kept (N := fun _ => False) (fun c o e _ => s c o e) (fun _ _ z => z.elim) fun _ _ z => z
/-- the box itself is of its footprint -/
theorem BoxAt.mem {H : Hp} {B : Box} {a : Addr} {fp : List Addr} (h : BoxAt A K H B a fp) : a ∈ fp := by
  cases B with
  | leaf c => obtain ⟨ca, rfl, _⟩ := h; simp
  | fb t b u => obtain ⟨dx, rfl, _⟩ := h; simp
  | four ns st told x => obtain ⟨dx, p, tx, fx, rfl, _⟩ := h; simp
  | fourR t b u => obtain ⟨dx, p, tx, st, told', r, dr, rfl, _⟩ := h; simp
  | eight ns i j told x y => obtain ⟨dx, p, t, l, tx, ty, fx, fy, rfl, _⟩ := h; simp
  | eightR r => obtain ⟨dx, p, t, l, told, b, fr, rfl, _⟩ := h; simp
theorem allFit_ns {ns : List Int} {cs : List (Int × Int)} (h : allFit ns cs = true) : (∀ z ∈ ns, fits z) ∧ ∀ c ∈ cs, fits c.1 ∧ fits c.2 := by
  unfold allFit at h
  rw [Bool.and_eq_true, List.all_eq_true, List.all_eq_true] at h
  refine ⟨fun z hz => of_decide_eq_true (h.1 z hz), fun c hc => ?_⟩
  have := h.2 c hc
  rw [Bool.and_eq_true] at this
  exact ⟨of_decide_eq_true this.1, of_decide_eq_true this.2⟩
theorem surePart_fits {cs : List (Int × Int)} {q : Int} (h : surePart cs = some q) (hf : ∀ c ∈ cs, fits c.1 ∧ fits c.2) (hc : 0 < cs.length) : fits q := by
  have hfd : ∀ d ∈ flipped cs, fits d.1 ∧ fits d.2 := by
    unfold flipped
    split
    · intro d hd
      obtain ⟨c, hc, rfl⟩ := List.mem_map.mp hd
      exact ⟨fits_neg (hf c hc).1, fits_neg (hf c hc).2⟩
    · exact hf
  have hlen : 0 < (flipped cs).length := by
    unfold flipped
    split
    · rw [List.length_map]; exact hc
    · exact hc
  unfold surePart at h
  simp only at h
  generalize flipped cs = ds at *
  match ds, hlen with
  | d0 :: dr, _ =>
    rw [List.getD_cons_zero] at h
    split at h
    · rename_i hp
      split at h
      · cases h
        have p0 : 0 < d0.2 := of_decide_eq_true (List.all_eq_true.mp hp d0 List.mem_cons_self)
        exact Nat.lt_of_le_of_lt (fdiv_abs (by omega)) (hfd d0 List.mem_cons_self).1
      · cases h
    · cases h
theorem turnedOver_len {ns : List Int} {q : Int} {h : Nat} (e : ns.length = 2 * h) : (turnedOver ns q).length = ns.length := by
  unfold turnedOver
  rw [List.length_append, List.length_drop, List.length_zipWith, List.length_take, List.length_drop]
  omega
theorem oneBox_ok {ns : List Int} {told : Bool} {x : Box} (hl : ns.length = 4) (hx : x.Ok) (hk : x.kind ≠ 1) : (oneBox ns told x).Ok ∧ (oneBox ns told x).wt ≤ x.wt + 1 ∧ ((oneBox ns told x).kind = 1 ∨ (oneBox ns told x).kind = 2) := by
  unfold oneBox
  split
  · exact ⟨⟨hl, hx, hk⟩, Nat.le_refl _, .inr rfl⟩
  · split
    · exact ⟨trivial, Nat.zero_le _, .inl rfl⟩
    · exact ⟨trivial, Nat.zero_le _, .inl rfl⟩
theorem askF_ok : ∀ {n : Nat} {B : Box} {l : Int} {o : Option Ans} {B' : Box} {l' : Int}, B.Ok → askF n B l = some (o, B', l') → B'.Ok ∧ B'.wt ≤ B.wt ∧ B'.kind = B.kind
  | 0, B, l, o, B', l', _, e => by cases B <;> cases e
  | n + 1, .leaf c, l, o, B', l', ok, e => by
    cases e
    exact ⟨Chain.Ok.then_ (ch := c) ok l, Nat.le_refl _, rfl⟩
  | n + 1, .fb t b told, l, o, B', l', ok, e => by
    simp only [askF, Option.map_eq_some_iff] at e
    obtain ⟨r, _, e⟩ := e
    cases e
    exact ⟨trivial, Nat.le_refl _, rfl⟩
  | n + 1, .fourR t b told, l, o, B', l', ok, e => by
    simp only [askF, Option.map_eq_some_iff] at e
    obtain ⟨r, _, e⟩ := e
    cases e
    exact ⟨trivial, Nat.le_refl _, rfl⟩
  | n + 1, .four ns st told x, l, o, B', l', ok, e => by
    obtain ⟨hl, hx, hk⟩ := ok
    simp only [askF] at e
    split at e
    · split at e
      · cases e
        exact ⟨⟨(turnedOver_len (h := 2) hl).trans hl, hx, hk⟩, Nat.le_refl _, rfl⟩
      · split at e
        · cases e
        · rename_i x' l1 ex
          cases e
          obtain ⟨a1, a2, a3⟩ := askF_ok hx ex
          exact ⟨⟨hl, a1, a3 ▸ hk⟩, Nat.succ_le_succ a2, rfl⟩
        · rename_i x' l1 ex
          cases e
          obtain ⟨a1, a2, a3⟩ := askF_ok hx ex
          exact ⟨⟨hl, a1, a3 ▸ hk⟩, Nat.succ_le_succ a2, rfl⟩
        · obtain ⟨a1, a2, a3⟩ := askF_ok (B := .fourR _ _ _) trivial e
          exact ⟨a1, Nat.le_trans a2 (Nat.succ_le_succ (Nat.zero_le _)), a3⟩
        · rename_i q x' l1 ex
          split at e
          · obtain ⟨a1, a2, a3⟩ := askF_ok hx ex
            obtain ⟨b1, b2, b3⟩ := askF_ok (B := .four (withOne ns q) true told x') ⟨rfl, a1, a3 ▸ hk⟩ e
            exact ⟨b1, Nat.le_trans b2 (Nat.succ_le_succ a2), b3⟩
          · cases e
    · cases e
  | n + 1, .eight ns i j told x y, l, o, B', l', ok, e => by
    obtain ⟨hl, hx, hy, hkx, hky, hi, hj⟩ := ok
    simp only [askF] at e
    have wx : x.wt ≤ max x.wt y.wt := Nat.le_max_left _ _
    have wy : y.wt ≤ max x.wt y.wt := Nat.le_max_right _ _
    split at e
    · split at e
      · cases e
        exact ⟨⟨(turnedOver_len (h := 4) hl).trans hl, hx, hy, hkx, hky, hi, hj⟩, Nat.le_refl _, rfl⟩
      · split at e
        · split at e
          · cases e
          · rename_i x' l1 ex
            cases e
            obtain ⟨a1, a2, a3⟩ := askF_ok hx ex
            exact ⟨⟨hl, a1, hy, a3 ▸ hkx, hky, hi, hj⟩, (by show max _ _ + 3 ≤ max _ _ + 3; omega), rfl⟩
          · rename_i x' l1 ex
            cases e
            obtain ⟨a1, a2, a3⟩ := askF_ok hx ex
            exact ⟨⟨hl, a1, hy, a3 ▸ hkx, hky, hi, hj⟩, (by show max _ _ + 3 ≤ max _ _ + 3; omega), rfl⟩
          · have z := oneBox_ok (ns := leftOf ns 0) (told := told) rfl hy hky
            obtain ⟨b1, b2, b3⟩ := askF_ok (B := .eightR (oneBox (leftOf ns 0) told y)) ⟨z.1, z.2.2⟩ e
            exact ⟨b1, Nat.le_trans b2 (by show _ + 2 ≤ max _ _ + 3; have := z.2.1; omega), b3⟩
          · rename_i q x' l1 ex
            split at e
            · obtain ⟨a1, a2, a3⟩ := askF_ok hx ex
              obtain ⟨b1, b2, b3⟩ := askF_ok (B := .eight (withFirst ns q) (i + 1) j told x' y) ⟨rfl, a1, hy, a3 ▸ hkx, hky, by omega, hj⟩ e
              exact ⟨b1, Nat.le_trans b2 (by show max _ _ + 3 ≤ max _ _ + 3; omega), b3⟩
            · cases e
        · split at e
          · cases e
          · rename_i x' l1 ex
            cases e
            obtain ⟨a1, a2, a3⟩ := askF_ok hy ex
            exact ⟨⟨hl, hx, a1, hkx, a3 ▸ hky, hi, hj⟩, (by show max _ _ + 3 ≤ max _ _ + 3; omega), rfl⟩
          · rename_i x' l1 ex
            cases e
            obtain ⟨a1, a2, a3⟩ := askF_ok hy ex
            exact ⟨⟨hl, hx, a1, hkx, a3 ▸ hky, hi, hj⟩, (by show max _ _ + 3 ≤ max _ _ + 3; omega), rfl⟩
          · have z := oneBox_ok (ns := leftOf ns 1) (told := told) rfl hx hkx
            obtain ⟨b1, b2, b3⟩ := askF_ok (B := .eightR (oneBox (leftOf ns 1) told x)) ⟨z.1, z.2.2⟩ e
            exact ⟨b1, Nat.le_trans b2 (by show _ + 2 ≤ max _ _ + 3; have := z.2.1; omega), b3⟩
          · rename_i q x' l1 ex
            split at e
            · obtain ⟨a1, a2, a3⟩ := askF_ok hy ex
              obtain ⟨b1, b2, b3⟩ := askF_ok (B := .eight (withSecond ns q) i (j + 1) told x x') ⟨rfl, hx, a1, hkx, a3 ▸ hky, hi, by omega⟩ e
              exact ⟨b1, Nat.le_trans b2 (by show max _ _ + 3 ≤ max _ _ + 3; omega), b3⟩
            · cases e
    · cases e
  | n + 1, .eightR r, l, o, B', l', ok, e => by
    simp only [askF, Option.map_eq_some_iff] at e
    obtain ⟨⟨o1, r1, l1⟩, e1, e⟩ := e
    cases e
    obtain ⟨a1, a2, a3⟩ := askF_ok ok.1 e1
    exact ⟨⟨a1, by rw [a3]; exact ok.2⟩, Nat.add_le_add_right a2 2, rfl⟩
end
/-! ### boxes, asked -/
/-- what follows of a box's asking, at a, with the meter at m: none: NoValue is raised -/
def FinB (A : Ad) (K : PySem.W.Frag) (Q : VK) (E : XK) (H : Hp) (a m : Addr) (fp : List Addr) (l s : Int) (o : Option Ans) (B' : Box) (l' : Int) : Prop :=
  ∀ (H' : Hp) (fp' : List Addr), BoxAt A K H' B' a fp' → MeterAt A H' m l' (s + (l - l')) → m ∉ fp' → (∀ c z, H c = some z → c ∉ fp → c ≠ m → H' c = some z) → (∀ c ∈ fp', c ∈ fp ∨ H c = none) →
    match o with
    | none => E (.ref A.c_NoValue) none H'
    | some an => ∀ v, an.At A H' v → Q v H'
theorem FinB.step {A : Ad} {K : PySem.W.Frag} {Q : VK} {E : XK} {H H1 : Hp} {a m : Addr} {fp fp1 : List Addr} {l s l1 s1 : Int} {o : Option Ans} {B' : Box} {l' : Int} (k : FinB A K Q E H a m fp l s o B' l')
    (fr : ∀ c z, H c = some z → c ∉ fp → c ≠ m → H1 c = some z) (sub : ∀ c ∈ fp1, c ∈ fp ∨ H c = none) (es : s1 + l1 = s + l) : FinB A K Q E H1 a m fp1 l1 s1 o B' l' := by
  intro H' fp' hB hm nm fr' sub'
  refine k H' fp' hB (by rw [show s + (l - l') = s1 + (l1 - l') by omega]; exact hm) nm (fun c z e hc hcm => fr' c z (fr c z e hc hcm) (fun q => ?_) hcm) (fun c hc => ?_)
  · rcases sub c q with q | q
    · exact hc q
    · rw [q] at e; cases e
  · rcases sub' c hc with q | q
    · exact sub c q
    · cases ec : H c with
      | none => exact .inr rfl
      | some z =>
        rcases Decidable.em (c ∈ fp) with q1 | q1
        · exact .inl q1
        · have := fr c z ec q1 (fun q2 => nm (q2 ▸ hc))
          rw [q] at this
          cases this
/-- a box of the class kd, no heavier than d, asked -/
def spB (A : Ad) (K : PySem.W.Frag) (kd d : Nat) : Sp := fun vs H Q E => ∃ (a m : Addr) (fp : List Addr) (B : Box) (l s : Int) (n : Nat) (o : Option Ans) (B' : Box) (l' : Int), vs = [.ref a, .ref m] ∧ BoxAt A K H B a fp ∧ B.Ok ∧ B.wt ≤ d ∧ B.kind = kd ∧ MeterAt A H m l s ∧ m ∉ fp ∧ askF n B l = some (o, B', l') ∧
  FinB A K Q E H a m fp l s o B' l'
section
variable {P : Program} [NoTree P] {w : World} {K : PySem.W.Frag} {mg : Str → Option Value} {base : Heap} {A : Ad}
theorem ok_ask_leaf (T : CT K mg A) (D : DT K mg A) (d : Nat) : MOk P w K mg base CX0 2 A.c_Leaf "ask" ["self", "meter"] (spB A K 0 d) := by
  obtain ⟨cl, f, fd, F, M, B⟩ := ok_Leaf_ask (P := P) (w := w) (base := base) T D
  refine ⟨cl, f, fd, F.imp fun vs H Q E h => ?_, M, B⟩
  obtain ⟨a, m, fp, B, l, s, n, o, B', l', rfl, hB, ok, _, hk, hm, nm, e, k⟩ := h
  cases B with
  | leaf ch =>
    cases n with
    | zero => cases e
    | succ n =>
      cases e
      obtain ⟨ca, rfl, hL, ne⟩ := hB
      have n1 : m ≠ a := fun z => nm (by simp [z])
      have n2 : m ≠ ca := fun z => nm (by simp [z])
      refine ⟨a, ca, m, ch, l, s, rfl, hL, ok, hm, ne, n1.symm, n2.symm, fun v H' hl hm' ha kp => ?_⟩
      refine k H' [a, ca] ⟨ca, rfl, hl, ne⟩ (by rw [show s + (l - (l - ch.took l)) = s + ch.took l by omega]; exact hm') nm (fun c o e hc hcm => kp c o e (fun z => hc (by simp [z])) hcm) (fun c hc => .inl hc) v ha
  | fb t b u => cases hk
  | four ns st told x => cases hk
  | fourR t b u => cases hk
  | eight ns i j told x y => cases hk
  | eightR r => cases hk
theorem fb_sub (T : CT K mg A) {t b : Int} {told : Bool} {r : Option Ans × Int × Int × Bool} {a dx m : Addr} {H : Hp} {Q : VK} {E : XK} (e : fbAsk t b told = some r) (ha : H a = some (.ins A.c_FractionBox dx (fbF t b told)))
    (k : ∀ H', H' a = some (.ins A.c_FractionBox dx (fbF r.2.1 r.2.2.1 r.2.2.2)) → (∀ c o, H c = some o → c ≠ a → H' c = some o) → match r.1 with
      | none => E (.ref A.c_NoValue) none H'
      | some an => ∀ v, an.At A H' v → Q v H') : sp_fb A K [.ref a, .ref m] H Q E := by
  unfold fbAsk at e
  split at e
  · rename_i hf
    refine ⟨a, dx, _, t, b, told, rfl, ha, hf.1, hf.2, fun hb ht => ?_, fun hb ht => ?_, fun hb v H' hv hA kp => ?_⟩
    · rw [if_pos hb, if_pos ht] at e
      cases e
      exact k H ha (fun c o e _ => e) _ rfl
    · rw [if_pos hb, if_neg (by rw [ht]; decide)] at e
      cases e
      exact k H ha (fun c o e _ => e)
    · rw [if_neg hb] at e
      cases e
      exact k H' hA kp _ ⟨_, rfl, hv⟩
  · cases e
theorem ok_ask_fb (T : CT K mg A) (D : DT K mg A) (d : Nat) : MOk P w K mg base (L2.CX P w) 35 A.c_FractionBox "ask" ["self", "meter"] (spB A K 1 d) := by
  obtain ⟨cl, f, fd, F, M, B⟩ := ok_FractionBox_ask (P := P) (w := w) (base := base) T D
  refine ⟨cl, f, fd, F.imp fun vs H Q E h => ?_, M, B⟩
  obtain ⟨a, m, fp, B, l, s, n, o, B', l', rfl, hB, ok, _, hk, hm, nm, e, k⟩ := h
  cases B with
  | fb t b told =>
    cases n with
    | zero => cases e
    | succ n =>
      simp only [askF, Option.map_eq_some_iff] at e
      obtain ⟨r, er, e⟩ := e
      cases e
      obtain ⟨dx, rfl, ha⟩ := hB
      obtain ⟨dm, em⟩ := hm
      have nma : m ≠ a := fun z => nm (by simp [z])
      refine fb_sub T er ha fun H' hA kp => ?_
      exact k H' [a] ⟨dx, rfl, hA⟩ ⟨dm, by rw [show s + (l - l) = s by omega]; exact kp _ _ em nma⟩ nm (fun c o e hc _ => kp c o e (fun z => hc (by simp [z]))) (fun c hc => .inl hc)
  | leaf ch => cases hk
  | four ns st told x => cases hk
  | fourR t b u => cases hk
  | eight ns i j told x y => cases hk
  | eightR r => cases hk
theorem Box.kinds (B : Box) : B.kind = 0 ∨ B.kind = 1 ∨ B.kind = 2 ∨ B.kind = 3 := by
  cases B <;> simp [Box.kind]
theorem BoxAt.cls {H : Hp} {B : Box} {a : Addr} {fp : List Addr} (h : BoxAt A K H B a fp) : ∃ C dx fs, H a = some (.ins C dx fs) ∧ fs.lookup ("ask" : Str) = none ∧ (B.kind = 0 → C = A.c_Leaf) ∧ (B.kind = 1 → C = A.c_FractionBox) ∧ (B.kind = 2 → C = A.c_FourBox) ∧ (B.kind = 3 → C = A.c_EightBox) := by
  cases B with
  | leaf c => obtain ⟨ca, rfl, ⟨⟨dx, e⟩, _⟩, _⟩ := h; exact ⟨_, _, _, e, rfl, fun _ => rfl, fun z => (by cases z), fun z => (by cases z), fun z => (by cases z)⟩
  | fb t b u => obtain ⟨dx, rfl, e⟩ := h; exact ⟨_, _, _, e, rfl, fun z => (by cases z), fun _ => rfl, fun z => (by cases z), fun z => (by cases z)⟩
  | four ns st told x => obtain ⟨dx, p, tx, fx, rfl, e, _⟩ := h; exact ⟨_, _, _, e, rfl, fun z => (by cases z), fun z => (by cases z), fun _ => rfl, fun z => (by cases z)⟩
  | fourR t b u => obtain ⟨dx, p, tx, st, told', r, dr, rfl, e, _⟩ := h; exact ⟨_, _, _, e, rfl, fun z => (by cases z), fun z => (by cases z), fun _ => rfl, fun z => (by cases z)⟩
  | eight ns i j told x y => obtain ⟨dx, p, t, l, tx, ty, fx, fy, rfl, e, _⟩ := h; exact ⟨_, _, _, e, rfl, fun z => (by cases z), fun z => (by cases z), fun z => (by cases z), fun _ => rfl⟩
  | eightR r => obtain ⟨dx, p, t, l, told, b, fr, rfl, e, _⟩ := h; exact ⟨_, _, _, e, rfl, fun z => (by cases z), fun z => (by cases z), fun z => (by cases z), fun _ => rfl⟩
theorem leaf_some {n : Nat} {B B' : Box} {l l' : Int} (hk : B.kind = 0) (e : askF n B l = some (none, B', l')) : False := by
  cases B <;> cases hk
  cases n with
  | zero => cases e
  | succ n => cases e
/-- a tree within, asked: by its class -/
theorem ask_any {σ : St} {H : Hp} {to : TE} {ta : TA} {Q : VK} {E : XK} {d : Nat} {tx m : Addr} {fx : List Addr} {x x' : Box} {l s l' : Int} {n : Nat} {o : Option Ans} (hto : ∀ R : VK, R (.ref tx) H → to σ H R) (hta : ∀ R : List V → Hp → Prop, R [.ref m] H → ta σ H R)
    (hB : BoxAt A K H x tx fx) (ok : x.Ok) (hw : x.wt ≤ d) (hk : x.kind ≠ 1) (hm : MeterAt A H m l s) (nm : m ∉ fx) (e : askF n x l = some (o, x', l')) (k : FinB A K Q E H tx m fx l s o x' l') :
    tMeth A.c_Leaf "ask" (spB A K 0 d) [] E0 to ta σ H Q ∨ tMeth A.c_FourBox "ask" (spB A K 2 d) [] E to ta σ H Q ∨ tMeth A.c_EightBox "ask" (spB A K 3 d) [] E to ta σ H Q := by
  obtain ⟨C, dx, fs, ec, hl, c0, c1, c2, c3⟩ := hB.cls
  rcases x.kinds with z | z | z | z
  · refine .inl (hto _ ⟨tx, dx, fs, rfl, by rw [← c0 z]; exact ec, hl, hta _ ⟨tx, m, fx, x, l, s, n, o, x', l', rfl, hB, ok, hw, z, hm, nm, e, ?_⟩⟩)
    cases o with
    | none => exact (leaf_some z e).elim
    | some an => exact k
  · exact absurd z hk
  · exact .inr (.inl (hto _ ⟨tx, dx, fs, rfl, by rw [← c2 z]; exact ec, hl, hta _ ⟨tx, m, fx, x, l, s, n, o, x', l', rfl, hB, ok, hw, z, hm, nm, e, k⟩⟩))
  · exact .inr (.inr (hto _ ⟨tx, dx, fs, rfl, by rw [← c3 z]; exact ec, hl, hta _ ⟨tx, m, fx, x, l, s, n, o, x', l', rfl, hB, ok, hw, z, hm, nm, e, k⟩⟩))
theorem ok_ask_four {d : Nat} (T : CT K mg A) (D : DT K mg A) (M_four : MOk P w K mg base (L2.CX P w) (40 + d) A.c_FourBox "ask" ["self", "meter"] (spB A K 2 d)) (M_eight : MOk P w K mg base (L2.CX P w) (40 + d) A.c_EightBox "ask" ["self", "meter"] (spB A K 3 d)) :
    MOk P w K mg base (L2.CX P w) (40 + (d + 1)) A.c_FourBox "ask" ["self", "meter"] (spB A K 2 (d + 1)) := by
  have M_leaf := ok_ask_leaf (P := P) (w := w) (base := base) T D d
  have M_fb := ok_FractionBox_ask (P := P) (w := w) (base := base) T D
  have M_tell := ok_FourBox_tell (P := P) (w := w) (base := base) T D
  have M_take := ok_FourBox_take (P := P) (w := w) (base := base) T D
  have G_sure_part := ok_sure_part (P := P) (w := w) (base := base) T D
  have G_four_corners := ok_four_corners (P := P) (w := w) (base := base) T D
  refine MOk.of T.cl_FourBox D.FourBox_ask fun f fd F => ?_
  refine F.okX (k := 40 + d) sc_FourBox_ask (fun vs H Q E h => ?_) (fun cdv Ar outer s H vs Q E hr h => ?_)
  · obtain ⟨a, m, fp, B, l, s, n, o, B', l', rfl, _⟩ := h
    rfl
  · obtain ⟨a, m, fp, B, l, sp, n, o, B', l', rfl, hB, ok, hw, hk, hm, nm, e, k⟩ := h
    refine ⟨_, (pss_cons (ps_while (passes_of rfl) (pt_cmpR op_isN (pe_fld (pv 0) rfl) pe_non (nomark _))
      (C8.pss_cut (ps_set (i := 2) sc_FourBox_ask.nd rfl (Or.inl rfl) (pe_ifExp (pt_val (pe_fld (pv 0) rfl)) (pe_c G_sure_part (hr.mono (by first | decide | omega)) (pa_cons (pe_c G_four_corners (hr.mono (by first | decide | omega)) (pa_cons (pe_fld (pv 0) rfl) pa_nil)) pa_nil)) pe_non))
    (pss_cons (ps_if (pt_cmpR op_notN (pv 2) pe_non (nomark _))
      (pss_one (ps_ret (pe_m M_tell (hr.mono (by first | decide | omega)) (pv 0) (pa_cons (pv 2) pa_nil)))) pss_nil)
    (pss_cons (ps_set (i := 3) sc_FourBox_ask.nd rfl (Or.inl rfl) ((pe_alt (pe_m M_leaf (hr.mono (by first | decide | omega)) (pe_fld (pv 0) rfl) (pa_cons (pv 1) pa_nil)) (pe_alt (pe_mX M_four (hr.mono (by first | decide | omega)) (passes_tk (takes_of rfl rfl rfl rfl)) (pe_fld (pv 0) rfl) (pa_cons (pv 1) pa_nil)) (pe_mX M_eight (hr.mono (by first | decide | omega)) (passes_tk (takes_of rfl rfl rfl rfl)) (pe_fld (pv 0) rfl) (pa_cons (pv 1) pa_nil))))))
    (pss_cons (ps_if (pt_cmpR (op_eqD hr.units) (pv 3) (pe_glob (v := .ref A.k_WAITS) (by rfl) T.g_WAITS rfl) (nomark _))
      (pss_one (ps_ret (pv 3))) pss_nil)
    (pss_one (ps_expr (pe_m M_take (hr.mono (by first | decide | omega)) (pv 0) (pa_cons (pv 3) pa_nil)))))))))
    (pss_one (ps_ret (pe_mX M_fb (hr.mono (by first | decide | omega)) (passes_tk (takes_of rfl rfl rfl rfl)) (pe_fld (pv 0) rfl) (pa_cons (pv 1) pa_nil))))), ?_⟩
    have cl := T.cl_FourBox
    refine ⟨fun n1 σ H1 => ∃ v2 v3 fp1 B1 l1 s1, σ = [some (V.ref a), some (V.ref m), v2, v3] ∧ BoxAt A K H1 B1 a fp1 ∧ B1.Ok ∧ B1.wt ≤ d + 1 ∧ B1.kind = 2 ∧ MeterAt A H1 m l1 s1 ∧ m ∉ fp1 ∧ askF n1 B1 l1 = some (o, B', l') ∧ FinB A K Q E H1 a m fp1 l1 s1 o B' l',
      ⟨n, none, none, fp, B, l, sp, rfl, hB, ok, hw, hk, hm, nm, e, k⟩, ?_⟩
    rintro n1 σ H1 ⟨v2, v3, fp1, B1, l1, s1, rfl, hB1, ok1, hw1, hk1, hm1, nm1, e1, k1⟩
    cases B1 with
    | leaf c => cases hk1
    | fb t b u => cases hk1
    | eight ns i j told x y => cases hk1
    | eightR r => cases hk1
    | fourR t b told =>
      obtain ⟨dx, p, tx, st, told', r, dr, rfl, ea, er, ne⟩ := hB1
      obtain ⟨dm, em⟩ := hm1
      refine ⟨_, rfl, a, _, dx, _, _, rfl, ea, cl, T.n_FourBox_rest, rfl, rfl, _, rfl, ite2 (fun c => ?_) (fun c => ?_)⟩
      · exact absurd (of_decide_eq_true c) (by intro z; cases z)
      · cases n1 with
        | zero => cases e1
        | succ n1 =>
          simp only [askF, Option.map_eq_some_iff] at e1
          obtain ⟨z, ez, e1⟩ := e1
          cases e1
          have nma : m ≠ a := fun z => nm1 (by simp [z])
          have nmr : m ≠ r := fun z => nm1 (by simp [z])
          refine ⟨_, rfl, a, _, dx, _, _, rfl, ea, cl, T.n_FourBox_rest, rfl, r, dr, _, rfl, er, rfl, _, rfl, fb_sub T ez er fun H' hA kp => ?_⟩
          exact k1 H' [a, r] ⟨dx, p, tx, st, told', r, dr, rfl, kp _ _ ea ne, hA, ne⟩ ⟨dm, by rw [Int.sub_self, Int.add_zero]; exact kp _ _ em nmr⟩ nm1 (fun c o e hc _ => kp c o e (fun z => hc (by simp [z]))) (fun c hc => .inl hc)
    | four ns st told x =>
      obtain ⟨dx, p, tx, fx, rfl, ea, hp, hx, na⟩ := hB1
      obtain ⟨hl4, okx, kx⟩ := ok1
      refine ⟨_, rfl, a, _, dx, _, _, rfl, ea, cl, T.n_FourBox_rest, rfl, rfl, _, rfl, ite2 (fun c => ?_) (fun c => absurd (decide_eq_true rfl) c)⟩
      cases n1 with
      | zero => cases e1
      | succ n1 =>
      simp only [askF] at e1
      split at e1
      case isFalse => cases e1
      rename_i hfit
      obtain ⟨hf, hcf⟩ := allFit_ns hfit
      refine ⟨_, fun σ' H' z => z, fun σ' H' => ∃ pv, σ' = [some (V.ref a), some (V.ref m), some pv, v3] ∧ Same H1 H' ∧ pv = (match (if st = true then surePart (fourCorners ns) else none) with | some q => V.int q | none => V.non), ?_, ?_⟩
      · refine ⟨_, rfl, a, _, dx, _, _, rfl, ea, cl, T.n_FourBox_started, rfl, st, rfl, ?_⟩
        cases st with
        | true => exact ⟨_, rfl, a, _, dx, _, _, rfl, ea, cl, T.n_FourBox_numbers, rfl, p, ns, rfl, hp, hl4, fun L H2 hc s2 => ⟨L, fourCorners ns, rfl, hc, (by show 0 < 2; decide), (by show 2 ≤ 4; decide), hcf, fun H3 s3 => ⟨_, rfl, s2.trans s3, rfl⟩⟩⟩
        | false => exact ⟨_, rfl, Same.refl H1, rfl⟩
      · rintro σ' H3 ⟨pv, rfl, s3, rfl⟩
        have ea3 := s3 _ _ ea
        have hp3 := sqT_same hp s3
        have hx3 := hx.same s3
        obtain ⟨dm, em⟩ := hm1
        have em3 := s3 _ _ em
        have nma : m ≠ a := fun z => nm1 (by simp [z])
        have nmx : m ∉ fx := fun z => nm1 (by simp [z])
        have k3 : FinB A K Q E H3 a m (a :: fx) l1 s1 o B' l' := k1.step (fun c z e _ _ => s3 c z e) (fun c hc => .inl hc) rfl
        cases es : (if st = true then surePart (fourCorners ns) else none) with
        | some q =>
          rw [es] at e1
          cases e1
          have fq : fits q := by
            cases st with
            | true => exact surePart_fits es hcf (by show 0 < 2; decide)
            | false => cases es
          refine ⟨_, rfl, rfl, _, rfl, ite2 (fun _ => ?_) (fun c => absurd rfl c)⟩
          refine ⟨_, rfl, a, dx, _, rfl, ea3, rfl, _, rfl, a, dx, p, tx, ns, st, told, q, rfl, ea3, hp3, hl4, hf, fq, fun r p' H4 hr4 ha4 hp4 kp => ?_⟩
          have hx4 := hx3.kept (N := fun c => c = a) (fun c o e n => kp c o e n) (fun c o e z => by subst e; rw [ea3] at z; exact ins_no (Option.some.inj z).symm) (fun c hc z => na (z ▸ hc))
          exact k3 H4 (a :: fx) ⟨dx, p', tx, fx, rfl, ha4, hp4, hx4, na⟩ ⟨dm, by rw [Int.sub_self, Int.add_zero]; exact kp _ _ em3 nma⟩ nm1 (fun c o e hc _ => kp c o e (fun z => hc (by simp [z]))) (fun c hc => .inl hc) _ ⟨r, rfl, hr4⟩
        | none =>
          rw [es] at e1
          simp only at e1
          refine ⟨_, rfl, rfl, _, rfl, ite2 (fun c => absurd c (by decide)) (fun _ => ?_)⟩
          cases ex : askF n1 x l1 with
          | none => rw [ex] at e1; cases e1
          | some z =>
            obtain ⟨ox, x', l2⟩ := z
            rw [ex] at e1
            obtain ⟨okx', wx', kx'⟩ := askF_ok okx ex
            refine ask_any (tx := tx) (m := m) (fx := fx) (x := x) (l := l1) (s := s1) (n := n1) (fun R h => ⟨_, rfl, a, _, dx, _, _, rfl, ea3, cl, T.n_FourBox_tree, rfl, h⟩) (fun R h => ⟨_, rfl, h⟩) hx3 okx (by show x.wt ≤ d; exact Nat.le_of_succ_le_succ hw1) kx ⟨dm, em3⟩ nmx ex fun H4 fx' hx4 hm4 nm4 fr4 sub4 => ?_
            have ea4 := fr4 _ _ ea3 na nma.symm
            have hp4 : SqT K H4 p (ns.map V.int) := sqT_but (N := fun c => c ∈ fx ∨ c = m) hp3 (fun c o e n => fr4 c o e (fun z => n (.inl z)) (fun z => n (.inr z))) fun c o z e => by
              rcases z with z | rfl
              · exact (hx3.soft c z).no e
              · rw [em3] at e; exact ins_no (Option.some.inj e).symm
            have na4 : a ∉ fx' := fun z => by
              rcases sub4 a z with q | q
              · exact na q
              · rw [ea3] at q; cases q
            have nm5 : m ∉ a :: fx' := fun z => by
              rcases List.mem_cons.mp z with q | q
              · exact nma q
              · exact nm4 q
            have fr5 : ∀ c z, H3 c = some z → c ∉ a :: fx → c ≠ m → H4 c = some z := fun c z e hc hcm => fr4 c z e (fun q => hc (List.mem_cons_of_mem _ q)) hcm
            have sub5 : ∀ c ∈ a :: fx', c ∈ a :: fx ∨ H3 c = none := fun c hc => by
              rcases List.mem_cons.mp hc with rfl | hc
              · exact .inl List.mem_cons_self
              · rcases sub4 c hc with q | q
                · exact .inl (List.mem_cons_of_mem _ q)
                · exact .inr q
            cases ox with
            | none =>
              cases e1
              exact k3 H4 (a :: fx') ⟨dx, p, tx, fx', rfl, ea4, hp4, hx4, na4⟩ hm4 nm5 fr5 sub5
            | some an =>
              intro v hv
              obtain ⟨pv', rfl, hpv⟩ := hv.tup T
              have hW : SqT K H4 A.k_WAITS Ans.waits.vals := T.t_WAITS H4
              refine ⟨_, rfl, _, _, an.dp hpv, Ans.waits.dp hW, an.shaped, Ans.waits.shaped, _, rfl, ?_⟩
              rw [eqv_waits]
              cases an with
              | waits =>
                cases e1
                exact iteT ⟨_, rfl, k3 H4 (a :: fx') ⟨dx, p, tx, fx', rfl, ea4, hp4, hx4, na4⟩ hm4 nm5 fr5 sub5 _ hv⟩
              | fin =>
                simp only at e1
                refine iteF ⟨_, rfl, a, dx, _, rfl, ea4, rfl, _, rfl, a, dx, p, tx, ns, st, told, _, .fin, rfl, hv, ea4, hp4, hl4, hf, fun r dr H5 ha5 hr5 nr5 kp5 => ?_⟩
                have nar : a ≠ r := ne_of_none ea4 nr5
                obtain ⟨dm4, em4⟩ := hm4
                have nmr : m ≠ r := ne_of_none em4 nr5
                refine ⟨n1, Nat.lt_succ_self _, _, _, [a, r], .fourR (ns.getD 0 0) (ns.getD 2 0) told, l2, s1 + (l1 - l2), rfl, ⟨dx, p, tx, st, told, r, dr, rfl, ha5, hr5, nar⟩, trivial, (by show 1 ≤ d + 1; omega), rfl, ⟨dm4, kp5 _ _ em4 nma⟩, ?_, e1, ?_⟩
                · intro z
                  simp only [List.mem_cons, List.not_mem_nil, or_false] at z
                  rcases z with z | z
                  · exact nma z
                  · exact nmr z
                · refine k3.step (fun c z e hc hcm => ?_) (fun c hc => ?_) (by omega)
                  · exact kp5 c z (fr5 c z e hc hcm) (fun q => hc (q ▸ List.mem_cons_self))
                  · simp only [List.mem_cons, List.not_mem_nil, or_false] at hc
                    rcases hc with rfl | rfl
                    · exact .inl List.mem_cons_self
                    · cases q : H3 c with
                      | none => exact .inr rfl
                      | some z =>
                        rcases Decidable.em (c ∈ a :: fx) with q1 | q1
                        · exact .inl q1
                        · have := fr5 c z q q1 nmr.symm
                          rw [nr5] at this
                          cases this
              | part q =>
                simp only at e1
                split at e1
                case isFalse => cases e1
                rename_i fq
                refine iteF ⟨_, rfl, a, dx, _, rfl, ea4, rfl, _, rfl, a, dx, p, tx, ns, st, told, _, .part q, rfl, hv, ea4, hp4, hl4, hf, fq, fun p' H5 ha5 hp5 kp5 => ?_⟩
                obtain ⟨dm4, em4⟩ := hm4
                have hx5 := hx4.kept (N := fun c => c = a) (fun c o e n => kp5 c o e n) (fun c o e z => by subst e; rw [ea4] at z; exact ins_no (Option.some.inj z).symm) (fun c hc z => na4 (z ▸ hc))
                refine ⟨n1, Nat.lt_succ_self _, _, _, a :: fx', .four (withOne ns q) true told x', l2, s1 + (l1 - l2), rfl, ⟨dx, p', tx, fx', rfl, ha5, hp5, hx5, na4⟩, ⟨rfl, okx', kx' ▸ kx⟩, (by show x'.wt + 1 ≤ d + 1; exact Nat.succ_le_succ (Nat.le_trans wx' (Nat.le_of_succ_le_succ hw1))), rfl, ⟨dm4, kp5 _ _ em4 nma⟩, nm5, e1, ?_⟩
                exact k3.step (fun c z e hc hcm => kp5 c z (fr5 c z e hc hcm) (fun q => hc (q ▸ List.mem_cons_self))) sub5 (by omega)
end
/-! ### eights, asked -/
section
variable {P : Program} [NoTree P] {w : World} {K : PySem.W.Frag} {mg : Str → Option Value} {base : Heap} {A : Ad}
theorem oneIs_at {H : Hp} {p z r dr C : Addr} {ns : List Int} {told : Bool} {fs : Flds} {x : Box} {fx : List Addr} (one : OneIs A p z ns told C fs) (hr : H r = some (.ins C dr fs)) (hp : SqT K H p (ns.map V.int)) (hx : BoxAt A K H x z fx) (nr : r ∉ fx) :
    ∃ fr, BoxAt A K H (oneBox ns told x) r fr ∧ ∀ c ∈ fr, c = r ∨ c ∈ fx := by
  unfold oneBox
  rcases one with ⟨h1, rfl, rfl⟩ | ⟨h1, h2, rfl, rfl⟩ | ⟨h1, h2, rfl, rfl⟩
  · rw [if_pos h1]
    exact ⟨r :: fx, ⟨dr, p, z, fx, rfl, hr, hp, hx, nr⟩, fun c hc => List.mem_cons.mp hc⟩
  · rw [if_neg (fun q => q h1), if_pos h2]
    exact ⟨[r], ⟨dr, rfl, hr⟩, fun c hc => .inl (by simpa using hc)⟩
  · rw [if_neg (fun q => q h1), if_neg (fun q => q h2)]
    exact ⟨[r], ⟨dr, rfl, hr⟩, fun c hc => .inl (by simpa using hc)⟩
theorem ask_rest {σ : St} {H : Hp} {to : TE} {ta : TA} {Q : VK} {E : XK} {d : Nat} {tx m : Addr} {fx : List Addr} {x x' : Box} {l s l' : Int} {n : Nat} {o : Option Ans} (hto : ∀ R : VK, R (.ref tx) H → to σ H R) (hta : ∀ R : List V → Hp → Prop, R [.ref m] H → ta σ H R)
    (hB : BoxAt A K H x tx fx) (ok : x.Ok) (hw : x.wt ≤ d) (hk : x.kind = 1 ∨ x.kind = 2) (hm : MeterAt A H m l s) (nm : m ∉ fx) (e : askF n x l = some (o, x', l')) (k : FinB A K Q E H tx m fx l s o x' l') :
    tMeth A.c_FractionBox "ask" (spB A K 1 d) [] E to ta σ H Q ∨ tMeth A.c_FourBox "ask" (spB A K 2 d) [] E to ta σ H Q := by
  obtain ⟨C, dx, fs, ec, hl, c0, c1, c2, c3⟩ := hB.cls
  rcases hk with z | z
  · exact .inl (hto _ ⟨tx, dx, fs, rfl, by rw [← c1 z]; exact ec, hl, hta _ ⟨tx, m, fx, x, l, s, n, o, x', l', rfl, hB, ok, hw, z, hm, nm, e, k⟩⟩)
  · exact .inr (hto _ ⟨tx, dx, fs, rfl, by rw [← c2 z]; exact ec, hl, hta _ ⟨tx, m, fx, x, l, s, n, o, x', l', rfl, hB, ok, hw, z, hm, nm, e, k⟩⟩)
theorem ok_ask_eight {d : Nat} (T : CT K mg A) (D : DT K mg A) (M_four : MOk P w K mg base (L2.CX P w) (40 + (d + 1)) A.c_FourBox "ask" ["self", "meter"] (spB A K 2 (d + 1))) (M_eight : MOk P w K mg base (L2.CX P w) (40 + (d + 1)) A.c_EightBox "ask" ["self", "meter"] (spB A K 3 (d + 1))) :
    MOk P w K mg base (L2.CX P w) (40 + (d + 2)) A.c_EightBox "ask" ["self", "meter"] (spB A K 3 (d + 2)) := by
  have M_leaf := ok_ask_leaf (P := P) (w := w) (base := base) T D (d + 1)
  have M_fb := ok_ask_fb (P := P) (w := w) (base := base) T D (d + 1)
  have M_tell := ok_EightBox_tell (P := P) (w := w) (base := base) T D
  have M_take := ok_EightBox_take (P := P) (w := w) (base := base) T D
  have G_sure_part := ok_sure_part (P := P) (w := w) (base := base) T D
  have G_eight_corners := ok_eight_corners (P := P) (w := w) (base := base) T D
  refine MOk.of T.cl_EightBox D.EightBox_ask fun f fd F => ?_
  refine F.okX (k := 40 + (d + 1)) sc_EightBox_ask (fun vs H Q E h => ?_) (fun cdv Ar outer s H vs Q E hr h => ?_)
  · obtain ⟨a, m, fp, B, l, s, n, o, B', l', rfl, _⟩ := h
    rfl
  · obtain ⟨a, m, fp, B, l, sp, n, o, B', l', rfl, hB, ok, hw, hk, hm, nm, e, k⟩ := h
    refine ⟨_, (pss_cons (ps_while (passes_of rfl) (pt_cmpR op_isN (pe_fld (pv 0) rfl) pe_non (nomark _))
      (C8.pss_cut (ps_set (i := 2) sc_EightBox_ask.nd rfl (Or.inl rfl) (pe_ifExp (pt_cmpR op_gt (pe_callB (cr_min rfl) (by rfl) T.b_min (by decide +kernel) (pa_cons (pe_fld (pv 0) rfl) pa_nil)) pe_int (nomark _)) (pe_c G_sure_part (hr.mono (by first | decide | omega)) (pa_cons (pe_c G_eight_corners (hr.mono (by first | decide | omega)) (pa_cons (pe_fld (pv 0) rfl) pa_nil)) pa_nil)) pe_non))
    (pss_cons (ps_if (pt_cmpR op_notN (pv 2) pe_non (nomark _))
      (pss_one (ps_ret (pe_m M_tell (hr.mono (by first | decide | omega)) (pv 0) (pa_cons (pv 2) pa_nil)))) pss_nil)
    (C8.pss_cut (ps_set (i := 3) sc_EightBox_ask.nd rfl (Or.inl rfl) (pe_ifExp (pt_cmpR op_le (pe_ix ix_list (pe_fld (pv 0) rfl) pe_int (fun _ _ => rfl)) (pe_ix ix_list (pe_fld (pv 0) rfl) pe_int (fun _ _ => rfl)) (nomark _)) pe_int pe_int))
    (pss_cons (ps_set (i := 4) sc_EightBox_ask.nd rfl (Or.inl rfl) ((pe_alt (pe_m M_leaf (hr.mono (by first | decide | omega)) (pe_ix ix_tup (pe_fld (pv 0) rfl) (pv 3) (fun _ _ => rfl)) (pa_cons (pv 1) pa_nil)) (pe_alt (pe_mX M_four (hr.mono (by first | decide | omega)) (passes_tk (takes_of rfl rfl rfl rfl)) (pe_ix ix_tup (pe_fld (pv 0) rfl) (pv 3) (fun _ _ => rfl)) (pa_cons (pv 1) pa_nil)) (pe_mX M_eight (hr.mono (by first | decide | omega)) (passes_tk (takes_of rfl rfl rfl rfl)) (pe_ix ix_tup (pe_fld (pv 0) rfl) (pv 3) (fun _ _ => rfl)) (pa_cons (pv 1) pa_nil))))))
    (pss_cons (ps_if (pt_cmpR (op_eqD hr.units) (pv 4) (pe_glob (v := .ref A.k_WAITS) (by rfl) T.g_WAITS rfl) (nomark _))
      (pss_one (ps_ret (pv 4))) pss_nil)
    (pss_one (ps_expr (pe_m M_take (hr.mono (by first | decide | omega)) (pv 0) (pa_cons (pv 3) (pa_cons (pv 4) pa_nil)))))))))))
    (pss_one (ps_ret ((pe_alt (pe_mX M_fb (hr.mono (by first | decide | omega)) (passes_tk (takes_of rfl rfl rfl rfl)) (pe_fld (pv 0) rfl) (pa_cons (pv 1) pa_nil)) (pe_mX M_four (hr.mono (by first | decide | omega)) (passes_tk (takes_of rfl rfl rfl rfl)) (pe_fld (pv 0) rfl) (pa_cons (pv 1) pa_nil))))))), ?_⟩
    have cl := T.cl_EightBox
    refine ⟨fun n1 σ H1 => ∃ v2 v3 v4 fp1 B1 l1 s1, σ = [some (V.ref a), some (V.ref m), v2, v3, v4] ∧ BoxAt A K H1 B1 a fp1 ∧ B1.Ok ∧ B1.wt ≤ d + 2 ∧ B1.kind = 3 ∧ MeterAt A H1 m l1 s1 ∧ m ∉ fp1 ∧ askF n1 B1 l1 = some (o, B', l') ∧ FinB A K Q E H1 a m fp1 l1 s1 o B' l',
      ⟨n, none, none, none, fp, B, l, sp, rfl, hB, ok, hw, hk, hm, nm, e, k⟩, ?_⟩
    rintro n1 σ H1 ⟨v2, v3, v4, fp1, B1, l1, s1, rfl, hB1, ok1, hw1, hk1, hm1, nm1, e1, k1⟩
    cases B1 with
    | leaf c => cases hk1
    | fb t b u => cases hk1
    | four ns st told x => cases hk1
    | fourR t b told => cases hk1
    | eightR r =>
      obtain ⟨dx, p, t, L, told, b, fr, rfl, ea, hr1, na⟩ := hB1
      refine ⟨_, rfl, a, _, dx, _, _, rfl, ea, cl, T.n_EightBox_rest, rfl, rfl, _, rfl, ite2 (fun c => ?_) (fun c => ?_)⟩
      · exact absurd (of_decide_eq_true c) (by intro z; cases z)
      · cases n1 with
        | zero => cases e1
        | succ n1 =>
          simp only [askF, Option.map_eq_some_iff] at e1
          obtain ⟨⟨o1, r1, l2⟩, er, e1⟩ := e1
          cases e1
          have nma : m ≠ a := fun z => nm1 (by simp [z])
          have nmr : m ∉ fr := fun z => nm1 (by simp [z])
          refine ask_rest (tx := b) (m := m) (fx := fr) (x := r) (l := l1) (s := s1) (n := n1) (fun R h => ⟨_, rfl, a, _, dx, _, _, rfl, ea, cl, T.n_EightBox_rest, rfl, h⟩) (fun R h => ⟨_, rfl, h⟩) hr1 ok1.1 (by have : r.wt + 2 ≤ d + 2 := hw1; omega) ok1.2 hm1 nmr er fun H4 fr' hr4 hm4 nm4 fr4 sub4 => ?_
          have ea4 := fr4 _ _ ea na nma.symm
          refine k1 H4 (a :: fr') ⟨dx, p, t, L, told, b, fr', rfl, ea4, hr4, fun z => ?_⟩ hm4 (fun z => ?_) (fun c z e hc hcm => fr4 c z e (fun q => hc (List.mem_cons_of_mem _ q)) hcm) (fun c hc => ?_)
          · rcases sub4 a z with q | q
            · exact na q
            · rw [ea] at q; cases q
          · rcases List.mem_cons.mp z with q | q
            · exact nma q
            · exact nm4 q
          · rcases List.mem_cons.mp hc with rfl | hc
            · exact .inl List.mem_cons_self
            · rcases sub4 c hc with q | q
              · exact .inl (List.mem_cons_of_mem _ q)
              · exact .inr q
    | eight ns i j told x y =>
      obtain ⟨dx, p, t, L, tx, ty, fx, fy, rfl, ea, hp, ht, hL, hx, hy, na1, na2, nl1, nl2, dj0⟩ := hB1
      obtain ⟨hl8, okx, oky, kx, ky, hi, hj⟩ := ok1
      have hwE : max x.wt y.wt + 3 ≤ d + 2 := hw1
      have wx : x.wt ≤ d + 1 := by omega
      have wy : y.wt ≤ d + 1 := by omega
      refine ⟨_, rfl, a, _, dx, _, _, rfl, ea, cl, T.n_EightBox_rest, rfl, rfl, _, rfl, ite2 (fun c => ?_) (fun c => absurd (decide_eq_true rfl) c)⟩
      cases n1 with
      | zero => cases e1
      | succ n1 =>
      simp only [askF] at e1
      split at e1
      case isFalse => cases e1
      rename_i hfit
      obtain ⟨hf, hcf⟩ := allFit_ns hfit
      refine ⟨_, fun σ' H' z => z, fun σ' H' => ∃ pv, σ' = [some (V.ref a), some (V.ref m), some pv, v3, v4] ∧ Same H1 H' ∧ pv = (match (if 0 < i ∧ 0 < j then surePart (eightCorners ns) else none) with | some q => V.int q | none => V.non), ?_, ?_⟩
      · refine ⟨_, rfl, a, _, dx, _, _, rfl, ea, cl, T.n_EightBox_taken, rfl, L, [i, j], rfl, SqL.of hL, (by show 0 < 2; decide), fun mn hmn hmin => ⟨_, _, rfl, rfl, _, rfl, ite2 (fun c => ?_) (fun c => ?_)⟩⟩
        · have c' : mn > 0 := of_decide_eq_true c
          have h1 := hmin i (by simp)
          have h2 := hmin j (by simp)
          rw [if_pos (show 0 < i ∧ 0 < j by omega)]
          exact ⟨_, rfl, a, _, dx, _, _, rfl, ea, cl, T.n_EightBox_numbers, rfl, p, ns, rfl, hp, hl8, fun Lc H2 hc s2 => ⟨Lc, eightCorners ns, rfl, hc, (by show 0 < 4; decide), (by show 4 ≤ 4; decide), hcf, fun H3 s3 => ⟨_, rfl, s2.trans s3, rfl⟩⟩⟩
        · have c' : ¬ mn > 0 := fun z => c (decide_eq_true z)
          rw [if_neg (show ¬ (0 < i ∧ 0 < j) from fun z => by
            simp only [List.mem_cons, List.not_mem_nil, or_false] at hmn
            rcases hmn with rfl | rfl <;> omega)]
          exact ⟨_, rfl, Same.refl H1, rfl⟩
      · rintro σ' H3 ⟨pv, rfl, s3, rfl⟩
        have ea3 := s3 _ _ ea
        have hp3 := sqT_same hp s3
        have ht3 := sqT_same ht s3
        have hL3 := s3 _ _ hL
        have hx3 := hx.same s3
        have hy3 := hy.same s3
        obtain ⟨dm, em⟩ := hm1
        have em3 := s3 _ _ em
        have nma : m ≠ a := fun z => nm1 (by simp [z])
        have nml : m ≠ L := fun z => nm1 (by simp [z])
        have nmx : m ∉ fx := fun z => nm1 (by simp [z])
        have nmy : m ∉ fy := fun z => nm1 (by simp [z])
        have k3 : FinB A K Q E H3 a m (a :: L :: (fx ++ fy)) l1 s1 o B' l' := k1.step (fun c z e _ _ => s3 c z e) (fun c hc => .inl hc) rfl
        cases es : (if 0 < i ∧ 0 < j then surePart (eightCorners ns) else none) with
        | some q =>
          rw [es] at e1
          cases e1
          have fq : fits q := by
            split at es
            · exact surePart_fits es hcf (by show 0 < 4; decide)
            · cases es
          refine ⟨_, rfl, rfl, _, rfl, ite2 (fun _ => ?_) (fun c => absurd rfl c)⟩
          refine ⟨_, rfl, a, dx, _, rfl, ea3, rfl, _, rfl, a, dx, p, t, L, ns, told, q, rfl, ea3, hp3, hl8, hf, fq, fun r p' H4 hr4 ha4 hp4 kp => ?_⟩
          have sf : ∀ c o, c = a → H3 c = some o → (∀ ys, o ≠ .tup ys) ∧ ∀ ob u, o ≠ .frz ob u := fun c o e z => by subst e; rw [ea3] at z; exact ins_no (Option.some.inj z).symm
          have hx4 := hx3.kept (N := fun c => c = a) (fun c o e n => kp c o e n) sf (fun c hc z => na1 (z ▸ hc))
          have hy4 := hy3.kept (N := fun c => c = a) (fun c o e n => kp c o e n) sf (fun c hc z => na2 (z ▸ hc))
          have ht4 := sqT_but (N := fun c => c = a) ht3 (fun c o e n => kp c o e n) sf
          have nLa : L ≠ a := ne_of hL3 ea3 (by intro z; cases z)
          exact k3 H4 (a :: L :: (fx ++ fy)) ⟨dx, p', t, L, tx, ty, fx, fy, rfl, ha4, hp4, ht4, kp _ _ hL3 nLa, hx4, hy4, na1, na2, nl1, nl2, dj0⟩ ⟨dm, by rw [Int.sub_self, Int.add_zero]; exact kp _ _ em3 nma⟩ nm1 (fun c o e hc _ => kp c o e (fun z => hc (by simp [z]))) (fun c hc => .inl hc) _ ⟨r, rfl, hr4⟩
        | none =>
          rw [es] at e1
          simp only at e1
          refine ⟨_, rfl, rfl, _, rfl, ite2 (fun c => absurd c (by decide)) (fun _ => ?_)⟩
          refine ⟨fun σ' H' => H3 = H' ∧ σ' = [some (V.ref a), some (V.ref m), some V.non, some (V.int (if i ≤ j then 0 else 1)), v4], ?_, ?_⟩
          · refine ⟨_, rfl, a, _, dx, _, _, rfl, ea3, cl, T.n_EightBox_taken, rfl, L, _, 0, _, rfl, rfl, SqL.of hL3, atI_nat (j := 0) rfl, _, rfl, a, _, dx, _, _, rfl, ea3, cl, T.n_EightBox_taken, rfl, L, _, 1, _, rfl, rfl, SqL.of hL3, atI_nat (j := 1) rfl, _, _, rfl, rfl, _, rfl, ite2 (fun c => ?_) (fun c => ?_)⟩
            · rw [if_pos (of_decide_eq_true c)]
              exact ⟨rfl, rfl⟩
            · rw [if_neg (fun z => c (decide_eq_true z))]
              exact ⟨rfl, rfl⟩
          rintro σ' H3' ⟨rfl, rfl⟩
          split at e1
          · rename_i cij
            rw [if_pos cij]
            cases ex : askF n1 x l1 with
            | none => rw [ex] at e1; cases e1
            | some z =>
              obtain ⟨ox, x', l2⟩ := z
              rw [ex] at e1
              obtain ⟨okc', wc', kc'⟩ := askF_ok okx ex
              refine ask_any (tx := tx) (m := m) (fx := fx) (x := x) (l := l1) (s := s1) (n := n1) (fun R h => ⟨_, rfl, a, _, dx, _, _, rfl, ea3, cl, T.n_EightBox_trees, rfl, _, rfl, t, _, 0, _, rfl, rfl, ht3, atI_nat (j := 0) rfl, h⟩) (fun R h => ⟨_, rfl, h⟩) hx3 okx wx kx ⟨dm, em3⟩ nmx ex fun H4 fc' hc4 hm4 nm4 fr4 sub4 => ?_
              have ea4 := fr4 _ _ ea3 na1 nma.symm
              have hL4 := fr4 _ _ hL3 nl1 nml.symm
              have soft4 : ∀ c o, (c ∈ fx ∨ c = m) → H3 c = some o → (∀ ys, o ≠ .tup ys) ∧ ∀ ob u, o ≠ .frz ob u := fun c o z e => by
                rcases z with z | rfl
                · exact (hx3.soft c z).no e
                · rw [em3] at e; exact ins_no (Option.some.inj e).symm
              have frN : ∀ c o, H3 c = some o → ¬ (c ∈ fx ∨ c = m) → H4 c = some o := fun c o e n => fr4 c o e (fun z => n (.inl z)) (fun z => n (.inr z))
              have hp4 : SqT K H4 p (ns.map V.int) := sqT_but hp3 frN soft4
              have ht4 : SqT K H4 t [.ref tx, .ref ty] := sqT_but ht3 frN soft4
              have ho4 := hy3.kept frN soft4 (fun c hc z => by
                rcases z with z | rfl
                · exact dj0 c z hc
                · exact nmy hc)
              have old : ∀ c z, H3 c = some z → c ∉ fx → c ∉ fc' := fun c z e hn q => by
                rcases sub4 c q with q | q
                · exact hn q
                · rw [e] at q; cases q
              have nac : a ∉ fc' := old _ _ ea3 na1
              have nlc : L ∉ fc' := old _ _ hL3 nl1
              have dj : ∀ c ∈ fc', c ∉ fy := fun c hc hd => by
                obtain ⟨z, ez⟩ : ∃ z, H3 c = some z := by
                  rcases hy3.soft c hd with ⟨_, _, _, q⟩ | ⟨_, q⟩
                  · exact ⟨_, q⟩
                  · exact ⟨_, q⟩
                exact old c z ez (fun q => dj0 c q hd) hc
              have nm5 : m ∉ a :: L :: (fc' ++ fy) := fun z => by
                simp only [List.mem_cons, List.mem_append] at z
                rcases z with z | z | z | z
                · exact nma z
                · exact nml z
                · exact nm4 z
                · exact nmy z
              have fr5 : ∀ c z, H3 c = some z → c ∉ a :: L :: (fx ++ fy) → c ≠ m → H4 c = some z := fun c z e hc hcm => fr4 c z e (fun q => hc (by simp [q])) hcm
              have sub5 : ∀ c ∈ a :: L :: (fc' ++ fy), c ∈ a :: L :: (fx ++ fy) ∨ H3 c = none := fun c hc => by
                simp only [List.mem_cons, List.mem_append] at hc ⊢
                rcases hc with z | z | z | z
                · exact .inl (.inl z)
                · exact .inl (.inr (.inl z))
                · rcases sub4 c z with q | q
                  · exact .inl (.inr (.inr (.inl q)))
                  · exact .inr q
                · exact .inl (.inr (.inr (.inr z)))


              cases ox with
              | none =>
                cases e1
                exact k3 H4 (a :: L :: (fc' ++ fy)) ⟨dx, p, t, L, tx, ty, fc', fy, rfl, ea4, hp4, ht4, hL4, hc4, ho4, nac, na2, nlc, nl2, dj⟩ hm4 nm5 fr5 sub5
              | some an =>
                intro v hv
                obtain ⟨pv', rfl, hpv⟩ := hv.tup T
                have hW : SqT K H4 A.k_WAITS Ans.waits.vals := T.t_WAITS H4
                refine ⟨_, rfl, _, _, an.dp hpv, Ans.waits.dp hW, an.shaped, Ans.waits.shaped, _, rfl, ?_⟩
                rw [eqv_waits]
                cases an with
                | waits =>
                  cases e1
                  exact iteT ⟨_, rfl, k3 H4 (a :: L :: (fc' ++ fy)) ⟨dx, p, t, L, tx, ty, fc', fy, rfl, ea4, hp4, ht4, hL4, hc4, ho4, nac, na2, nlc, nl2, dj⟩ hm4 nm5 fr5 sub5 _ hv⟩
                | fin =>
                  simp only at e1
                  refine iteF ⟨_, rfl, a, dx, _, rfl, ea4, rfl, _, rfl, _, rfl, a, dx, p, t, L, tx, ty, ns, told, 0, i, j, _, .fin, rfl, by decide, hv, ea4, hp4, ht4, hL4, hl8, hf, fun p' r dr C fs H5 hp5 nr5 ha5 kp5 hr5 one => ?_⟩
                  obtain ⟨dm4, em4⟩ := hm4
                  have nar : a ≠ r := ne_of_none ea4 nr5
                  have nmr : m ≠ r := ne_of_none em4 nr5
                  have ho5 := ho4.kept (N := fun c => c = a) (fun c o e n => kp5 c o e n) (fun c o e z => by subst e; rw [ea4] at z; exact ins_no (Option.some.inj z).symm) (fun c hc z => na2 (z ▸ hc))
                  have nro : r ∉ fy := fun z => by
                    rcases ho4.soft r z with ⟨_, _, _, q⟩ | ⟨_, q⟩
                    · rw [nr5] at q; cases q
                    · rw [nr5] at q; cases q
                  obtain ⟨fr, hr6, sub6⟩ := oneIs_at one hr5 hp5 ho5 nro
                  have z6 := oneBox_ok (ns := leftOf ns 0) (told := told) rfl oky ky
                  refine ⟨n1, Nat.lt_succ_self _, _, _, _, a :: fr, .eightR (oneBox (leftOf ns 0) told y), l2, s1 + (l1 - l2), rfl, ⟨dx, p, t, L, told, r, fr, rfl, ha5, hr6, ?_⟩, ⟨z6.1, z6.2.2⟩, (by show _ + 2 ≤ d + 2; have := z6.2.1; omega), rfl, ⟨dm4, kp5 _ _ em4 nma⟩, ?_, e1, ?_⟩
                  · intro z
                    rcases sub6 a z with q | q
                    · exact nar q
                    · exact na2 q
                  · intro z
                    rcases List.mem_cons.mp z with q | q
                    · exact nma q
                    · rcases sub6 m q with q | q
                      · exact nmr q
                      · exact nmy q
                  · refine k3.step (fun c z e hc hcm => ?_) (fun c hc => ?_) (by omega)
                    · exact kp5 c z (fr5 c z e hc hcm) (fun q => hc (q ▸ List.mem_cons_self))
                    · rcases List.mem_cons.mp hc with rfl | hc
                      · exact .inl List.mem_cons_self
                      · rcases sub6 c hc with rfl | q
                        · cases q : H3 c with
                          | none => exact .inr rfl
                          | some z =>
                            rcases Decidable.em (c ∈ a :: L :: (fx ++ fy)) with q1 | q1
                            · exact .inl q1
                            · have := fr5 c z q q1 nmr.symm
                              rw [nr5] at this
                              cases this
                        · exact .inl (by simp [q])
                | part q =>
                  simp only at e1
                  split at e1
                  case isFalse => cases e1
                  rename_i fq
                  refine iteF ⟨_, rfl, a, dx, _, rfl, ea4, rfl, _, rfl, _, rfl, a, dx, p, t, L, tx, ty, ns, told, 0, i, j, _, .part q, rfl, by decide, hv, ea4, hp4, ht4, hL4, hl8, hf, fq, fun p' H5 ha5 hp5 hL5 kp5 => ?_⟩
                  obtain ⟨dm4, em4⟩ := hm4
                  have frN5 : ∀ c o, H4 c = some o → ¬ (c = a ∨ c = L) → H5 c = some o := fun c o e n => kp5 c o e (fun z => n (.inl z)) (fun z => n (.inr z))
                  have soft5 : ∀ c o, (c = a ∨ c = L) → H4 c = some o → (∀ ys, o ≠ .tup ys) ∧ ∀ ob u, o ≠ .frz ob u := fun c o z e => by
                    rcases z with rfl | rfl
                    · exact Soft.no (.inl ⟨_, _, _, ea4⟩) e
                    · exact Soft.no (.inr ⟨_, hL4⟩) e
                  have hc5 := hc4.kept frN5 soft5 (fun c hc z => by
                    rcases z with rfl | rfl
                    · exact nac hc
                    · exact nlc hc)
                  have ho5 := ho4.kept frN5 soft5 (fun c hc z => by
                    rcases z with rfl | rfl
                    · exact na2 hc
                    · exact nl2 hc)
                  have ht5 : SqT K H5 t [.ref tx, .ref ty] := sqT_but ht4 frN5 soft5
                  refine ⟨n1, Nat.lt_succ_self _, _, _, _, a :: L :: (fc' ++ fy), .eight (withFirst ns q) (i + 1) j told x' y, l2, s1 + (l1 - l2), rfl, ⟨dx, p', t, L, tx, ty, fc', fy, rfl, ha5, hp5, ht5, hL5, hc5, ho5, nac, na2, nlc, nl2, dj⟩, ⟨rfl, okc', oky, kc' ▸ kx, ky, by omega, hj⟩, (by show max _ _ + 3 ≤ d + 2; omega), rfl, ⟨dm4, kp5 _ _ em4 nma nml⟩, nm5, e1, ?_⟩
                  exact k3.step (fun c z e hc hcm => kp5 c z (fr5 c z e hc hcm) (fun q => hc (by simp [q])) (fun q => hc (by simp [q]))) sub5 (by omega)
          · rename_i cij
            rw [if_neg cij]
            cases ex : askF n1 y l1 with
            | none => rw [ex] at e1; cases e1
            | some z =>
              obtain ⟨ox, x', l2⟩ := z
              rw [ex] at e1
              obtain ⟨okc', wc', kc'⟩ := askF_ok oky ex
              refine ask_any (tx := ty) (m := m) (fx := fy) (x := y) (l := l1) (s := s1) (n := n1) (fun R h => ⟨_, rfl, a, _, dx, _, _, rfl, ea3, cl, T.n_EightBox_trees, rfl, _, rfl, t, _, 1, _, rfl, rfl, ht3, atI_nat (j := 1) rfl, h⟩) (fun R h => ⟨_, rfl, h⟩) hy3 oky wy ky ⟨dm, em3⟩ nmy ex fun H4 fc' hc4 hm4 nm4 fr4 sub4 => ?_
              have ea4 := fr4 _ _ ea3 na2 nma.symm
              have hL4 := fr4 _ _ hL3 nl2 nml.symm
              have soft4 : ∀ c o, (c ∈ fy ∨ c = m) → H3 c = some o → (∀ ys, o ≠ .tup ys) ∧ ∀ ob u, o ≠ .frz ob u := fun c o z e => by
                rcases z with z | rfl
                · exact (hy3.soft c z).no e
                · rw [em3] at e; exact ins_no (Option.some.inj e).symm
              have frN : ∀ c o, H3 c = some o → ¬ (c ∈ fy ∨ c = m) → H4 c = some o := fun c o e n => fr4 c o e (fun z => n (.inl z)) (fun z => n (.inr z))
              have hp4 : SqT K H4 p (ns.map V.int) := sqT_but hp3 frN soft4
              have ht4 : SqT K H4 t [.ref tx, .ref ty] := sqT_but ht3 frN soft4
              have ho4 := hx3.kept frN soft4 (fun c hc z => by
                rcases z with z | rfl
                · exact dj0 c hc z
                · exact nmx hc)
              have old : ∀ c z, H3 c = some z → c ∉ fy → c ∉ fc' := fun c z e hn q => by
                rcases sub4 c q with q | q
                · exact hn q
                · rw [e] at q; cases q
              have nac : a ∉ fc' := old _ _ ea3 na2
              have nlc : L ∉ fc' := old _ _ hL3 nl2
              have dj : ∀ c ∈ fc', c ∉ fx := fun c hc hd => by
                obtain ⟨z, ez⟩ : ∃ z, H3 c = some z := by
                  rcases hx3.soft c hd with ⟨_, _, _, q⟩ | ⟨_, q⟩
                  · exact ⟨_, q⟩
                  · exact ⟨_, q⟩
                exact old c z ez (fun q => dj0 c hd q) hc
              have nm5 : m ∉ a :: L :: (fx ++ fc') := fun z => by
                simp only [List.mem_cons, List.mem_append] at z
                rcases z with z | z | z | z
                · exact nma z
                · exact nml z
                · exact nmx z
                · exact nm4 z
              have fr5 : ∀ c z, H3 c = some z → c ∉ a :: L :: (fx ++ fy) → c ≠ m → H4 c = some z := fun c z e hc hcm => fr4 c z e (fun q => hc (by simp [q])) hcm
              have sub5 : ∀ c ∈ a :: L :: (fx ++ fc'), c ∈ a :: L :: (fx ++ fy) ∨ H3 c = none := fun c hc => by
                simp only [List.mem_cons, List.mem_append] at hc ⊢
                rcases hc with z | z | z | z
                · exact .inl (.inl z)
                · exact .inl (.inr (.inl z))
                · exact .inl (.inr (.inr (.inl z)))


                · rcases sub4 c z with q | q
                  · exact .inl (.inr (.inr (.inr q)))
                  · exact .inr q
              cases ox with
              | none =>
                cases e1
                exact k3 H4 (a :: L :: (fx ++ fc')) ⟨dx, p, t, L, tx, ty, fx, fc', rfl, ea4, hp4, ht4, hL4, ho4, hc4, na1, nac, nl1, nlc, fun c h1 h2 => dj c h2 h1⟩ hm4 nm5 fr5 sub5
              | some an =>
                intro v hv
                obtain ⟨pv', rfl, hpv⟩ := hv.tup T
                have hW : SqT K H4 A.k_WAITS Ans.waits.vals := T.t_WAITS H4
                refine ⟨_, rfl, _, _, an.dp hpv, Ans.waits.dp hW, an.shaped, Ans.waits.shaped, _, rfl, ?_⟩
                rw [eqv_waits]
                cases an with
                | waits =>
                  cases e1
                  exact iteT ⟨_, rfl, k3 H4 (a :: L :: (fx ++ fc')) ⟨dx, p, t, L, tx, ty, fx, fc', rfl, ea4, hp4, ht4, hL4, ho4, hc4, na1, nac, nl1, nlc, fun c h1 h2 => dj c h2 h1⟩ hm4 nm5 fr5 sub5 _ hv⟩
                | fin =>
                  simp only at e1
                  refine iteF ⟨_, rfl, a, dx, _, rfl, ea4, rfl, _, rfl, _, rfl, a, dx, p, t, L, tx, ty, ns, told, 1, i, j, _, .fin, rfl, by decide, hv, ea4, hp4, ht4, hL4, hl8, hf, fun p' r dr C fs H5 hp5 nr5 ha5 kp5 hr5 one => ?_⟩
                  obtain ⟨dm4, em4⟩ := hm4
                  have nar : a ≠ r := ne_of_none ea4 nr5
                  have nmr : m ≠ r := ne_of_none em4 nr5
                  have ho5 := ho4.kept (N := fun c => c = a) (fun c o e n => kp5 c o e n) (fun c o e z => by subst e; rw [ea4] at z; exact ins_no (Option.some.inj z).symm) (fun c hc z => na1 (z ▸ hc))
                  have nro : r ∉ fx := fun z => by
                    rcases ho4.soft r z with ⟨_, _, _, q⟩ | ⟨_, q⟩
                    · rw [nr5] at q; cases q
                    · rw [nr5] at q; cases q
                  obtain ⟨fr, hr6, sub6⟩ := oneIs_at one hr5 hp5 ho5 nro
                  have z6 := oneBox_ok (ns := leftOf ns 1) (told := told) rfl okx kx
                  refine ⟨n1, Nat.lt_succ_self _, _, _, _, a :: fr, .eightR (oneBox (leftOf ns 1) told x), l2, s1 + (l1 - l2), rfl, ⟨dx, p, t, L, told, r, fr, rfl, ha5, hr6, ?_⟩, ⟨z6.1, z6.2.2⟩, (by show _ + 2 ≤ d + 2; have := z6.2.1; omega), rfl, ⟨dm4, kp5 _ _ em4 nma⟩, ?_, e1, ?_⟩
                  · intro z
                    rcases sub6 a z with q | q
                    · exact nar q
                    · exact na1 q
                  · intro z
                    rcases List.mem_cons.mp z with q | q
                    · exact nma q
                    · rcases sub6 m q with q | q
                      · exact nmr q
                      · exact nmx q
                  · refine k3.step (fun c z e hc hcm => ?_) (fun c hc => ?_) (by omega)
                    · exact kp5 c z (fr5 c z e hc hcm) (fun q => hc (q ▸ List.mem_cons_self))
                    · rcases List.mem_cons.mp hc with rfl | hc
                      · exact .inl List.mem_cons_self
                      · rcases sub6 c hc with rfl | q
                        · cases q : H3 c with
                          | none => exact .inr rfl
                          | some z =>
                            rcases Decidable.em (c ∈ a :: L :: (fx ++ fy)) with q1 | q1
                            · exact .inl q1
                            · have := fr5 c z q q1 nmr.symm
                              rw [nr5] at this
                              cases this
                        · exact .inl (by simp [q])
                | part q =>
                  simp only at e1
                  split at e1
                  case isFalse => cases e1
                  rename_i fq
                  refine iteF ⟨_, rfl, a, dx, _, rfl, ea4, rfl, _, rfl, _, rfl, a, dx, p, t, L, tx, ty, ns, told, 1, i, j, _, .part q, rfl, by decide, hv, ea4, hp4, ht4, hL4, hl8, hf, fq, fun p' H5 ha5 hp5 hL5 kp5 => ?_⟩
                  obtain ⟨dm4, em4⟩ := hm4
                  have frN5 : ∀ c o, H4 c = some o → ¬ (c = a ∨ c = L) → H5 c = some o := fun c o e n => kp5 c o e (fun z => n (.inl z)) (fun z => n (.inr z))
                  have soft5 : ∀ c o, (c = a ∨ c = L) → H4 c = some o → (∀ ys, o ≠ .tup ys) ∧ ∀ ob u, o ≠ .frz ob u := fun c o z e => by
                    rcases z with rfl | rfl
                    · exact Soft.no (.inl ⟨_, _, _, ea4⟩) e
                    · exact Soft.no (.inr ⟨_, hL4⟩) e
                  have hc5 := hc4.kept frN5 soft5 (fun c hc z => by
                    rcases z with rfl | rfl
                    · exact nac hc
                    · exact nlc hc)
                  have ho5 := ho4.kept frN5 soft5 (fun c hc z => by
                    rcases z with rfl | rfl
                    · exact na1 hc
                    · exact nl1 hc)
                  have ht5 : SqT K H5 t [.ref tx, .ref ty] := sqT_but ht4 frN5 soft5
                  refine ⟨n1, Nat.lt_succ_self _, _, _, _, a :: L :: (fx ++ fc'), .eight (withSecond ns q) i (j + 1) told x x', l2, s1 + (l1 - l2), rfl, ⟨dx, p', t, L, tx, ty, fx, fc', rfl, ha5, hp5, ht5, hL5, ho5, hc5, na1, nac, nl1, nlc, fun c h1 h2 => dj c h2 h1⟩, ⟨rfl, okx, okc', kx, kc' ▸ ky, hi, by omega⟩, (by show max _ _ + 3 ≤ d + 2; omega), rfl, ⟨dm4, kp5 _ _ em4 nma nml⟩, nm5, e1, ?_⟩
                  exact k3.step (fun c z e hc hcm => kp5 c z (fr5 c z e hc hcm) (fun q => hc (by simp [q])) (fun q => hc (by simp [q]))) sub5 (by omega)
theorem mok_no {k : Nat} {C : Addr} {m qual : Str} {ps : List Str} {sp : Sp} {st : Stmt} {CX : CXT} (c : Cls K C) (D : ∃ f fd, Fun K m qual st f fd ∧ Meth K C m f ∧ Binds K fd ps []) (no : ∀ vs H Q E, ¬ sp vs H Q E) : MOk P w K mg base CX k C m ps sp :=
  MOk.of c D fun f fd F => ⟨(fun vs H Q E h => (no vs H Q E h).elim), (fun _ _ _ _ _ _ _ _ _ _ _ _ _ h => (no _ _ _ _ h).elim)⟩
theorem no_four {vs : List V} {H : Hp} {Q : VK} {E : XK} : ¬ spB A K 2 0 vs H Q E := by
  rintro ⟨a, m, fp, B, l, s, n, o, B', l', rfl, hB, ok, hw, hk, _⟩
  cases B with
  | four ns st told x => exact absurd hw (by show ¬ x.wt + 1 ≤ 0; omega)
  | fourR t b u => exact absurd hw (by show ¬ 1 ≤ 0; omega)
  | leaf c => cases hk
  | fb t b u => cases hk
  | eight ns i j told x y => cases hk
  | eightR r => cases hk
theorem no_eight {d : Nat} (hd : d ≤ 1) {vs : List V} {H : Hp} {Q : VK} {E : XK} : ¬ spB A K 3 d vs H Q E := by
  rintro ⟨a, m, fp, B, l, s, n, o, B', l', rfl, hB, ok, hw, hk, _⟩
  cases B with
  | four ns st told x => cases hk
  | fourR t b u => cases hk
  | leaf c => cases hk
  | fb t b u => cases hk
  | eight ns i j told x y => exact absurd hw (by show ¬ max x.wt y.wt + 3 ≤ d; omega)
  | eightR r => exact absurd hw (by show ¬ r.wt + 2 ≤ d; omega)
/-- fours and eights, no heavier than d -/
theorem ok_asks (T : CT K mg A) (D : DT K mg A) : ∀ d : Nat, MOk P w K mg base (L2.CX P w) (40 + d) A.c_FourBox "ask" ["self", "meter"] (spB A K 2 d) ∧ MOk P w K mg base (L2.CX P w) (40 + d) A.c_EightBox "ask" ["self", "meter"] (spB A K 3 d)
  | 0 => ⟨mok_no T.cl_FourBox D.FourBox_ask fun _ _ _ _ => no_four, mok_no T.cl_EightBox D.EightBox_ask fun _ _ _ _ => no_eight (by omega)⟩
  | 1 => by
    have h := ok_asks T D 0
    exact ⟨ok_ask_four T D h.1 h.2, mok_no T.cl_EightBox D.EightBox_ask fun _ _ _ _ => no_eight (by omega)⟩
  | d + 2 => by
    have h := ok_asks T D (d + 1)
    exact ⟨ok_ask_four T D h.1 h.2, ok_ask_eight T D h.1 h.2⟩
end
/-! ### trees, and the boxes that are made of them -/
inductive Tree where
  | leaf (f : Leaf)
  | four (ns : List Int) (x : Tree)
  | eight (ns : List Int) (x y : Tree)
  | power (x : Tree) (n : Nat)
def Tree.ht : Tree → Nat
  | .leaf _ => 0
  | .four _ x => x.ht + 1
  | .eight _ x y => max x.ht y.ht + 1
  | .power x _ => x.ht + 1
def Tree.At (K : PySem.W.Frag) (H : Hp) : Tree → Addr → Prop
  | .leaf f, v => f.At K H v
  | .four ns x, v => ∃ p tx, SqT K H v [.str "four", .ref p, .ref tx] ∧ SqT K H p (ns.map V.int) ∧ x.At K H tx
  | .eight ns x y, v => ∃ p tx ty, SqT K H v [.str "eight", .ref p, .ref tx, .ref ty] ∧ SqT K H p (ns.map V.int) ∧ x.At K H tx ∧ y.At K H ty
  | .power x n, v => ∃ tx, SqT K H v [.str "power", .ref tx, .int n] ∧ x.At K H tx
/-- some two columns are not made of one another -/
def Crossed (ns : List Int) : Prop := ∃ i k : Nat, k < i ∧ i < ns.length / 2 ∧ ns.getD i 0 * ns.getD (k + ns.length / 2) 0 ≠ ns.getD k 0 * ns.getD (i + ns.length / 2) 0
def Tree.Good : Tree → Prop
  | .leaf f => f.Good
  | .four ns x => ns.length = 4 ∧ (∀ z ∈ ns, tame z) ∧ Crossed ns ∧ x.Good
  | .eight ns x y => ns.length = 8 ∧ (∀ z ∈ ns, tame z) ∧ Crossed ns ∧ x.Good ∧ y.Good
  | .power x n => 1 ≤ n ∧ n ≤ 4 ∧ x.Good
def timesN : List Int := [1, 0, 0, 0, 0, 0, 0, 1]
def powB (R : Box → Prop) : Nat → Box → Prop
  | 0, _ => False
  | 1, B => R B
  | n + 2, B => ∃ x y, R x ∧ powB R (n + 1) y ∧ B = .eight timesN 0 0 false x y
/-- the box that a tree begins with -/
def Tree.Starts : Tree → Box → Prop
  | .leaf f, B => ∃ ch, f.Starts ch ∧ B = .leaf ch
  | .four ns x, B => ∃ X, x.Starts X ∧ B = .four ns false false X
  | .eight ns x y, B => ∃ X Y, x.Starts X ∧ y.Starts Y ∧ B = .eight ns 0 0 false X Y
  | .power x n, B => powB x.Starts n B
section
variable {P : Program} [NoTree P] {w : World} {K : PySem.W.Frag} {mg : Str → Option Value} {base : Heap} {A : Ad}
theorem Tree.At.same {H H' : Hp} (s : Same H H') : ∀ {t : Tree} {v : Addr}, t.At K H v → t.At K H' v
  | .leaf f, v, h => Leaf.At.same (f := f) h s
  | .four ns x, v, h => by
    obtain ⟨p, tx, h1, h2, h3⟩ := h
    exact ⟨p, tx, sqT_same h1 s, sqT_same h2 s, Tree.At.same s h3⟩
  | .eight ns x y, v, h => by
    obtain ⟨p, tx, ty, h1, h2, h3, h4⟩ := h
    exact ⟨p, tx, ty, sqT_same h1 s, sqT_same h2 s, Tree.At.same s h3, Tree.At.same s h4⟩
  | .power x n, v, h => by
    obtain ⟨tx, h1, h2⟩ := h
    exact ⟨tx, sqT_same h1 s, Tree.At.same s h2⟩
theorem powB_kind {R : Box → Prop} (h : ∀ B, R B → B.kind ≠ 1) : ∀ {n : Nat} {B : Box}, powB R n B → B.kind ≠ 1
  | 0, B, z => z.elim
  | 1, B, z => h B z
  | n + 2, B, z => by
    obtain ⟨x, y, _, _, rfl⟩ := z
    show 3 ≠ 1
    decide
theorem Tree.Starts.kind : ∀ {t : Tree} {B : Box}, t.Starts B → B.kind ≠ 1
  | .leaf f, B, h => by obtain ⟨ch, _, rfl⟩ := h; show 0 ≠ 1; decide
  | .four ns x, B, h => by obtain ⟨X, _, rfl⟩ := h; show 2 ≠ 1; decide
  | .eight ns x y, B, h => by obtain ⟨X, Y, _, _, rfl⟩ := h; show 3 ≠ 1; decide
  | .power x n, B, h => powB_kind (fun B z => Tree.Starts.kind z) h
/-- a box was made: new, and of the right beginning -/
def Made (A : Ad) (K : PySem.W.Frag) (R : Box → Prop) (H : Hp) (Q : VK) : Prop := ∀ (a : Addr) (fp : List Addr) (B : Box) (H' : Hp), BoxAt A K H' B a fp → R B → B.Ok → Same H H' → (∀ c ∈ fp, H c = none) → Q (.ref a) H'
def sp_box_of (A : Ad) (K : PySem.W.Frag) (d : Nat) : Sp := fun vs H Q _ => ∃ (v : Addr) (t : Tree), vs = [.ref v] ∧ t.At K H v ∧ t.Good ∧ t.ht ≤ d ∧ Made A K t.Starts H Q
def sp_power_box (A : Ad) (K : PySem.W.Frag) (d N : Nat) : Sp := fun vs H Q _ => ∃ (v : Addr) (t : Tree) (n : Nat), vs = [.ref v, .int n] ∧ t.At K H v ∧ t.Good ∧ t.ht ≤ d ∧ 1 ≤ n ∧ n ≤ N ∧ Made A K (powB t.Starts n) H Q
theorem cok_no {k : Nat} {x : Str} {st : Stmt} {ps : List Str} {sp : Sp} (D : ∃ f fd, DefAt K mg x st ps f fd) (no : ∀ vs H Q E, ¬ sp vs H Q E) : COk P w K mg base CX0 k x ps sp := by
  obtain ⟨f, fd, F⟩ := D
  exact .of F ⟨(fun _ _ _ _ h => (no _ _ _ _ h).elim), (fun _ _ _ _ _ _ _ _ _ _ _ _ _ h => (no _ _ _ _ h).elim)⟩
/-- an eight is made of two new boxes -/
theorem eight_made {H H1 H2 : Hp} {Q : VK} {p tx ty : Addr} {fx fy : List Addr} {X Y : Box} {ns : List Int} (T : CT K mg A) (hx : BoxAt A K H1 X tx fx) (hy : BoxAt A K H2 Y ty fy) (okX : X.Ok) (okY : Y.Ok) (kX : X.kind ≠ 1) (kY : Y.kind ≠ 1) (hl : ns.length = 8)
    (s1 : Same H H1) (s2 : Same H1 H2) (nx : ∀ c ∈ fx, H c = none) (ny : ∀ c ∈ fy, H1 c = none) (hp : SqT K H2 p (ns.map V.int))
    (k : ∀ (a : Addr) (fp : List Addr) (H' : Hp), BoxAt A K H' (.eight ns 0 0 false X Y) a fp → Box.Ok (.eight ns 0 0 false X Y) → Same H H' → (∀ c ∈ fp, H c = none) → Q (.ref a) H') {x dx : Addr} (nx2 : H2 x = none) (nd2 : H2 dx = none) (ne : dx ≠ x) :
    sp_EightBox_init A [.ref x, .ref p, .ref tx, .ref ty] (upd (upd H2 dx (.own x)) x (.ins A.c_EightBox dx [])) (fun v H' => v = .non ∧ Q (.ref x) H') E0 := by
  refine ⟨x, dx, p, tx, ty, rfl, upd_same, fun q l H' nq nl nlq ha hq hL kp => ⟨rfl, ?_⟩⟩
  have s3 : Same H2 H' := fun c o e => kp c o (by rw [upd_ne (ne_of_none e nx2), upd_ne (ne_of_none e nd2)]; exact e) (ne_of_none e nx2)
  have nlx : l ≠ x := fun z => by rw [z, upd_same] at nl; cases nl
  have nld : l ≠ dx := fun z => by rw [z, upd_ne ne, upd_same] at nl; cases nl
  have nl2 : H2 l = none := by rw [upd_ne nlx, upd_ne nld] at nl; exact nl
  have some_of : ∀ {H0 : Hp} {B : Box} {b : Addr} {f : List Addr} {c : Addr}, BoxAt A K H0 B b f → c ∈ f → ∃ o, H0 c = some o := fun h hc => by
    rcases h.soft _ hc with ⟨_, _, _, q⟩ | ⟨_, q⟩
    · exact ⟨_, q⟩
    · exact ⟨_, q⟩
  have hx2 := hx.same s2
  have out : ∀ {B : Box} {b : Addr} {f : List Addr} {c : Addr}, BoxAt A K H2 B b f → H2 c = none → c ∉ f := fun h e hc => by
    obtain ⟨o, q⟩ := some_of h hc
    rw [e] at q
    cases q
  refine k x (x :: l :: (fx ++ fy)) H' ⟨dx, p, q, l, tx, ty, fx, fy, rfl, ha, sqT_same hp s3, SqT.of hq, hL, hx2.same s3, hy.same s3, out hx2 nx2, out hy nx2, out hx2 nl2, out hy nl2, fun c h1 h2 => ?_⟩ ⟨hl, okX, okY, kX, kY, by decide, by decide⟩ ((s1.trans s2).trans s3) (fun c hc => ?_)
  · obtain ⟨o, q⟩ := some_of hx h1
    rw [ny c h2] at q
    cases q
  · simp only [List.mem_cons, List.mem_append] at hc
    rcases hc with rfl | rfl | hc | hc
    · exact (s1.trans s2).free nx2
    · exact (s1.trans s2).free nl2
    · exact nx c hc
    · exact s1.free (ny c hc)
theorem ok_power_box {d N k : Nat} (T : CT K mg A) (D : DT K mg A) (hk : 5 ≤ k) (G_box_of : COk P w K mg base CX0 k "box_of" ["tree"] (sp_box_of A K d)) (G_power_box : COk P w K mg base CX0 (k + N) "power_box" ["tree", "times"] (sp_power_box A K d N)) :
    COk P w K mg base CX0 (k + (N + 1)) "power_box" ["tree", "times"] (sp_power_box A K d (N + 1)) := by
  have I_EightBox := ok_EightBox_init (P := P) (w := w) (base := base) T D
  refine COk.by D.power_box fun f fd F => ?_
  refine F.ok (k := k + N) sc_power_box (fun vs H Q E h => ?_) (fun cdv Ar outer s H vs Q E hr h => ?_)
  · obtain ⟨v, t, n, rfl, _⟩ := h
    rfl
  · obtain ⟨v, t, n, rfl, ht, hg, hd, h1, hN, k'⟩ := h
    refine ⟨_, (pss_cons (ps_if (pt_cmpR op_eq (pv 1) pe_int (nomark _))
      (pss_one (ps_ret (pe_c G_box_of (hr.mono (by first | decide | omega)) (pa_cons (pv 0) pa_nil)))) pss_nil)
    (pss_one (ps_ret (pe_mk I_EightBox (hr.mono (by first | decide | omega)) (pa_cons (pe_glob (v := .ref A.k_TIMES) (by rfl) T.g_TIMES rfl) (pa_cons (pe_c G_box_of (hr.mono (by first | decide | omega)) (pa_cons (pv 0) pa_nil)) (pa_cons (pe_c G_power_box (hr.mono (by first | decide | omega)) (pa_cons (pv 0) (pa_cons (pe_op op_sub (pv 1) pe_int) pa_nil))) pa_nil))))))), ?_⟩
    refine ⟨_, rfl, rfl, _, rfl, ite2 (fun c => ?_) (fun c => ?_)⟩
    · have e : n = 1 := by
        have := V.int.inj (of_decide_eq_true c)
        omega
      subst e
      exact ⟨_, rfl, v, t, rfl, ht, hg, hd, k'⟩
    · have e : n ≠ 1 := fun z => c (decide_eq_true (by rw [z]; rfl))
      obtain ⟨n, rfl⟩ : ∃ j, n = j + 2 := ⟨n - 2, by omega⟩
      refine ⟨_, rfl, v, t, rfl, ht, hg, hd, fun tx fx X H1 hx sX okX s1 nx => ?_⟩
      refine ⟨_, rfl, _, rfl, _, _, rfl, rfl, ?_⟩
      have en : (((n + 2 : Nat) : Int) - 1) = ((n + 1 : Nat) : Int) := by omega
      refine cast (congrArg (fun z => sp_power_box A K d N [V.ref v, V.int z] H1 _ E0) en.symm) ?_
      refine ⟨v, t, n + 1, rfl, ht.same s1, hg, hd, by omega, by omega, fun ty fy Y H2 hy sY okY s2 ny => ?_⟩
      intro x dx nx2 nd2 ne
      exact eight_made T hx hy okX okY sX.kind (powB_kind (fun B z => Tree.Starts.kind z) sY) rfl s1 s2 nx ny (T.t_TIMES H2) (fun a fp H' hB ok s n' => k' a fp _ H' hB ⟨X, Y, sX, sY, rfl⟩ ok s n') nx2 nd2 ne
theorem ok_power_all {d k : Nat} (T : CT K mg A) (D : DT K mg A) (hk : 5 ≤ k) (G : COk P w K mg base CX0 k "box_of" ["tree"] (sp_box_of A K d)) : ∀ N : Nat, COk P w K mg base CX0 (k + N) "power_box" ["tree", "times"] (sp_power_box A K d N)
  | 0 => cok_no D.power_box fun vs H Q E h => by
    obtain ⟨v, t, n, _, _, _, _, h1, h2, _⟩ := h
    omega
  | N + 1 => ok_power_box T D hk G (ok_power_all T D hk G N)
theorem ok_box_of_step {d k : Nat} (T : CT K mg A) (D : DT K mg A) (hk : 5 ≤ k) (hd : ∀ t : Tree, t.ht < d + 1 → t.ht ≤ d) (G_box_of : COk P w K mg base CX0 k "box_of" ["tree"] (sp_box_of A K d)) : COk P w K mg base CX0 (k + 5) "box_of" ["tree"] (sp_box_of A K (d + 1)) := by
  have G_leaf_of := ok_leaf_of (P := P) (w := w) (base := base) T D
  have G_power_box := ok_power_all (P := P) (w := w) (base := base) T D hk G_box_of 4
  have I_EightBox := ok_EightBox_init (P := P) (w := w) (base := base) T D
  have I_FourBox := ok_FourBox_init (P := P) (w := w) (base := base) T D
  refine COk.by D.box_of fun f fd F => ?_
  refine F.ok (k := k + 4) sc_box_of (fun vs H Q E h => ?_) (fun cdv Ar outer s H vs Q E hr h => ?_)
  · obtain ⟨v, t, rfl, _⟩ := h
    rfl
  · obtain ⟨v, t, rfl, ht, hg, hh, k'⟩ := h
    refine ⟨_, (pss_cons (ps_set (i := 1) sc_box_of.nd rfl (Or.inl rfl) (pe_ix ix_tup (pv 0) pe_int (fun _ _ => rfl)))
    (pss_cons (ps_if (pt_cmpR op_eq (pv 1) pe_str (nomark _))
      (pss_one (ps_ret (pe_mk I_FourBox (hr.mono (by first | decide | omega)) (pa_cons (pe_ix ix_tup (pv 0) pe_int (fun _ _ => rfl)) (pa_cons (pe_c G_box_of (hr.mono (by first | decide | omega)) (pa_cons (pe_ix ix_tup (pv 0) pe_int (fun _ _ => rfl)) pa_nil)) (pa_cons pe_bl (pa_cons pe_bl pa_nil))))))) pss_nil)
    (pss_cons (ps_if (pt_cmpR op_eq (pv 1) pe_str (nomark _))
      (pss_one (ps_ret (pe_mk I_EightBox (hr.mono (by first | decide | omega)) (pa_cons (pe_ix ix_tup (pv 0) pe_int (fun _ _ => rfl)) (pa_cons (pe_c G_box_of (hr.mono (by first | decide | omega)) (pa_cons (pe_ix ix_tup (pv 0) pe_int (fun _ _ => rfl)) pa_nil)) (pa_cons (pe_c G_box_of (hr.mono (by first | decide | omega)) (pa_cons (pe_ix ix_tup (pv 0) pe_int (fun _ _ => rfl)) pa_nil)) pa_nil)))))) pss_nil)
    (pss_cons (ps_if (pt_cmpR op_eq (pv 1) pe_str (nomark _))
      (pss_one (ps_ret (pe_c G_power_box (hr.mono (by first | decide | omega)) (pa_cons (pe_ix ix_tup (pv 0) pe_int (fun _ _ => rfl)) (pa_cons (pe_ix ix_tup (pv 0) pe_int (fun _ _ => rfl)) pa_nil))))) pss_nil)
    (pss_one (ps_ret (pe_c G_leaf_of (hr.mono (by first | decide | omega)) (pa_cons (pv 0) pa_nil)))))))), ?_⟩
    cases t with
    | leaf f =>
      have fin : Q = Q → sp_leaf_of A K [.ref v] H Q E0 := fun _ => ⟨v, f, rfl, ht, hg, fun a c ch H' hl st ok s na nc ne => k' a [a, c] (.leaf ch) H' ⟨c, rfl, hl, ne⟩ ⟨ch, st, rfl⟩ ok s (fun z hz => by
        simp only [List.mem_cons, List.not_mem_nil, or_false] at hz
        rcases hz with rfl | rfl
        · exact na
        · exact nc)⟩
      cases f with
      | frac t b => exact ⟨_, rfl, v, _, 0, _, rfl, rfl, ht, atI_nat (j := 0) rfl, _, rfl, rfl, _, rfl, iteF ⟨_, rfl, rfl, _, rfl, iteF ⟨_, rfl, rfl, _, rfl, iteF ⟨_, rfl, fin rfl⟩⟩⟩⟩
      | root t s b => exact ⟨_, rfl, v, _, 0, _, rfl, rfl, ht, atI_nat (j := 0) rfl, _, rfl, rfl, _, rfl, iteF ⟨_, rfl, rfl, _, rfl, iteF ⟨_, rfl, rfl, _, rfl, iteF ⟨_, rfl, fin rfl⟩⟩⟩⟩
      | ruled ps ring steps =>
        obtain ⟨p, q, u, hv, h3⟩ := id ht
        exact ⟨_, rfl, v, _, 0, _, rfl, rfl, hv, atI_nat (j := 0) rfl, _, rfl, rfl, _, rfl, iteF ⟨_, rfl, rfl, _, rfl, iteF ⟨_, rfl, rfl, _, rfl, iteF ⟨_, rfl, fin rfl⟩⟩⟩⟩
    | four ns x =>
      obtain ⟨p, tx, hv, hp, hx⟩ := ht
      obtain ⟨hl, ht', hc, gx⟩ := hg
      refine ⟨_, rfl, v, _, 0, _, rfl, rfl, hv, atI_nat (j := 0) rfl, _, rfl, rfl, _, rfl, iteT ⟨_, rfl, v, _, 1, _, rfl, rfl, hv, atI_nat (j := 1) rfl, _, rfl, v, _, 2, _, rfl, rfl, hv, atI_nat (j := 2) rfl, tx, x, rfl, hx, gx, Nat.le_of_succ_le_succ hh, fun bx fx X H1 hbx sX okX s1 nx => ?_⟩⟩
      intro r dr nr nd ne
      refine ⟨r, dr, _, rfl, rfl, upd_same, rfl, ?_⟩
      rw [upd_upd]
      have s2 := made_same (o := .own r) (o' := .ins A.c_FourBox dr (foF p bx false false .non)) nr nd
      have nrx : r ∉ fx := fun z => by
        rcases hbx.soft r z with ⟨_, _, _, q⟩ | ⟨_, q⟩
        · rw [nr] at q; cases q
        · rw [nr] at q; cases q
      refine k' r (r :: fx) (.four ns false false X) _ ⟨dr, p, bx, fx, rfl, upd_same, sqT_same hp (s1.trans s2), hbx.same s2, nrx⟩ ⟨X, sX, rfl⟩ ⟨hl, okX, sX.kind⟩ (s1.trans s2) (fun c hc => ?_)
      rcases List.mem_cons.mp hc with rfl | hc
      · exact s1.free nr
      · exact nx c hc
    | eight ns x y =>
      obtain ⟨p, tx, ty, hv, hp, hx, hy⟩ := ht
      obtain ⟨hl, ht', hc, gx, gy⟩ := hg
      have hm : max x.ht y.ht + 1 ≤ d + 1 := hh
      refine ⟨_, rfl, v, _, 0, _, rfl, rfl, hv, atI_nat (j := 0) rfl, _, rfl, rfl, _, rfl, iteF ⟨_, rfl, rfl, _, rfl, iteT ⟨_, rfl, v, _, 1, _, rfl, rfl, hv, atI_nat (j := 1) rfl, _, rfl, v, _, 2, _, rfl, rfl, hv, atI_nat (j := 2) rfl, tx, x, rfl, hx, gx, by omega, fun bx fx X H1 hbx sX okX s1 nx => ?_⟩⟩⟩
      have hv1 := sqT_same hv s1
      refine ⟨_, rfl, v, _, 3, _, rfl, rfl, hv1, atI_nat (j := 3) rfl, ty, y, rfl, hy.same s1, gy, by omega, fun byy fy Y H2 hby sY okY s2 ny => ?_⟩
      intro r dr nr nd ne
      exact eight_made T hbx hby okX okY sX.kind sY.kind hl s1 s2 nx ny (sqT_same hp (s1.trans s2)) (fun a fp H' hB ok s n' => k' a fp _ H' hB ⟨X, Y, sX, sY, rfl⟩ ok s n') nr nd ne
    | power x n =>
      obtain ⟨tx, hv, hx⟩ := ht
      obtain ⟨h1, h4, gx⟩ := hg
      exact ⟨_, rfl, v, _, 0, _, rfl, rfl, hv, atI_nat (j := 0) rfl, _, rfl, rfl, _, rfl, iteF ⟨_, rfl, rfl, _, rfl, iteF ⟨_, rfl, rfl, _, rfl, iteT ⟨_, rfl, v, _, 1, _, rfl, rfl, hv, atI_nat (j := 1) rfl, _, rfl, v, _, 2, _, rfl, rfl, hv, atI_nat (j := 2) rfl, tx, x, n, rfl, hx, gx, Nat.le_of_succ_le_succ hh, h1, h4, k'⟩⟩⟩⟩
end
/-! ### readings of trees -/
section
variable {P : Program} [NoTree P] {w : World} {K : PySem.W.Frag} {mg : Str → Option Value} {base : Heap} {A : Ad}
theorem ok_box_of_0 (T : CT K mg A) (D : DT K mg A) : COk P w K mg base CX0 6 "box_of" ["tree"] (sp_box_of A K 0) := by
  obtain ⟨f, fd, F, a, b, c⟩ := ok_box_of_leaf (P := P) (w := w) (base := base) T D
  refine ⟨f, fd, F.imp fun vs H Q E h => ?_, a, b, c⟩
  obtain ⟨v, t, rfl, ht, hg, hh, k'⟩ := h
  cases t with
  | leaf f => exact ⟨v, f, rfl, ht, hg, fun a c ch H' hl st ok s na nc ne => k' a [a, c] (.leaf ch) H' ⟨c, rfl, hl, ne⟩ ⟨ch, st, rfl⟩ ok s (fun z hz => by
        simp only [List.mem_cons, List.not_mem_nil, or_false] at hz
        rcases hz with rfl | rfl
        · exact na
        · exact nc)⟩
  | four ns x => exact absurd hh (by show ¬ x.ht + 1 ≤ 0; omega)
  | eight ns x y => exact absurd hh (by show ¬ max x.ht y.ht + 1 ≤ 0; omega)
  | power x n => exact absurd hh (by show ¬ x.ht + 1 ≤ 0; omega)
theorem ok_box_of_all (T : CT K mg A) (D : DT K mg A) : ∀ d : Nat, COk P w K mg base CX0 (6 + 5 * d) "box_of" ["tree"] (sp_box_of A K d)
  | 0 => ok_box_of_0 T D
  | d + 1 => (ok_box_of_step T D (by omega) (fun t h => Nat.le_of_lt_succ h) (ok_box_of_all T D d)).mono (by omega)
/-- a reading at r: its box, its meter -/
structure ReadB (A : Ad) (K : PySem.W.Frag) (H : Hp) (r a m : Addr) (fp : List Addr) (B : Box) (l s : Int) : Prop where
  rd : ∃ rx, H r = some (.ins A.c_Reading rx (reF a m))
  bx : BoxAt A K H B a fp
  mt : MeterAt A H m l s
  nr : r ∉ fp
  nm : m ∉ fp
  rm : r ≠ m
  ok : B.Ok
theorem ReadB.kept {H H' : Hp} {r a m : Addr} {fp : List Addr} {B : Box} {l s : Int} {N : Addr → Prop} (R : ReadB A K H r a m fp B l s) (k : ∀ c o, H c = some o → ¬ N c → H' c = some o) (hN : ∀ c o, N c → H c = some o → (∀ ys, o ≠ .tup ys) ∧ ∀ ob u, o ≠ .frz ob u)
    (n1 : ¬ N r) (n2 : ¬ N m) (n3 : ∀ c ∈ fp, ¬ N c) : ReadB A K H' r a m fp B l s := by
  obtain ⟨⟨rx, e⟩, hB, ⟨dm, em⟩, nr, nm, rm, ok⟩ := R
  exact ⟨⟨rx, k _ _ e n1⟩, hB.kept k hN n3, ⟨dm, k _ _ em n2⟩, nr, nm, rm, ok⟩
theorem ReadB.same {H H' : Hp} {r a m : Addr} {fp : List Addr} {B : Box} {l s : Int} (R : ReadB A K H r a m fp B l s) (k : Same H H') : ReadB A K H' r a m fp B l s :=
  R.kept (N := fun _ => False) (fun c o e _ => k c o e) (fun _ _ z => z.elim) (fun z => z) (fun z => z) (fun _ _ z => z)
/-- another list is written -/
theorem ReadB.put {H : Hp} {r a m d : Addr} {fp : List Addr} {B : Box} {l s : Int} {xs ys : List V} (R : ReadB A K H r a m fp B l s) (hd : H d = some (.lst xs)) (nd : d ∉ fp) : ReadB A K (upd H d (.lst ys)) r a m fp B l s := by
  obtain ⟨rx, e⟩ := R.rd
  obtain ⟨dm, em⟩ := R.mt
  refine R.kept (N := fun c => c = d) (fun c o e n => by rw [upd_ne n]; exact e) (fun c o z e => ?_) (fun z => ?_) (fun z => ?_) (fun c hc z => nd (z ▸ hc))
  · subst z
    exact Soft.no (.inr ⟨_, hd⟩) e
  · rw [z, hd] at e; cases e
  · rw [z, hd] at em; cases em
/-- one asking of a reading -/
def sp_partB (A : Ad) (K : PySem.W.Frag) (d : Nat) : Sp := fun vs H Q E => ∃ (r a m : Addr) (fp : List Addr) (B : Box) (l s q : Int) (n : Nat) (o : Option Ans) (B' : Box) (l' : Int), vs = [.ref r, .int q] ∧ ReadB A K H r a m fp B l s ∧ B.wt ≤ d ∧ askF n B q = some (o, B', l') ∧
  ∀ H' fp', ReadB A K H' r a m fp' B' l' (s + (q - l')) → (∀ c z, H c = some z → c ∉ fp → c ≠ m → H' c = some z) → (∀ c ∈ fp', c ∈ fp ∨ H c = none) →
    match o with
    | none => E (.ref A.c_NoValue) none H'
    | some an => ∀ v, an.At A H' v → Q v H'
/-- any box, asked: by its class -/
theorem ask_all {σ : St} {H : Hp} {to : TE} {ta : TA} {Q : VK} {E : XK} {d : Nat} {tx m : Addr} {fx : List Addr} {x x' : Box} {l s l' : Int} {n : Nat} {o : Option Ans} (hto : ∀ R : VK, R (.ref tx) H → to σ H R) (hta : ∀ R : List V → Hp → Prop, R [.ref m] H → ta σ H R)
    (hB : BoxAt A K H x tx fx) (ok : x.Ok) (hw : x.wt ≤ d) (hm : MeterAt A H m l s) (nm : m ∉ fx) (e : askF n x l = some (o, x', l')) (k : FinB A K Q E H tx m fx l s o x' l') :
    tMeth A.c_Leaf "ask" (spB A K 0 d) [] E0 to ta σ H Q ∨ tMeth A.c_FractionBox "ask" (spB A K 1 d) [] E to ta σ H Q ∨ tMeth A.c_FourBox "ask" (spB A K 2 d) [] E to ta σ H Q ∨ tMeth A.c_EightBox "ask" (spB A K 3 d) [] E to ta σ H Q := by
  by_cases hk : x.kind = 1
  · obtain ⟨C, dx, fs, ec, hl, c0, c1, c2, c3⟩ := hB.cls
    exact .inr (.inl (hto _ ⟨tx, dx, fs, rfl, by rw [← c1 hk]; exact ec, hl, hta _ ⟨tx, m, fx, x, l, s, n, o, x', l', rfl, hB, ok, hw, hk, hm, nm, e, k⟩⟩))
  · rcases ask_any hto hta hB ok hw hk hm nm e k with z | z | z
    · exact .inl z
    · exact .inr (.inr (.inl z))
    · exact .inr (.inr (.inr z))
theorem ok_partB (T : CT K mg A) (D : DT K mg A) (d : Nat) : MOk P w K mg base (L2.CX P w) (40 + d + 1) A.c_Reading "part" ["self", "most"] (sp_partB A K d) := by
  have M_allow := ok_Meter_allow (P := P) (w := w) (base := base) T D
  have M_leaf := ok_ask_leaf (P := P) (w := w) (base := base) T D d
  have M_fb := ok_ask_fb (P := P) (w := w) (base := base) T D d
  obtain ⟨M_four, M_eight⟩ := ok_asks (P := P) (w := w) (base := base) T D d
  refine MOk.of T.cl_Reading D.Reading_part fun f fd F => ?_
  refine F.okX (k := 40 + d) sc_Reading_part (fun vs H Q E h => ?_) (fun cdv Ar outer s H vs Q E hr h => ?_)
  · obtain ⟨r, a, m, fp, B, l, s, q, n, o, B', l', rfl, _⟩ := h
    rfl
  · obtain ⟨r, a, m, fp, B, l, sp, q, n, o, B', l', rfl, R, hw, e, k⟩ := h
    refine ⟨_, (pss_cons (ps_expr (pe_m M_allow (hr.mono (by first | decide | omega)) (pe_fld (pv 0) rfl) (pa_cons (pv 1) pa_nil)))
    (pss_one (ps_ret ((pe_alt (pe_m M_leaf (hr.mono (by first | decide | omega)) (pe_fld (pv 0) rfl) (pa_cons (pe_fld (pv 0) rfl) pa_nil)) (pe_alt (pe_mX M_fb (hr.mono (by first | decide | omega)) (passes_tk (takes_of rfl rfl rfl rfl)) (pe_fld (pv 0) rfl) (pa_cons (pe_fld (pv 0) rfl) pa_nil)) (pe_alt (pe_mX M_four (hr.mono (by first | decide | omega)) (passes_tk (takes_of rfl rfl rfl rfl)) (pe_fld (pv 0) rfl) (pa_cons (pe_fld (pv 0) rfl) pa_nil)) (pe_mX M_eight (hr.mono (by first | decide | omega)) (passes_tk (takes_of rfl rfl rfl rfl)) (pe_fld (pv 0) rfl) (pa_cons (pe_fld (pv 0) rfl) pa_nil))))))))), ?_⟩
    have cl := T.cl_Reading
    obtain ⟨⟨rx, er⟩, hB, ⟨dm, em⟩, nr, nm, rm, ok⟩ := R
    refine ⟨_, rfl, r, _, rx, _, _, rfl, er, cl, T.n_Reading_meter, rfl, m, dm, _, rfl, em, rfl, _, rfl, m, dm, l, sp, q, rfl, em, ?_⟩
    have fr1 : ∀ c o, H c = some o → ¬ c = m → (upd H m (.ins A.c_Meter dm (meF q sp))) c = some o := fun c o e n => by rw [upd_ne n]; exact e
    have hB1 := hB.kept (N := fun c => c = m) fr1 (fun c o z e => by subst z; rw [em] at e; exact ins_no (Option.some.inj e).symm) (fun c hc z => nm (z ▸ hc))
    have er1 := fr1 _ _ er rm
    refine ask_all (tx := a) (m := m) (fx := fp) (x := B) (l := q) (s := sp) (n := n) (fun R h => ⟨_, rfl, r, _, rx, _, _, rfl, er1, cl, T.n_Reading_box, rfl, h⟩) (fun R h => ⟨_, rfl, r, _, rx, _, _, rfl, er1, cl, T.n_Reading_meter, rfl, h⟩) hB1 ok hw ⟨dm, upd_same⟩ nm e fun H4 fp' hB4 hm4 nm4 fr4 sub4 => ?_
    obtain ⟨ok', _, _⟩ := askF_ok ok e
    have sub5 : ∀ c ∈ fp', c ∈ fp ∨ H c = none := fun c hc => by
      rcases sub4 c hc with z | z
      · exact .inl z
      · have ncm : c ≠ m := fun q => nm4 (q ▸ hc)
        rw [upd_ne ncm] at z
        exact .inr z
    refine k H4 fp' ⟨⟨rx, fr4 _ _ er1 nr rm⟩, hB4, hm4, fun z => ?_, nm4, rm, ok'⟩ (fun c z e hc hcm => fr4 c z (fr1 c z e hcm) hc hcm) sub5
    rcases sub5 r z with z | z
    · exact nr z
    · rw [er] at z; cases z
theorem ok_tookB (T : CT K mg A) (D : DT K mg A) : MOk P w K mg base CX0 1 A.c_Reading "took" ["self"] (fun vs H Q _ => ∃ r a m fp B l s, vs = [.ref r] ∧ ReadB A K H r a m fp B l s ∧ Q (.int s) H) := by
  obtain ⟨cl, f, fd, F, M, B⟩ := ok_Reading_took (P := P) (w := w) (base := base) T D
  refine ⟨cl, f, fd, F.imp fun vs H Q E h => ?_, M, B⟩
  obtain ⟨r, a, m, fp, B, l, s, rfl, ⟨⟨rx, e⟩, _, ⟨dm, e3⟩, _⟩, q⟩ := h
  exact ⟨r, rx, a, m, dm, l, s, rfl, e, e3, q⟩
end
/-! ### checks of fours, eights and powers -/
section
variable {P : Program} [NoTree P] {w : World} {K : PySem.W.Frag} {mg : Str → Option Value} {base : Heap} {A : Ad}
def sp_check_line (K : PySem.W.Frag) : Sp := fun vs H Q _ => ∃ (p : Addr) (ns : List Int), vs = [.ref p] ∧ SqT K H p (ns.map V.int) ∧ (∃ h, ns.length = 2 * h ∧ 0 < h ∧ h ≤ 4) ∧ (∀ z ∈ ns, tame z) ∧ Crossed ns ∧ ∀ H', Same H H' → Q .non H'
theorem ok_check_line (T : CT K mg A) (D : DT K mg A) : COk P w K mg base CX0 2 "check_line" ["numbers"] (sp_check_line K) := by
  have G_require : COk P w K mg base CX0 1 "require" ["holds", "why"] sp_require := ok_require D
  refine COk.by D.check_line fun f fd F => ?_
  refine F.ok sc_check_line (fun vs H Q E h => ?_) (fun cdv Ar outer s H vs Q E hr h => ?_)
  · obtain ⟨p, ns, rfl, _⟩ := h
    rfl
  · obtain ⟨p, ns, rfl, hp, ⟨h, hl, h0, h4⟩, hf, hc, k⟩ := h
    refine ⟨_, (pss_cons (ps_set (i := 1) sc_check_line.nd rfl (Or.inl rfl) (pe_op op_fdiv (pe_callB call_len_seq (by rfl) T.b_len (by decide +kernel) (pa_cons (pv 0) pa_nil)) pe_int))
    (pss_cons (ps_asg (pe_tup (pa_cons (pe_slice sl_tupA (pv 0) po_none (po_some (pv 1))) (pa_cons (pe_slice sl_tupA (pv 0) (po_some (pv 1)) po_none) pa_nil))) (pg_tup rfl (pgs_cons (pg_name (i := 2) sc_check_line.nd rfl (Or.inr rfl)) (pgs_cons (pg_name (i := 3) sc_check_line.nd rfl (Or.inr rfl)) pgs_nil))))
    (pss_cons (ps_setLc2 (i := 4) (own := [("i", 5), ("k", 6)]) (vs1 := [6]) (g := gName 5) (g1 := gName 6) (tt := tYes) (tt1 := tYes) rfl sc_check_line.nd rfl rfl (sw_true rfl rfl rfl (by decide +kernel)) (pi_range1 rfl T.b_range (pa_cons (pv 1) pa_nil)) (blkOk_by (own := [("i", 5), ("k", 6)]) (N := ["numbers", "half", "above", "below", "crossed", "i", "k"]) (sc := defScope s_check_line) (by decide +kernel)) (by decide) (fun _ _ _ _ _ => (pg_name (i := 5) sc_check_line.nd rfl (Or.inl rfl))) (fun _ _ _ _ _ => pts_nil) (fun _ _ _ _ _ => (pi_range1 rfl T.b_range (pa_cons (pv 5) pa_nil))) (fun _ _ _ _ _ => (pg_name (i := 6) sc_check_line.nd rfl (Or.inl rfl))) (fun _ _ _ _ _ => pts_nil) (fun _ _ _ _ _ => (pe_cmpR op_ne (pe_op op_mul (pe_ix (show IxR _ (rIxT K) from ix_tup) (pv 2) (pv 5) (fun _ _ => rfl)) (pe_ix (show IxR _ (rIxT K) from ix_tup) (pv 3) (pv 6) (fun _ _ => rfl))) (pe_op op_mul (pe_ix (show IxR _ (rIxT K) from ix_tup) (pv 2) (pv 6) (fun _ _ => rfl)) (pe_ix (show IxR _ (rIxT K) from ix_tup) (pv 3) (pv 5) (fun _ _ => rfl))) (nomark _))))
    (pss_one (ps_expr (pe_c G_require (hr.mono (by first | decide | omega)) (pa_cons (pe_callB (cr_any rfl) (by rfl) T.b_any (by decide +kernel) (pa_cons (pv 4) pa_nil)) (pa_cons pe_str pa_nil)))))))), ?_⟩
    have e1 : (((ns.map V.int).length : Nat) : Int) / 2 = ((h : Nat) : Int) := by rw [List.length_map, hl]; omega
    have nf : ¬ (HT.sIx (ns.map V.int).length 0 none = 0 ∧ HT.sIx (ns.map V.int).length (ns.map V.int).length (some (h : Int)) = (ns.map V.int).length) := fun z => by
      have := z.2
      rw [HT.sIx_nat, List.length_map] at this
      omega
    have c1 : cutV (ns.map V.int) none (some (h : Int)) = (ns.take h).map V.int := by
      rw [cut_takeB, List.map_take]
    have c2 : cutV (ns.map V.int) (some (h : Int)) none = (ns.drop h).map V.int := by
      rw [cut_dropB, List.map_drop]
    have lt : (ns.take h).length = h := by rw [List.length_take]; omega
    have ld : (ns.drop h).length = h := by rw [List.length_drop]; omega
    refine ⟨_, rfl, p, _, rfl, .inr hp, _, _, rfl, rfl, ⟨by decide, by decide⟩, ?_⟩
    show tSeq _ _ _ [some (V.ref p), some (V.int ((((ns.map V.int).length : Nat) : Int) / 2)), none, none, none, none, none] H
    rw [e1]
    refine ⟨_, rfl, _, rfl, _, rfl, p, _, rfl, hp, fun z => absurd z nf, fun _ u nu => ?_⟩
    have s1 := same_upd (o := .tup (cutV (ns.map V.int) none (some (h : Int)))) nu
    have hu : SqT K (upd H u (.tup (cutV (ns.map V.int) none (some (h : Int))))) u ((ns.take h).map V.int) := by rw [← c1]; exact SqT.of upd_same
    generalize upd H u (.tup (cutV (ns.map V.int) none (some (h : Int)))) = H1 at s1 hu ⊢
    have hp1 := sqT_same hp s1
    refine ⟨_, rfl, _, rfl, _, rfl, p, _, rfl, hp1, fun z => absurd z (not_whole h0 (by rw [List.length_map]; omega)), fun _ v nv => ?_⟩
    have s2 := same_upd (o := .tup (cutV (ns.map V.int) (some (h : Int)) none)) nv
    have hv : SqT K (upd H1 v (.tup (cutV (ns.map V.int) (some (h : Int)) none))) v ((ns.drop h).map V.int) := by rw [← c2]; exact SqT.of upd_same
    generalize upd H1 v (.tup (cutV (ns.map V.int) (some (h : Int)) none)) = H2 at s2 hv ⊢
    have hu2 := sqT_same hu s2
    refine ⟨(by show 2 ≤ sizeLine; decide), fun q3 nq3 => ?_⟩
    have s3 := same_upd (o := .tup [V.ref u, .ref v]) nq3
    refine ⟨q3, _, rfl, SqT.of upd_same, rfl, _, _, rfl, _, _, rfl, rfl, ?_⟩
    have hu3 := sqT_same hu2 s3
    have hv3 := sqT_same hv s3
    generalize upd H2 q3 (.tup [V.ref u, .ref v]) = H3 at s3 hu3 hv3 ⊢
    have gt : ∀ j : Nat, j < h → ((ns.take h).map V.int)[j]? = some (.int (ns.getD j 0)) := fun j hj => by
      rw [List.getElem?_map, List.getElem?_take_of_lt hj, List.getD_eq_getElem?_getD, List.getElem?_eq_getElem (show j < ns.length by omega)]
      rfl
    have gd : ∀ j : Nat, j < h → ((ns.drop h).map V.int)[j]? = some (.int (ns.getD (j + h) 0)) := fun j hj => by
      rw [List.getElem?_map, List.getElem?_drop, List.getD_eq_getElem?_getD, Nat.add_comm h j, List.getElem?_eq_getElem (show j + h < ns.length by omega)]
      rfl
    have tm : ∀ j : Nat, j < ns.length → tame (ns.getD j 0) := fun j hj => hf _ (by
      rw [List.getD_eq_getElem?_getD, List.getElem?_eq_getElem hj]
      exact List.getElem_mem hj)
    have cm : ∀ a b : Int, tame a → CMul a b := fun a b ha => .inl (by
      have : (2 : Int) ^ 64 = 18446744073709551616 := by decide
      obtain ⟨h1, h2⟩ := ha
      omega)
    have hX : ∃ i k : Nat, k < i ∧ i < h ∧ ns.getD i 0 * ns.getD (k + h) 0 ≠ ns.getD k 0 * ns.getD (i + h) 0 := by
      obtain ⟨i, k, h1, h2, h3⟩ := hc
      rw [show ns.length / 2 = h by omega] at h2 h3
      exact ⟨i, k, h1, h2, h3⟩
    have fin : ∀ (D0 : Addr) (bs : List Bool) (H' : Hp), H' D0 = some (.lst (bs.map V.bl)) → Same H3 H' → true ∈ bs → tDrop (tCall sp_require [] E0 (tCons (tCB (rAny K) (tCons (tVar 4) tNil)) (tCons (tC (.str "the numbers above and below the line are told by one another")) tNil))) { nx := fun _ H' => Q .non H', rt := Q } [some (V.ref p), some (V.int h), some (V.ref u), some (V.ref v), some (V.ref D0), none, none] H' := fun D0 bs H' hD s4 hb => by
      refine ⟨_, rfl, D0, bs, rfl, SqL.of hD, _, _, rfl, ?_, k H' (((s1.trans s2).trans s3).trans s4)⟩
      rw [List.any_eq_true]
      exact ⟨true, hb, rfl⟩
    refine ⟨_, rfl, (h : Int), rfl, by omega, by omega, fun D0 nD => ?_⟩
    refine ⟨fun i m H' => m = h - i ∧ i ≤ h ∧ Same H3 H' ∧ ∃ bs : List Bool, H' D0 = some (.lst (bs.map V.bl)) ∧ bs.length ≤ 4 * i ∧ ∀ i' k' : Nat, k' < i' → i' < i → ns.getD i' 0 * ns.getD (k' + h) 0 ≠ ns.getD k' 0 * ns.getD (i' + h) 0 → true ∈ bs,
      ⟨h, by omega, Nat.zero_le _, same_upd nD, [], upd_same, Nat.zero_le _, fun i' k' _ z _ => absurd z (Nat.not_lt_zero _)⟩, ?_⟩
    rintro i m H' ⟨rfl, hi, s4, bs, hD, hb, hall⟩
    by_cases hlt : i < h
    · refine .inr ⟨hlt, fun H'' => i + 1 ≤ h ∧ Same H3 H'' ∧ ∃ bs : List Bool, H'' D0 = some (.lst (bs.map V.bl)) ∧ bs.length ≤ 4 * (i + 1) ∧ ∀ i' k' : Nat, k' < i' → i' < i + 1 → ns.getD i' 0 * ns.getD (k' + h) 0 ≠ ns.getD k' 0 * ns.getD (i' + h) 0 → true ∈ bs,
        fun H'' z => ⟨h - (i + 1), by omega, rfl, z⟩, fun x H'' y => ?_⟩
      obtain ⟨rfl, rfl⟩ := y
      refine ⟨rfl, ?_⟩
      refine ⟨_, rfl, 0 + (i : Int), rfl, by omega, by omega, ?_⟩
      refine ⟨fun j kk H5 => kk = i - j ∧ j ≤ i ∧ Same H3 H5 ∧ ∃ bs : List Bool, H5 D0 = some (.lst (bs.map V.bl)) ∧ bs.length ≤ 4 * i + j ∧ ∀ i' k' : Nat, k' < i' → (i' < i ∨ (i' = i ∧ k' < j)) → ns.getD i' 0 * ns.getD (k' + h) 0 ≠ ns.getD k' 0 * ns.getD (i' + h) 0 → true ∈ bs,
        ⟨i, by omega, Nat.zero_le _, s4, bs, hD, hb, fun i' k' z1 z2 => hall i' k' z1 (by omega)⟩, ?_⟩
      rintro j kk H5 ⟨rfl, hj, s5, bs5, hD5, hb5, hall5⟩
      have hti : (0 + (i : Int)).toNat = i := by omega
      by_cases hjl : j < i
      · refine .inr ⟨(by show j < (0 + (i : Int)).toNat; omega), fun H6 => j + 1 ≤ i ∧ Same H3 H6 ∧ ∃ bs : List Bool, H6 D0 = some (.lst (bs.map V.bl)) ∧ bs.length ≤ 4 * i + (j + 1) ∧ ∀ i' k' : Nat, k' < i' → (i' < i ∨ (i' = i ∧ k' < j + 1)) → ns.getD i' 0 * ns.getD (k' + h) 0 ≠ ns.getD k' 0 * ns.getD (i' + h) 0 → true ∈ bs,
          fun H6 z => ⟨i - (j + 1), by omega, rfl, z⟩, fun x H6 y => ?_⟩
        obtain ⟨rfl, rfl⟩ := y
        refine ⟨rfl, ?_⟩
        have hu5 := sqT_same hu3 s5
        have hv5 := sqT_same hv3 s5
        have zi : ∀ {xs : List V} {n : Nat} {z : V}, xs[n]? = some z → atI xs (0 + (n : Int)) = some z := fun {xs n z} e => by rw [Int.zero_add]; exact atI_nat e
        refine ⟨_, rfl, _, rfl, u, _, _, _, rfl, rfl, hu5, zi (gt i hlt), _, rfl, _, rfl, v, _, _, _, rfl, rfl, hv5, zi (gd j (by omega)), _, _, rfl, rfl, cm _ _ (tm i (by omega)), ?_⟩
        refine ⟨_, rfl, _, rfl, u, _, _, _, rfl, rfl, hu5, zi (gt j (by omega)), _, rfl, _, rfl, v, _, _, _, rfl, rfl, hv5, zi (gd i hlt), _, _, rfl, rfl, cm _ _ (tm j (by omega)), ?_⟩
        refine ⟨rfl, _, hD5, ?_, by omega, ?_, bs5 ++ [!decide (V.int (ns.getD i 0 * ns.getD (j + h) 0) = V.int (ns.getD j 0 * ns.getD (i + h) 0))], ?_, ?_, ?_⟩
        · rw [List.length_map]
          exact Nat.lt_of_le_of_lt hb5 (Nat.lt_of_lt_of_le (show 4 * i + j < 64 by omega) (by decide))
        · intro c o z
          rw [upd_ne (ne_of_none z nD)]
          exact s5 _ _ z
        · rw [upd_same, List.map_append]
          rfl
        · rw [List.length_append]
          show _ + 1 ≤ _
          omega
        · intro i' k' z1 z2 z3
          rw [List.mem_append]
          rcases z2 with z2 | ⟨rfl, z2⟩
          · exact .inl (hall5 i' k' z1 (.inl z2) z3)
          · by_cases hk : k' < j
            · exact .inl (hall5 i' k' z1 (.inr ⟨rfl, hk⟩) z3)
            · have ek : k' = j := by omega
              subst ek
              right
              rw [List.mem_singleton, decide_eq_false (fun q => z3 (V.int.inj q))]
              rfl
      · refine .inl ⟨(by show (0 + (i : Int)).toNat ≤ j; omega), by omega, s5, bs5, hD5, by omega, fun i' k' z1 z2 z3 => hall5 i' k' z1 ?_ z3⟩
        rcases Nat.lt_or_ge i' i with q | q
        · exact .inl q
        · exact .inr ⟨by omega, by omega⟩
    · have ei : i = h := by omega
      obtain ⟨i0, k0, z1, z2, z3⟩ := hX
      exact .inl ⟨(by show ((h : Int)).toNat ≤ i; omega), fin D0 bs H' hD s4 (hall i0 k0 z1 (by omega) z3)⟩
/-- a good tree, not too deep -/
def sp_chk (K : PySem.W.Frag) (N : Nat) : Sp := fun vs H Q _ => ∃ (v : Addr) (t : Tree) (d : Int), vs = [.ref v, .int d] ∧ t.At K H v ∧ t.Good ∧ d + t.ht ≤ 5 ∧ t.ht ≤ N ∧ ∀ H', Same H H' → Q .non H'
def sp_check_four (K : PySem.W.Frag) (N : Nat) : Sp := fun vs H Q _ => ∃ (a p tx : Addr) (ns : List Int) (x : Tree) (d : Int), vs = [.ref a, .int d] ∧ SqT K H a [.str "four", .ref p, .ref tx] ∧ SqT K H p (ns.map V.int) ∧ ns.length = 4 ∧ (∀ z ∈ ns, tame z) ∧ Crossed ns ∧ x.At K H tx ∧ x.Good ∧ d + 1 + x.ht ≤ 5 ∧ x.ht ≤ N ∧ ∀ H', Same H H' → Q .non H'
theorem ok_check_four {k N : Nat} (T : CT K mg A) (D : DT K mg A) (hk : 2 ≤ k) (G_check_at_depth : COk P w K mg base CX0 k "check_at_depth" ["tree", "depth"] (sp_chk K N)) : COk P w K mg base CX0 (k + 1) "check_four" ["tree", "depth"] (sp_check_four K N) := by
  have G_check_row := ok_check_row (P := P) (w := w) (base := base) T D
  have G_check_line := ok_check_line (P := P) (w := w) (base := base) T D
  refine COk.by D.check_four fun f fd F => ?_
  refine F.ok (k := k) sc_check_four (fun vs H Q E h => ?_) (fun cdv Ar outer s H vs Q E hr h => ?_)
  · obtain ⟨a, p, tx, ns, x, d, rfl, _⟩ := h
    rfl
  · obtain ⟨a, p, tx, ns, x, d, rfl, ha, hp, hl, ht, hc, hx, gx, hd, hn, q⟩ := h
    refine ⟨_, (pss_cons (ps_expr (pe_c G_check_row (hr.mono (by first | decide | omega)) (pa_cons (pe_ix ix_tup (pv 0) pe_int (fun _ _ => rfl)) (pa_cons pe_int (pa_cons pe_int pa_nil)))))
    (pss_cons (ps_expr (pe_c G_check_line (hr.mono (by first | decide | omega)) (pa_cons (pe_ix ix_tup (pv 0) pe_int (fun _ _ => rfl)) pa_nil)))
    (pss_one (ps_expr (pe_c G_check_at_depth (hr.mono (by first | decide | omega)) (pa_cons (pe_ix ix_tup (pv 0) pe_int (fun _ _ => rfl)) (pa_cons (pe_op op_add (pv 1) pe_int) pa_nil))))))), ?_⟩
    refine ⟨_, rfl, a, _, 1, _, rfl, rfl, ha, atI_nat (j := 1) rfl, p, ns, 4, 4, rfl, hp, by omega, by omega, ht, ?_⟩
    refine ⟨_, rfl, a, _, 1, _, rfl, rfl, ha, atI_nat (j := 1) rfl, p, ns, rfl, hp, ⟨2, hl, by decide, by decide⟩, ht, hc, fun H1 s1 => ?_⟩
    exact ⟨_, rfl, a, _, 2, _, rfl, rfl, sqT_same ha s1, atI_nat (j := 2) rfl, _, rfl, _, _, rfl, rfl, tx, x, d + 1, rfl, hx.same s1, gx, hd, hn, fun H2 s2 => q H2 (s1.trans s2)⟩
def sp_check_eight (K : PySem.W.Frag) (N : Nat) : Sp := fun vs H Q _ => ∃ (a p tx ty : Addr) (ns : List Int) (x y : Tree) (d : Int), vs = [.ref a, .int d] ∧ SqT K H a [.str "eight", .ref p, .ref tx, .ref ty] ∧ SqT K H p (ns.map V.int) ∧ ns.length = 8 ∧ (∀ z ∈ ns, tame z) ∧ Crossed ns ∧ x.At K H tx ∧ y.At K H ty ∧ x.Good ∧ y.Good ∧ d + 1 + x.ht ≤ 5 ∧ d + 1 + y.ht ≤ 5 ∧ x.ht ≤ N ∧ y.ht ≤ N ∧ ∀ H', Same H H' → Q .non H'
theorem ok_check_eight {k N : Nat} (T : CT K mg A) (D : DT K mg A) (hk : 2 ≤ k) (G_check_at_depth : COk P w K mg base CX0 k "check_at_depth" ["tree", "depth"] (sp_chk K N)) : COk P w K mg base CX0 (k + 1) "check_eight" ["tree", "depth"] (sp_check_eight K N) := by
  have G_check_row := ok_check_row (P := P) (w := w) (base := base) T D
  have G_check_line := ok_check_line (P := P) (w := w) (base := base) T D
  refine COk.by D.check_eight fun f fd F => ?_
  refine F.ok (k := k) sc_check_eight (fun vs H Q E h => ?_) (fun cdv Ar outer s H vs Q E hr h => ?_)
  · obtain ⟨a, p, tx, ty, ns, x, y, d, rfl, _⟩ := h
    rfl
  · obtain ⟨a, p, tx, ty, ns, x, y, d, rfl, ha, hp, hl, ht, hc, hx, hy, gx, gy, hd, hd2, hn, hn2, q⟩ := h
    refine ⟨_, (pss_cons (ps_expr (pe_c G_check_row (hr.mono (by first | decide | omega)) (pa_cons (pe_ix ix_tup (pv 0) pe_int (fun _ _ => rfl)) (pa_cons pe_int (pa_cons pe_int pa_nil)))))
    (pss_cons (ps_expr (pe_c G_check_line (hr.mono (by first | decide | omega)) (pa_cons (pe_ix ix_tup (pv 0) pe_int (fun _ _ => rfl)) pa_nil)))
    (pss_cons (ps_expr (pe_c G_check_at_depth (hr.mono (by first | decide | omega)) (pa_cons (pe_ix ix_tup (pv 0) pe_int (fun _ _ => rfl)) (pa_cons (pe_op op_add (pv 1) pe_int) pa_nil))))
    (pss_one (ps_expr (pe_c G_check_at_depth (hr.mono (by first | decide | omega)) (pa_cons (pe_ix ix_tup (pv 0) pe_int (fun _ _ => rfl)) (pa_cons (pe_op op_add (pv 1) pe_int) pa_nil)))))))), ?_⟩
    refine ⟨_, rfl, a, _, 1, _, rfl, rfl, ha, atI_nat (j := 1) rfl, p, ns, 8, 8, rfl, hp, by omega, by omega, ht, ?_⟩
    refine ⟨_, rfl, a, _, 1, _, rfl, rfl, ha, atI_nat (j := 1) rfl, p, ns, rfl, hp, ⟨4, hl, by decide, by decide⟩, ht, hc, fun H1 s1 => ?_⟩
    refine ⟨_, rfl, a, _, 2, _, rfl, rfl, sqT_same ha s1, atI_nat (j := 2) rfl, _, rfl, _, _, rfl, rfl, tx, x, d + 1, rfl, hx.same s1, gx, hd, hn, fun H2 s2 => ?_⟩
    exact ⟨_, rfl, a, _, 3, _, rfl, rfl, sqT_same ha (s1.trans s2), atI_nat (j := 3) rfl, _, rfl, _, _, rfl, rfl, ty, y, d + 1, rfl, hy.same (s1.trans s2), gy, hd2, hn2, fun H3 s3 => q H3 ((s1.trans s2).trans s3)⟩
def sp_check_power (K : PySem.W.Frag) (N : Nat) : Sp := fun vs H Q _ => ∃ (a tx : Addr) (x : Tree) (n : Nat) (d : Int), vs = [.ref a, .int d] ∧ SqT K H a [.str "power", .ref tx, .int n] ∧ 1 ≤ n ∧ n ≤ 4 ∧ x.At K H tx ∧ x.Good ∧ d + 1 + x.ht ≤ 5 ∧ x.ht ≤ N ∧ ∀ H', Same H H' → Q .non H'
theorem ok_check_power {k N : Nat} (T : CT K mg A) (D : DT K mg A) (hk : 2 ≤ k) (G_check_at_depth : COk P w K mg base CX0 k "check_at_depth" ["tree", "depth"] (sp_chk K N)) : COk P w K mg base CX0 (k + 1) "check_power" ["tree", "depth"] (sp_check_power K N) := by
  have G_check_row := ok_check_row (P := P) (w := w) (base := base) T D
  have G_require : COk P w K mg base CX0 1 "require" ["holds", "why"] sp_require := ok_require D
  obtain ⟨tP, gi_MOST_POWER⟩ := T.i_MOST_POWER
  refine COk.by D.check_power fun f fd F => ?_
  refine F.ok (k := k) sc_check_power (fun vs H Q E h => ?_) (fun cdv Ar outer s H vs Q E hr h => ?_)
  · obtain ⟨a, tx, x, n, d, rfl, _⟩ := h
    rfl
  · obtain ⟨a, tx, x, n, d, rfl, ha, h1, h4, hx, gx, hd, hn, q⟩ := h
    refine ⟨_, (pss_cons (ps_expr (pe_c G_check_row (hr.mono (by first | decide | omega)) (pa_cons (pe_slice sl_tup (pv 0) (po_some pe_int) po_none) (pa_cons pe_int (pa_cons pe_int pa_nil)))))
    (pss_cons (ps_expr (pe_c G_require (hr.mono (by first | decide | omega)) (pa_cons (pe_chain op_le op_le pe_int (pe_ix ix_tup (pv 0) pe_int (fun _ _ => rfl)) (pe_glob (v := .int 4) (by rfl) gi_MOST_POWER ⟨_, rfl⟩)) (pa_cons pe_str pa_nil))))
    (pss_one (ps_expr (pe_c G_check_at_depth (hr.mono (by first | decide | omega)) (pa_cons (pe_ix ix_tup (pv 0) pe_int (fun _ _ => rfl)) (pa_cons (pe_op op_add (pv 1) pe_int) pa_nil))))))), ?_⟩
    refine ⟨_, rfl, _, rfl, a, _, rfl, ha, not_whole (k := 2) (by decide) (by show 2 ≤ 3; decide), fun u nu => ?_⟩
    have s1 := same_upd (o := .tup (cutV [.str "power", .ref tx, .int n] (some 2) none)) nu
    have hu : SqT K (upd H u (.tup (cutV [.str "power", .ref tx, .int n] (some 2) none))) u ([(n : Int)].map V.int) := by
      rw [cutV2]
      exact SqT.of upd_same
    refine ⟨u, [(n : Int)], 1, 1, rfl, hu, Int.le_refl _, Int.le_refl _, fun z hz => ?_, ?_⟩
    · rw [List.mem_singleton] at hz
      subst hz
      exact ⟨by omega, by omega⟩
    have ha1 := sqT_same ha s1
    refine ⟨_, rfl, a, _, 2, _, rfl, rfl, ha1, atI_nat (j := 2) rfl, _, _, rfl, rfl, true, (congrArg V.bl (decide_eq_true (show (1 : Int) ≤ (n : Int) by omega))), iteT ⟨_, _, rfl, rfl, _, _, rfl, decide_eq_true (by omega), ?_⟩⟩
    exact ⟨_, rfl, a, _, 1, _, rfl, rfl, ha1, atI_nat (j := 1) rfl, _, rfl, _, _, rfl, rfl, tx, x, d + 1, rfl, hx.same s1, gx, hd, hn, fun H2 s2 => q H2 (s1.trans s2)⟩
theorem chk_leaf {H : Hp} {Q : VK} {v : Addr} {f : Leaf} {d : Int} {sO sE sP : Sp} (ht : f.At K H v) (hg : f.Good) (hd : d ≤ 5) (q : ∀ H', Same H H' → Q .non H') : sp_check_at K (sp_check_fraction K) (sp_check_root K) (sp_check_ruled K) sO sE sP [.ref v, .int d] H Q E0 := by
  cases f with
  | frac t b => exact ⟨v, "fraction", [.int t, .int b], d, rfl, hd, ht, .inl ⟨rfl, rfl, v, t, b, d, rfl, ht, hg.1, hg.2.1, hg.2.2, fun H' s' => q H' s'⟩⟩
  | root t s b => exact ⟨v, "root", [.int t, .int s, .int b], d, rfl, hd, ht, .inr (.inl ⟨rfl, rfl, v, t, s, b, d, rfl, ht, hg.1, hg.2.1, hg.2.2.1, hg.2.2.2.1, hg.2.2.2.2, fun H' s' => q H' s'⟩)⟩
  | ruled ps ring steps =>
    obtain ⟨p, q', u, hv, hp, hq, hu⟩ := id ht
    exact ⟨v, "ruled", [.ref p, .ref q', .ref u], d, rfl, hd, hv, .inr (.inr (.inl ⟨rfl, rfl, v, p, q', u, ps, ring, steps, d, rfl, hv, hp, hq, hu, hg, fun H' s' => q H' s'⟩))⟩
theorem COk.imp {k : Nat} {x : Str} {ps : List Str} {sp sp' : Sp} (h : COk P w K mg base CX0 k x ps sp) (i : ∀ vs H Q E, sp' vs H Q E → sp vs H Q E) : COk P w K mg base CX0 k x ps sp' := by
  obtain ⟨f, fd, F, a, b, c⟩ := h
  exact ⟨f, fd, F.imp i, a, b, c⟩
theorem ok_chk (T : CT K mg A) (TT : TB K w mg A) (D : DT K mg A) : ∀ N : Nat, COk P w K mg base CX0 (4 + 2 * N) "check_at_depth" ["tree", "depth"] (sp_chk K N)
  | 0 => by
    refine (ok_check_at_depth (P := P) (w := w) (base := base) (k := 3) T TT D (by decide) (ok_check_fraction T D) (ok_check_root T D) (ok_check_ruled T D) (ok_no D.check_four) (ok_no D.check_eight) (ok_no D.check_power)).imp fun vs H Q E h => ?_
    obtain ⟨v, t, d, rfl, ht, hg, hd, hn, q⟩ := h
    cases t with
    | leaf f => exact chk_leaf ht hg (by have : d + 0 ≤ 5 := hd; omega) q
    | four ns x => exact absurd hn (by show ¬ x.ht + 1 ≤ 0; omega)
    | eight ns x y => exact absurd hn (by show ¬ max x.ht y.ht + 1 ≤ 0; omega)
    | power x n => exact absurd hn (by show ¬ x.ht + 1 ≤ 0; omega)
  | N + 1 => by
    have G := ok_chk T TT D N
    refine ((ok_check_at_depth (P := P) (w := w) (base := base) (k := 4 + 2 * N + 1) T TT D (by omega) ((ok_check_fraction T D).mono (by omega)) ((ok_check_root T D).mono (by omega)) ((ok_check_ruled T D).mono (by omega)) (ok_check_four T D (by omega) G) (ok_check_eight T D (by omega) G) (ok_check_power T D (by omega) G)).mono (by omega)).imp fun vs H Q E h => ?_
    obtain ⟨v, t, d, rfl, ht, hg, hd, hn, q⟩ := h
    cases t with
    | leaf f => exact chk_leaf ht hg (by have : d + 0 ≤ 5 := hd; omega) q
    | four ns x =>
      obtain ⟨p, tx, hv, hp, hx⟩ := ht
      obtain ⟨hl, ht', hc, gx⟩ := hg
      have h1 : d + ((x.ht + 1 : Nat) : Int) ≤ 5 := hd
      exact ⟨v, "four", [.ref p, .ref tx], d, rfl, by omega, hv, .inr (.inr (.inr (.inl ⟨rfl, rfl, v, p, tx, ns, x, d, rfl, hv, hp, hl, ht', hc, hx, gx, by omega, Nat.le_of_succ_le_succ hn, q⟩)))⟩
    | eight ns x y =>
      obtain ⟨p, tx, ty, hv, hp, hx, hy⟩ := ht
      obtain ⟨hl, ht', hc, gx, gy⟩ := hg
      have h1 : d + ((max x.ht y.ht + 1 : Nat) : Int) ≤ 5 := hd
      have h2 : max x.ht y.ht + 1 ≤ N + 1 := hn
      exact ⟨v, "eight", [.ref p, .ref tx, .ref ty], d, rfl, by omega, hv, .inr (.inr (.inr (.inr (.inl ⟨rfl, rfl, v, p, tx, ty, ns, x, y, d, rfl, hv, hp, hl, ht', hc, hx, hy, gx, gy, by omega, by omega, by omega, by omega, q⟩))))⟩
    | power x n =>
      obtain ⟨tx, hv, hx⟩ := ht
      obtain ⟨g1, g4, gx⟩ := hg
      have h1 : d + ((x.ht + 1 : Nat) : Int) ≤ 5 := hd
      exact ⟨v, "power", [.ref tx, .int n], d, rfl, by omega, hv, .inr (.inr (.inr (.inr (.inr ⟨rfl, rfl, v, tx, x, n, d, rfl, hv, g1, g4, hx, gx, by omega, Nat.le_of_succ_le_succ hn, q⟩))))⟩
/-- a reader of any good tree, up to five deep -/
def sp_readerB (A : Ad) (K : PySem.W.Frag) : Sp := fun vs H Q _ => ∃ (v : Addr) (t : Tree), vs = [.ref v] ∧ t.At K H v ∧ t.Good ∧ t.ht ≤ 4 ∧
  ∀ r a m fp B H', ReadB A K H' r a m fp B 0 0 → t.Starts B → Same H H' → H r = none → H m = none → (∀ c ∈ fp, H c = none) → Q (.ref r) H'
theorem ok_readerB (T : CT K mg A) (TT : TB K w mg A) (D : DT K mg A) : COk P w K mg base CX0 27 "reader" ["tree"] (sp_readerB A K) := by
  have G_box_of := ok_box_of_all (P := P) (w := w) (base := base) T D 4
  have I_Reading := ok_Reading_init (P := P) (w := w) (base := base) T D
  have G_check_tree := ok_check_tree D (ok_chk (P := P) (w := w) (base := base) T TT D 4)
  refine COk.by D.reader fun f fd F => ?_
  refine F.ok (k := 26) sc_reader (fun vs H Q E h => ?_) (fun cdv Ar outer s H vs Q E hr h => ?_)
  · obtain ⟨v, t, rfl, _⟩ := h
    rfl
  · obtain ⟨v, t, rfl, ht, hg, hh, k⟩ := h
    refine ⟨_, (pss_cons (ps_expr (pe_c G_check_tree (hr.mono (by first | decide | omega)) (pa_cons (pv 0) pa_nil)))
    (pss_one (ps_ret (pe_mk I_Reading (hr.mono (by first | decide | omega)) (pa_cons (pe_c G_box_of (hr.mono (by first | decide | omega)) (pa_cons (pv 0) pa_nil)) pa_nil))))), ?_⟩
    refine ⟨_, rfl, _, rfl, v, t, 1, rfl, ht, hg, by omega, hh, fun H1 s1 => ?_⟩
    refine ⟨_, rfl, v, t, rfl, ht.same s1, hg, hh, fun a fp B H2 hB sB ok s2 nf => ?_⟩
    intro x dx nx nd ne
    refine ⟨x, dx, a, rfl, upd_same, fun m H3 nm hx hm kp => ⟨rfl, ?_⟩⟩
    have s3 : Same H2 H3 := fun b o e => kp b o (by rw [upd_ne (ne_of_none e nx), upd_ne (ne_of_none e nd)]; exact e) (ne_of_none e nx)
    have nm2 : H2 m = none := by
      cases q : H2 m with
      | none => rfl
      | some o =>
        have hmx : m ≠ x := fun z => by rw [z, upd_same] at nm; cases nm
        have hmd : m ≠ dx := fun z => by rw [z, upd_ne ne, upd_same] at nm; cases nm
        rw [upd_ne hmx, upd_ne hmd, q] at nm
        cases nm
    have hxm : x ≠ m := fun z => by rw [← z, upd_same] at nm; cases nm
    have out : ∀ c, H2 c = none → c ∉ fp := fun c e hc => by
      rcases hB.soft c hc with ⟨_, _, _, q⟩ | ⟨_, q⟩
      · rw [e] at q; cases q
      · rw [e] at q; cases q
    exact k x a m fp B H3 ⟨⟨dx, hx⟩, hB.same s3, hm, out x nx, out m nm2, hxm, ok⟩ sB ((s1.trans s2).trans s3) ((s1.trans s2).free nx) ((s1.trans s2).free nm2) (fun c hc => s1.free (nf c hc))
end
/-! ### the sure part, told otherwise -/
theorem fdiv_negs (x y : Int) : (-x).fdiv (-y) = x.fdiv y := Int.neg_fdiv_neg x y
theorem fdiv_bounds {a b : Int} (hb : 0 < b) : a.fdiv b * b ≤ a ∧ a < (a.fdiv b + 1) * b := by
  have h1 := fmod_eq a b
  have h2 := fmod_pos (a := a) hb
  have e : (a.fdiv b + 1) * b = a.fdiv b * b + b := by rw [Int.add_mul, Int.one_mul]
  rw [e]
  generalize a.fdiv b * b = z at *
  omega
theorem fdiv_is {a b q : Int} (hb : 0 < b) (h0 : q * b ≤ a) (h1 : a < (q + 1) * b) : a.fdiv b = q := by
  have e : (q + 1) * b = q * b + b := by rw [Int.add_mul, Int.one_mul]
  rw [e] at h1
  exact (fdiv_unique (q := q) (r := a - q * b) hb (by omega) (by omega) (by omega)).1
/-- all lie from q to q + 1, the first one below q + 1 -/
def Lies (ds : List (Int × Int)) (q : Int) : Prop := (∀ d ∈ ds, 0 < d.2 ∧ q * d.2 ≤ d.1 ∧ d.1 ≤ (q + 1) * d.2) ∧ ∀ d, ds.head? = some d → d.1 < (q + 1) * d.2
def negs (cs : List (Int × Int)) : List (Int × Int) := cs.map fun c => (-c.1, -c.2)
def Sure (cs : List (Int × Int)) (q : Int) : Prop := Lies cs q ∨ Lies (negs cs) q
def coreS (ds : List (Int × Int)) : Option Int :=
  if ds.all (fun d => decide (0 < d.2)) then
    let q := (ds.getD 0 (0, 0)).1.fdiv (ds.getD 0 (0, 0)).2
    if ds.all (fun d => decide (q * d.2 ≤ d.1) && decide (d.1 ≤ (q + 1) * d.2)) then some q else none
  else none
theorem coreS_iff {d0 : Int × Int} {dr : List (Int × Int)} {q : Int} : coreS (d0 :: dr) = some q ↔ Lies (d0 :: dr) q := by
  unfold coreS
  simp only [List.getD_cons_zero]
  constructor
  · intro h
    split at h
    · rename_i hp
      split at h
      · rename_i hq
        cases h
        have p : ∀ d ∈ d0 :: dr, 0 < d.2 := fun d hd => of_decide_eq_true (List.all_eq_true.mp hp d hd)
        refine ⟨fun d hd => ⟨p d hd, ?_⟩, fun d hd => ?_⟩
        · have := List.all_eq_true.mp hq d hd
          rw [Bool.and_eq_true] at this
          exact ⟨of_decide_eq_true this.1, of_decide_eq_true this.2⟩
        · cases hd
          exact (fdiv_bounds (p d0 List.mem_cons_self)).2
      · cases h
    · cases h
  · rintro ⟨h1, h2⟩
    have h0 := h1 d0 List.mem_cons_self
    have e : d0.1.fdiv d0.2 = q := fdiv_is h0.1 h0.2.1 (h2 d0 rfl)
    rw [if_pos (List.all_eq_true.mpr fun d hd => decide_eq_true (h1 d hd).1), e]
    rw [if_pos (List.all_eq_true.mpr fun d hd => by rw [Bool.and_eq_true]; exact ⟨decide_eq_true (h1 d hd).2.1, decide_eq_true (h1 d hd).2.2⟩)]
theorem surePart_core (cs : List (Int × Int)) : surePart cs = coreS (flipped cs) := rfl
theorem sure_iff {cs : List (Int × Int)} {q : Int} (hc : cs ≠ []) : surePart cs = some q ↔ Sure cs q := by
  match cs, hc with
  | c0 :: cr, _ =>
    rw [surePart_core]
    unfold flipped
    rw [List.getD_cons_zero]
    by_cases h : c0.2 < 0
    · rw [if_pos h]
      show coreS ((-c0.1, -c0.2) :: negs cr) = some q ↔ _
      rw [coreS_iff]
      constructor
      · exact fun z => .inr z
      · rintro (z | z)
        · have := (z.1 c0 List.mem_cons_self).1
          omega
        · exact z
    · rw [if_neg h, coreS_iff]
      constructor
      · exact fun z => .inl z
      · rintro (z | z)
        · exact z
        · have := (z.1 (-c0.1, -c0.2) List.mem_cons_self).1
          dsimp only at this
          omega
theorem sure_none {cs : List (Int × Int)} (hc : cs ≠ []) : surePart cs = none ↔ ∀ q, ¬ Sure cs q := by
  constructor
  · intro h q z
    rw [(sure_iff hc).mpr z] at h
    cases h
  · intro h
    cases e : surePart cs with
    | none => rfl
    | some q => exact absurd ((sure_iff hc).mp e) (h q)
theorem chain_scale : ∀ (n : Nat) {k x y : Int}, y.natAbs ≤ n → k ≠ 0 → chain (x * k) (y * k) = chain x y
  | 0, k, x, y, hn, hk => by
    have : y = 0 := by omega
    subst this
    rw [Int.zero_mul, chain_zero, chain_zero]
  | n + 1, k, x, y, hn, hk => by
    by_cases hy : y = 0
    · subst hy
      rw [Int.zero_mul, chain_zero, chain_zero]
    · have hyk : y * k ≠ 0 := Int.mul_ne_zero hy hk
      have ef : (x * k).fdiv (y * k) = x.fdiv y := by
        rcases Int.lt_or_gt_of_ne hk with h | h
        · have z := Int.mul_fdiv_mul_of_pos_left x y (b := -k) (by omega)
          rw [Int.mul_neg, Int.mul_neg, fdiv_negs] at z
          exact z
        · exact Int.mul_fdiv_mul_of_pos_left x y h
      have em : (x * k).fmod (y * k) = x.fmod y * k := by
        rw [← fmod_eq, ef, ← fmod_eq, Int.sub_mul, Int.mul_assoc]
      rw [chain_cons hyk, chain_cons hy, ef, em, chain_scale n (by have := fmod_abs (a := x) hy; omega) hk]
/-! ### askings, one step at a time -/
theorem upd_at {H : Hp} {p : Addr} {o : HO} (_ : Same H (upd H p o)) : (upd H p o) p = some o := upd_same
theorem turned4 (a b c d q : Int) : turnedOver [a, b, c, d] q = [c, d, a - q * c, b - q * d] := by simp [turnedOver]
theorem turned8 (a b c d e f g h q : Int) : turnedOver [a, b, c, d, e, f, g, h] q = [e, f, g, h, a - q * e, b - q * f, c - q * g, d - q * h] := by simp [turnedOver]
theorem askF_pos {n : Nat} {B : Box} {l : Int} {r : Option Ans × Box × Int} (e : askF n B l = some r) : ∃ m, n = m + 1 := by
  cases n with
  | zero => cases B <;> cases e
  | succ m => exact ⟨m, rfl⟩
theorem askF_leaf (n : Nat) (c : Chain) (l : Int) : askF (n + 1) (.leaf c) l = some (some (c.ans l), .leaf (c.then_ l), l - c.took l) := rfl
/-- what stands ahead of taking -/
abbrev sureF (ns : List Int) (st : Bool) : Option Int := if st = true then surePart (fourCorners ns) else none
section
variable {n : Nat} {ns : List Int} {st told : Bool} {x x' : Box} {l l' q : Int}
theorem askF_four_tell (hf : allFit ns (fourCorners ns) = true) (hs : sureF ns st = some q) : askF (n + 1) (.four ns st told x) l = some (some (.part q), .four (turnedOver ns q) st true x, l) := by
  simp only [askF, if_pos hf, hs]
theorem askF_four_none (hf : allFit ns (fourCorners ns) = true) (hs : sureF ns st = none) (e : askF n x l = some (none, x', l')) : askF (n + 1) (.four ns st told x) l = some (none, .four ns st told x', l') := by
  simp only [askF, if_pos hf, hs, e]
theorem askF_four_waits (hf : allFit ns (fourCorners ns) = true) (hs : sureF ns st = none) (e : askF n x l = some (some .waits, x', l')) : askF (n + 1) (.four ns st told x) l = some (some .waits, .four ns st told x', l') := by
  simp only [askF, if_pos hf, hs, e]
theorem askF_four_fin (hf : allFit ns (fourCorners ns) = true) (hs : sureF ns st = none) (e : askF n x l = some (some .fin, x', l')) : askF (n + 1) (.four ns st told x) l = askF n (.fourR (ns.getD 0 0) (ns.getD 2 0) told) l' := by
  simp only [askF, if_pos hf, hs, e]
theorem askF_four_part (hf : allFit ns (fourCorners ns) = true) (hs : sureF ns st = none) (e : askF n x l = some (some (.part q), x', l')) (hq : fits q) : askF (n + 1) (.four ns st told x) l = askF n (.four (withOne ns q) true told x') l' := by
  simp only [askF, if_pos hf, hs, e, if_pos hq]
end
abbrev sureE (ns : List Int) (i j : Int) : Option Int := if 0 < i ∧ 0 < j then surePart (eightCorners ns) else none
section
variable {n : Nat} {ns : List Int} {i j : Int} {told : Bool} {x x' y y' : Box} {l l' q : Int}
theorem askF_eight_tell (hf : allFit ns (eightCorners ns) = true) (hs : sureE ns i j = some q) : askF (n + 1) (.eight ns i j told x y) l = some (some (.part q), .eight (turnedOver ns q) i j true x y, l) := by
  simp only [askF, if_pos hf, hs]
theorem askF_eight_none0 (hf : allFit ns (eightCorners ns) = true) (hs : sureE ns i j = none) (h : i ≤ j) (e : askF n x l = some (none, x', l')) : askF (n + 1) (.eight ns i j told x y) l = some (none, .eight ns i j told x' y, l') := by
  simp only [askF, if_pos hf, hs, if_pos h, e]
theorem askF_eight_waits0 (hf : allFit ns (eightCorners ns) = true) (hs : sureE ns i j = none) (h : i ≤ j) (e : askF n x l = some (some .waits, x', l')) : askF (n + 1) (.eight ns i j told x y) l = some (some .waits, .eight ns i j told x' y, l') := by
  simp only [askF, if_pos hf, hs, if_pos h, e]
theorem askF_eight_fin0 (hf : allFit ns (eightCorners ns) = true) (hs : sureE ns i j = none) (h : i ≤ j) (e : askF n x l = some (some .fin, x', l')) : askF (n + 1) (.eight ns i j told x y) l = askF n (.eightR (oneBox (leftOf ns 0) told y)) l' := by
  simp only [askF, if_pos hf, hs, if_pos h, e]
theorem askF_eight_part0 (hf : allFit ns (eightCorners ns) = true) (hs : sureE ns i j = none) (h : i ≤ j) (e : askF n x l = some (some (.part q), x', l')) (hq : fits q) : askF (n + 1) (.eight ns i j told x y) l = askF n (.eight (withFirst ns q) (i + 1) j told x' y) l' := by
  simp only [askF, if_pos hf, hs, if_pos h, e, if_pos hq]
theorem askF_eight_none1 (hf : allFit ns (eightCorners ns) = true) (hs : sureE ns i j = none) (h : ¬ i ≤ j) (e : askF n y l = some (none, y', l')) : askF (n + 1) (.eight ns i j told x y) l = some (none, .eight ns i j told x y', l') := by
  simp only [askF, if_pos hf, hs, if_neg h, e]
theorem askF_eight_waits1 (hf : allFit ns (eightCorners ns) = true) (hs : sureE ns i j = none) (h : ¬ i ≤ j) (e : askF n y l = some (some .waits, y', l')) : askF (n + 1) (.eight ns i j told x y) l = some (some .waits, .eight ns i j told x y', l') := by
  simp only [askF, if_pos hf, hs, if_neg h, e]
theorem askF_eight_fin1 (hf : allFit ns (eightCorners ns) = true) (hs : sureE ns i j = none) (h : ¬ i ≤ j) (e : askF n y l = some (some .fin, y', l')) : askF (n + 1) (.eight ns i j told x y) l = askF n (.eightR (oneBox (leftOf ns 1) told x)) l' := by
  simp only [askF, if_pos hf, hs, if_neg h, e]
theorem askF_eight_part1 (hf : allFit ns (eightCorners ns) = true) (hs : sureE ns i j = none) (h : ¬ i ≤ j) (e : askF n y l = some (some (.part q), y', l')) (hq : fits q) : askF (n + 1) (.eight ns i j told x y) l = askF n (.eight (withSecond ns q) i (j + 1) told x y') l' := by
  simp only [askF, if_pos hf, hs, if_neg h, e, if_pos hq]
end
theorem askF_rest {n : Nat} {r r' : Box} {l l' : Int} {o : Option Ans} (e : askF n r l = some (o, r', l')) : askF (n + 1) (.eightR r) l = some (o, .eightR r', l') := by
  simp only [askF, e, Option.map_some]
theorem ans_end {n : Nat} {c : Chain} (h : c.ended = true) (l : Int) : askF (n + 1) (.leaf c) l = some (some .fin, .leaf c, l) := by
  have e1 : c.ans l = .fin := by unfold Chain.ans; rw [if_pos h]
  have e2 : c.then_ l = c := by unfold Chain.then_; rw [if_pos h]
  have e3 : c.took l = 0 := by unfold Chain.took; rw [if_pos h]
  rw [askF_leaf, e1, e2, e3, Int.sub_zero]
theorem ans_waits {n : Nat} {c : Chain} (h : c.ended = false) {l : Int} (hl : l < 1) : askF (n + 1) (.leaf c) l = some (some .waits, .leaf c, l) := by
  have e1 : c.ans l = .waits := by unfold Chain.ans; rw [h, if_neg (by decide), if_pos hl]
  have e2 : c.then_ l = c := by unfold Chain.then_; rw [h, if_neg (by decide), if_pos hl]
  have e3 : c.took l = 0 := by unfold Chain.took; rw [h, if_neg (by decide), if_pos hl]
  rw [askF_leaf, e1, e2, e3, Int.sub_zero]
theorem ans_part {n : Nat} {c : Chain} (h : c.ended = false) {l : Int} (hl : ¬ l < 1) : askF (n + 1) (.leaf c) l = some (some (.part c.part), .leaf c.next, l - 1) := by
  have e1 : c.ans l = .part c.part := by unfold Chain.ans; rw [h, if_neg (by decide), if_neg hl]
  have e2 : c.then_ l = c.next := by unfold Chain.then_; rw [h, if_neg (by decide), if_neg hl]
  have e3 : c.took l = 1 := by unfold Chain.took; rw [h, if_neg (by decide), if_neg hl]
  rw [askF_leaf, e1, e2, e3]
/-! ### askings without fuel; what more parts of leaves change -/
inductive Asks : Box → Int → Option Ans → Box → Int → Prop
  | leaf {c l} : Asks (.leaf c) l (some (c.ans l)) (.leaf (c.then_ l)) (l - c.took l)
  | fb {t b told l r} : fbAsk t b told = some r → Asks (.fb t b told) l r.1 (.fb r.2.1 r.2.2.1 r.2.2.2) l
  | fourR {t b told l r} : fbAsk t b told = some r → Asks (.fourR t b told) l r.1 (.fourR r.2.1 r.2.2.1 r.2.2.2) l
  | tell4 {ns st told x l q} : allFit ns (fourCorners ns) = true → sureF ns st = some q → Asks (.four ns st told x) l (some (.part q)) (.four (turnedOver ns q) st true x) l
  | none4 {ns st told x x' l l'} : allFit ns (fourCorners ns) = true → sureF ns st = none → Asks x l none x' l' → Asks (.four ns st told x) l none (.four ns st told x') l'
  | wait4 {ns st told x x' l l'} : allFit ns (fourCorners ns) = true → sureF ns st = none → Asks x l (some .waits) x' l' → Asks (.four ns st told x) l (some .waits) (.four ns st told x') l'
  | fin4 {ns st told x x' l l1 o B' l'} : allFit ns (fourCorners ns) = true → sureF ns st = none → Asks x l (some .fin) x' l1 → Asks (.fourR (ns.getD 0 0) (ns.getD 2 0) told) l1 o B' l' → Asks (.four ns st told x) l o B' l'
  | part4 {ns st told x x' l l1 q o B' l'} : allFit ns (fourCorners ns) = true → sureF ns st = none → Asks x l (some (.part q)) x' l1 → fits q → Asks (.four (withOne ns q) true told x') l1 o B' l' → Asks (.four ns st told x) l o B' l'
  | tell8 {ns i j told x y l q} : allFit ns (eightCorners ns) = true → sureE ns i j = some q → Asks (.eight ns i j told x y) l (some (.part q)) (.eight (turnedOver ns q) i j true x y) l
  | none0 {ns i j told x y x' l l'} : allFit ns (eightCorners ns) = true → sureE ns i j = none → i ≤ j → Asks x l none x' l' → Asks (.eight ns i j told x y) l none (.eight ns i j told x' y) l'
  | wait0 {ns i j told x y x' l l'} : allFit ns (eightCorners ns) = true → sureE ns i j = none → i ≤ j → Asks x l (some .waits) x' l' → Asks (.eight ns i j told x y) l (some .waits) (.eight ns i j told x' y) l'
  | fin0 {ns i j told x y x' l l1 o B' l'} : allFit ns (eightCorners ns) = true → sureE ns i j = none → i ≤ j → Asks x l (some .fin) x' l1 → Asks (.eightR (oneBox (leftOf ns 0) told y)) l1 o B' l' → Asks (.eight ns i j told x y) l o B' l'
  | part0 {ns i j told x y x' l l1 q o B' l'} : allFit ns (eightCorners ns) = true → sureE ns i j = none → i ≤ j → Asks x l (some (.part q)) x' l1 → fits q → Asks (.eight (withFirst ns q) (i + 1) j told x' y) l1 o B' l' → Asks (.eight ns i j told x y) l o B' l'
  | none1 {ns i j told x y y' l l'} : allFit ns (eightCorners ns) = true → sureE ns i j = none → ¬ i ≤ j → Asks y l none y' l' → Asks (.eight ns i j told x y) l none (.eight ns i j told x y') l'
  | wait1 {ns i j told x y y' l l'} : allFit ns (eightCorners ns) = true → sureE ns i j = none → ¬ i ≤ j → Asks y l (some .waits) y' l' → Asks (.eight ns i j told x y) l (some .waits) (.eight ns i j told x y') l'
  | fin1 {ns i j told x y y' l l1 o B' l'} : allFit ns (eightCorners ns) = true → sureE ns i j = none → ¬ i ≤ j → Asks y l (some .fin) y' l1 → Asks (.eightR (oneBox (leftOf ns 1) told x)) l1 o B' l' → Asks (.eight ns i j told x y) l o B' l'
  | part1 {ns i j told x y y' l l1 q o B' l'} : allFit ns (eightCorners ns) = true → sureE ns i j = none → ¬ i ≤ j → Asks y l (some (.part q)) y' l1 → fits q → Asks (.eight (withSecond ns q) i (j + 1) told x y') l1 o B' l' → Asks (.eight ns i j told x y) l o B' l'
  | rest {r r' l l' o} : Asks r l o r' l' → Asks (.eightR r) l o (.eightR r') l'
theorem asks_of : ∀ (n : Nat) {B : Box} {l : Int} {o : Option Ans} {B' : Box} {l' : Int}, askF n B l = some (o, B', l') → Asks B l o B' l'
  | 0, _, _, _, _, _, e => by cases e
  | n + 1, .leaf c, l, o, B', l', e => by
    rw [askF_leaf] at e
    cases e
    exact .leaf
  | n + 1, .fb t b told, l, o, B', l', e => by
    have e : (fbAsk t b told).map (fun r => (r.1, Box.fb r.2.1 r.2.2.1 r.2.2.2, l)) = some (o, B', l') := e
    cases z : fbAsk t b told with
    | none => rw [z] at e; cases e
    | some r => rw [z] at e; cases e; exact .fb z
  | n + 1, .fourR t b told, l, o, B', l', e => by
    have e : (fbAsk t b told).map (fun r => (r.1, Box.fourR r.2.1 r.2.2.1 r.2.2.2, l)) = some (o, B', l') := e
    cases z : fbAsk t b told with
    | none => rw [z] at e; cases e
    | some r => rw [z] at e; cases e; exact .fourR z
  | n + 1, .four ns st told x, l, o, B', l', e => by
    by_cases hf : allFit ns (fourCorners ns) = true
    · cases hs : sureF ns st with
      | some q =>
        rw [askF_four_tell hf hs] at e
        cases e
        exact .tell4 hf hs
      | none =>
        cases hx : askF n x l with
        | none =>
          exfalso
          simp only [askF, if_pos hf, hs, hx] at e
          cases e
        | some r =>
          obtain ⟨a, x', l1⟩ := r
          have hX := asks_of n hx
          match a, hx, hX with
          | none, hx, hX =>
            rw [askF_four_none hf hs hx] at e
            cases e
            exact .none4 hf hs hX
          | some .waits, hx, hX =>
            rw [askF_four_waits hf hs hx] at e
            cases e
            exact .wait4 hf hs hX
          | some .fin, hx, hX =>
            rw [askF_four_fin hf hs hx] at e
            exact .fin4 hf hs hX (asks_of n e)
          | some (.part q), hx, hX =>
            by_cases hq : fits q
            · rw [askF_four_part hf hs hx hq] at e
              exact .part4 hf hs hX hq (asks_of n e)
            · exfalso
              simp only [askF, if_pos hf, hs, hx, if_neg hq] at e
              cases e
    · exfalso
      simp only [askF, if_neg hf] at e
      cases e
  | n + 1, .eight ns i j told x y, l, o, B', l', e => by
    by_cases hf : allFit ns (eightCorners ns) = true
    · cases hs : sureE ns i j with
      | some q =>
        rw [askF_eight_tell hf hs] at e
        cases e
        exact .tell8 hf hs
      | none =>
        by_cases h : i ≤ j
        · cases hx : askF n x l with
          | none =>
            exfalso
            simp only [askF, if_pos hf, hs, if_pos h, hx] at e
            cases e
          | some r =>
            obtain ⟨a, x', l1⟩ := r
            have hX := asks_of n hx
            match a, hx, hX with
            | none, hx, hX =>
              rw [askF_eight_none0 hf hs h hx] at e
              cases e
              exact .none0 hf hs h hX
            | some .waits, hx, hX =>
              rw [askF_eight_waits0 hf hs h hx] at e
              cases e
              exact .wait0 hf hs h hX
            | some .fin, hx, hX =>
              rw [askF_eight_fin0 hf hs h hx] at e
              exact .fin0 hf hs h hX (asks_of n e)
            | some (.part q), hx, hX =>
              by_cases hq : fits q
              · rw [askF_eight_part0 hf hs h hx hq] at e
                exact .part0 hf hs h hX hq (asks_of n e)
              · exfalso
                simp only [askF, if_pos hf, hs, if_pos h, hx, if_neg hq] at e
                cases e
        · cases hx : askF n y l with
          | none =>
            exfalso
            simp only [askF, if_pos hf, hs, if_neg h, hx] at e
            cases e
          | some r =>
            obtain ⟨a, y', l1⟩ := r
            have hX := asks_of n hx
            match a, hx, hX with
            | none, hx, hX =>
              rw [askF_eight_none1 hf hs h hx] at e
              cases e
              exact .none1 hf hs h hX
            | some .waits, hx, hX =>
              rw [askF_eight_waits1 hf hs h hx] at e
              cases e
              exact .wait1 hf hs h hX
            | some .fin, hx, hX =>
              rw [askF_eight_fin1 hf hs h hx] at e
              exact .fin1 hf hs h hX (asks_of n e)
            | some (.part q), hx, hX =>
              by_cases hq : fits q
              · rw [askF_eight_part1 hf hs h hx hq] at e
                exact .part1 hf hs h hX hq (asks_of n e)
              · exfalso
                simp only [askF, if_pos hf, hs, if_neg h, hx, if_neg hq] at e
                cases e
    · exfalso
      simp only [askF, if_neg hf] at e
      cases e
  | n + 1, .eightR r, l, o, B', l', e => by
    cases hx : askF n r l with
    | none =>
      exfalso
      simp only [askF, hx] at e
      cases e
    | some z =>
      obtain ⟨a, x', l1⟩ := z
      rw [askF_rest hx] at e
      cases e
      exact .rest (asks_of n hx)
/-- more fuel does no harm -/
theorem askF_up {B : Box} {l : Int} {o : Option Ans} {B' : Box} {l' : Int} (h : Asks B l o B' l') : ∃ n0, ∀ n, n0 ≤ n → askF n B l = some (o, B', l') := by
  have suc : ∀ {n0 n : Nat}, n0 + 1 ≤ n → ∃ m, n = m + 1 ∧ n0 ≤ m := fun {n0 n} h => ⟨n - 1, by omega, by omega⟩
  induction h with
  | leaf => exact ⟨1, fun n hn => by obtain ⟨m, rfl, _⟩ := suc hn; rfl⟩
  | fb e => exact ⟨1, fun n hn => by obtain ⟨m, rfl, _⟩ := suc hn; simp only [askF, e, Option.map_some]⟩
  | fourR e => exact ⟨1, fun n hn => by obtain ⟨m, rfl, _⟩ := suc hn; simp only [askF, e, Option.map_some]⟩
  | tell4 hf hs => exact ⟨1, fun n hn => by obtain ⟨m, rfl, _⟩ := suc hn; exact askF_four_tell hf hs⟩
  | none4 hf hs _ ih => obtain ⟨n0, ih⟩ := ih; exact ⟨n0 + 1, fun n hn => by obtain ⟨m, rfl, hm⟩ := suc hn; exact askF_four_none hf hs (ih m hm)⟩
  | wait4 hf hs _ ih => obtain ⟨n0, ih⟩ := ih; exact ⟨n0 + 1, fun n hn => by obtain ⟨m, rfl, hm⟩ := suc hn; exact askF_four_waits hf hs (ih m hm)⟩
  | fin4 hf hs _ _ ih ih2 => obtain ⟨n0, ih⟩ := ih; obtain ⟨n1, ih2⟩ := ih2; exact ⟨n0 + n1 + 1, fun n hn => by obtain ⟨m, rfl, hm⟩ := suc hn; rw [askF_four_fin hf hs (ih m (by omega))]; exact ih2 m (by omega)⟩
  | part4 hf hs _ hq _ ih ih2 => obtain ⟨n0, ih⟩ := ih; obtain ⟨n1, ih2⟩ := ih2; exact ⟨n0 + n1 + 1, fun n hn => by obtain ⟨m, rfl, hm⟩ := suc hn; rw [askF_four_part hf hs (ih m (by omega)) hq]; exact ih2 m (by omega)⟩
  | tell8 hf hs => exact ⟨1, fun n hn => by obtain ⟨m, rfl, _⟩ := suc hn; exact askF_eight_tell hf hs⟩
  | none0 hf hs h _ ih => obtain ⟨n0, ih⟩ := ih; exact ⟨n0 + 1, fun n hn => by obtain ⟨m, rfl, hm⟩ := suc hn; exact askF_eight_none0 hf hs h (ih m hm)⟩
  | wait0 hf hs h _ ih => obtain ⟨n0, ih⟩ := ih; exact ⟨n0 + 1, fun n hn => by obtain ⟨m, rfl, hm⟩ := suc hn; exact askF_eight_waits0 hf hs h (ih m hm)⟩
  | fin0 hf hs h _ _ ih ih2 => obtain ⟨n0, ih⟩ := ih; obtain ⟨n1, ih2⟩ := ih2; exact ⟨n0 + n1 + 1, fun n hn => by obtain ⟨m, rfl, hm⟩ := suc hn; rw [askF_eight_fin0 hf hs h (ih m (by omega))]; exact ih2 m (by omega)⟩
  | part0 hf hs h _ hq _ ih ih2 => obtain ⟨n0, ih⟩ := ih; obtain ⟨n1, ih2⟩ := ih2; exact ⟨n0 + n1 + 1, fun n hn => by obtain ⟨m, rfl, hm⟩ := suc hn; rw [askF_eight_part0 hf hs h (ih m (by omega)) hq]; exact ih2 m (by omega)⟩
  | none1 hf hs h _ ih => obtain ⟨n0, ih⟩ := ih; exact ⟨n0 + 1, fun n hn => by obtain ⟨m, rfl, hm⟩ := suc hn; exact askF_eight_none1 hf hs h (ih m hm)⟩
  | wait1 hf hs h _ ih => obtain ⟨n0, ih⟩ := ih; exact ⟨n0 + 1, fun n hn => by obtain ⟨m, rfl, hm⟩ := suc hn; exact askF_eight_waits1 hf hs h (ih m hm)⟩
  | fin1 hf hs h _ _ ih ih2 => obtain ⟨n0, ih⟩ := ih; obtain ⟨n1, ih2⟩ := ih2; exact ⟨n0 + n1 + 1, fun n hn => by obtain ⟨m, rfl, hm⟩ := suc hn; rw [askF_eight_fin1 hf hs h (ih m (by omega))]; exact ih2 m (by omega)⟩
  | part1 hf hs h _ hq _ ih ih2 => obtain ⟨n0, ih⟩ := ih; obtain ⟨n1, ih2⟩ := ih2; exact ⟨n0 + n1 + 1, fun n hn => by obtain ⟨m, rfl, hm⟩ := suc hn; rw [askF_eight_part1 hf hs h (ih m (by omega)) hq]; exact ih2 m (by omega)⟩
  | rest _ ih => obtain ⟨n0, ih⟩ := ih; exact ⟨n0 + 1, fun n hn => by obtain ⟨m, rfl, hm⟩ := suc hn; exact askF_rest (ih m hm)⟩
theorem Asks.one {B : Box} {l : Int} {o o2 : Option Ans} {B' B2 : Box} {l' l2 : Int} (h : Asks B l o B' l') (h2 : Asks B l o2 B2 l2) : o = o2 ∧ B' = B2 ∧ l' = l2 := by
  obtain ⟨n, e⟩ := askF_up h
  obtain ⟨m, e2⟩ := askF_up h2
  have z := (e (n + m) (by omega)).symm.trans (e2 (n + m) (by omega))
  cases z
  exact ⟨rfl, rfl, rfl⟩
theorem Chain.leaf_cases (c : Chain) (l : Int) : (c.ended = true ∧ c.ans l = .fin ∧ c.then_ l = c ∧ c.took l = 0) ∨ (c.ended = false ∧ l < 1 ∧ c.ans l = .waits ∧ c.then_ l = c ∧ c.took l = 0) ∨ (c.ended = false ∧ ¬ l < 1 ∧ c.ans l = .part c.part ∧ c.then_ l = c.next ∧ c.took l = 1) := by
  unfold Chain.ans Chain.then_ Chain.took
  cases c.ended with
  | true => exact .inl ⟨rfl, rfl, rfl, rfl⟩
  | false =>
    by_cases h : l < 1
    · right; left
      simp [h]
    · right; right
      simp [h]
/-- no more is taken than may be; it waits only where nothing is left -/
theorem Asks.left {B : Box} {l : Int} {o : Option Ans} {B' : Box} {l' : Int} (h : Asks B l o B' l') : 0 ≤ l → 0 ≤ l' ∧ l' ≤ l ∧ (o = some .waits → l' = 0) := by
  have fbw : ∀ {t b : Int} {told : Bool} {r : Option Ans × Int × Int × Bool}, fbAsk t b told = some r → r.1 ≠ some .waits := fun {t b told r} e z => by
    unfold fbAsk at e
    split at e
    · split at e
      · split at e
        · cases e; cases z
        · cases e; cases z
      · cases e; cases z
    · cases e
  induction h with
  | @leaf c l =>
    intro hl
    rcases c.leaf_cases l with ⟨_, e, _, e2⟩ | ⟨_, h, e, _, e2⟩ | ⟨_, h, e, _, e2⟩
    · rw [e, e2]; exact ⟨by omega, by omega, fun z => (by cases z)⟩
    · rw [e, e2]; exact ⟨by omega, by omega, fun _ => by omega⟩
    · rw [e, e2]; exact ⟨by omega, by omega, fun z => (by cases z)⟩
  | fb e => exact fun hl => ⟨hl, Int.le_refl _, fun z => absurd z (fbw e)⟩
  | fourR e => exact fun hl => ⟨hl, Int.le_refl _, fun z => absurd z (fbw e)⟩
  | tell4 => exact fun hl => ⟨hl, Int.le_refl _, fun z => (by cases z)⟩
  | none4 _ _ _ ih => exact fun hl => ⟨(ih hl).1, (ih hl).2.1, fun z => (by cases z)⟩
  | wait4 _ _ _ ih => exact ih
  | fin4 _ _ _ _ ih ih2 => exact fun hl => ⟨(ih2 (ih hl).1).1, Int.le_trans (ih2 (ih hl).1).2.1 (ih hl).2.1, (ih2 (ih hl).1).2.2⟩
  | part4 _ _ _ _ _ ih ih2 => exact fun hl => ⟨(ih2 (ih hl).1).1, Int.le_trans (ih2 (ih hl).1).2.1 (ih hl).2.1, (ih2 (ih hl).1).2.2⟩
  | tell8 => exact fun hl => ⟨hl, Int.le_refl _, fun z => (by cases z)⟩
  | none0 _ _ _ _ ih => exact fun hl => ⟨(ih hl).1, (ih hl).2.1, fun z => (by cases z)⟩
  | wait0 _ _ _ _ ih => exact ih
  | fin0 _ _ _ _ _ ih ih2 => exact fun hl => ⟨(ih2 (ih hl).1).1, Int.le_trans (ih2 (ih hl).1).2.1 (ih hl).2.1, (ih2 (ih hl).1).2.2⟩
  | part0 _ _ _ _ _ _ ih ih2 => exact fun hl => ⟨(ih2 (ih hl).1).1, Int.le_trans (ih2 (ih hl).1).2.1 (ih hl).2.1, (ih2 (ih hl).1).2.2⟩
  | none1 _ _ _ _ ih => exact fun hl => ⟨(ih hl).1, (ih hl).2.1, fun z => (by cases z)⟩
  | wait1 _ _ _ _ ih => exact ih
  | fin1 _ _ _ _ _ ih ih2 => exact fun hl => ⟨(ih2 (ih hl).1).1, Int.le_trans (ih2 (ih hl).1).2.1 (ih hl).2.1, (ih2 (ih hl).1).2.2⟩
  | part1 _ _ _ _ _ _ ih ih2 => exact fun hl => ⟨(ih2 (ih hl).1).1, Int.le_trans (ih2 (ih hl).1).2.1 (ih hl).2.1, (ih2 (ih hl).1).2.2⟩
  | rest _ ih => exact ih
/-- where it does not wait, more parts of leaves change nothing -/
theorem Asks.more {B : Box} {l : Int} {o : Option Ans} {B' : Box} {l' : Int} (h : Asks B l o B' l') (d : Int) (hd : 0 ≤ d) : o ≠ some .waits → Asks B (l + d) o B' (l' + d) := by
  induction h with
  | @leaf c l =>
    intro hw
    rcases c.leaf_cases l with ⟨h0, e, e1, e2⟩ | ⟨_, h, e, _, e2⟩ | ⟨h0, h, e, e1, e2⟩
    · have z := @Asks.leaf c (l + d)
      rcases c.leaf_cases (l + d) with ⟨_, f, f1, f2⟩ | ⟨g, _⟩ | ⟨g, _⟩
      · rw [f, f1, f2] at z
        rw [e, e1, e2, Int.sub_zero]
        rw [Int.sub_zero] at z
        exact z
      · rw [h0] at g; cases g
      · rw [h0] at g; cases g
    · exact absurd (congrArg some e) hw
    · have z := @Asks.leaf c (l + d)
      rcases c.leaf_cases (l + d) with ⟨g, _⟩ | ⟨_, g, _⟩ | ⟨_, _, f, f1, f2⟩
      · rw [h0] at g; cases g
      · omega
      · rw [f, f1, f2] at z
        rw [e, e1, e2, show l - 1 + d = l + d - 1 by omega]
        exact z
  | fb e => exact fun _ => .fb e
  | fourR e => exact fun _ => .fourR e
  | tell4 hf hs => exact fun _ => .tell4 hf hs
  | none4 hf hs _ ih => exact fun _ => .none4 hf hs (ih (by intro z; cases z))
  | wait4 => exact fun hw => absurd rfl hw
  | fin4 hf hs _ _ ih ih2 => exact fun hw => .fin4 hf hs (ih (by intro z; cases z)) (ih2 hw)
  | part4 hf hs _ hq _ ih ih2 => exact fun hw => .part4 hf hs (ih (by intro z; cases z)) hq (ih2 hw)
  | tell8 hf hs => exact fun _ => .tell8 hf hs
  | none0 hf hs h _ ih => exact fun _ => .none0 hf hs h (ih (by intro z; cases z))
  | wait0 => exact fun hw => absurd rfl hw
  | fin0 hf hs h _ _ ih ih2 => exact fun hw => .fin0 hf hs h (ih (by intro z; cases z)) (ih2 hw)
  | part0 hf hs h _ hq _ ih ih2 => exact fun hw => .part0 hf hs h (ih (by intro z; cases z)) hq (ih2 hw)
  | none1 hf hs h _ ih => exact fun _ => .none1 hf hs h (ih (by intro z; cases z))
  | wait1 => exact fun hw => absurd rfl hw
  | fin1 hf hs h _ _ ih ih2 => exact fun hw => .fin1 hf hs h (ih (by intro z; cases z)) (ih2 hw)
  | part1 hf hs h _ hq _ ih ih2 => exact fun hw => .part1 hf hs h (ih (by intro z; cases z)) hq (ih2 hw)
  | rest _ ih => exact fun hw => .rest (ih hw)
/-- waiting, and going on, is asking with the sum -/
theorem Asks.on {B : Box} {l : Int} {o : Option Ans} {B1 : Box} {l1 : Int} (h : Asks B l o B1 l1) (d : Int) (hd : 0 ≤ d) : 0 ≤ l → o = some .waits → ∀ {o2 B2 l2}, Asks B1 d o2 B2 l2 → Asks B (l + d) o2 B2 l2 := by
  induction h with
  | @leaf c l =>
    intro hl hw o2 B2 l2 h2
    rcases c.leaf_cases l with ⟨_, e, _⟩ | ⟨_, h, e, e1, e2⟩ | ⟨_, _, e, _⟩
    · rw [e] at hw; cases hw
    · rw [e1] at h2
      rw [show l + d = d by omega]
      exact h2
    · rw [e] at hw; cases hw
  | @fb t b told l r e =>
    intro hl hw
    exfalso
    have := (Asks.fb (l := l) e).left hl
    unfold fbAsk at e
    split at e
    · split at e
      · split at e
        · cases e; cases hw
        · cases e; cases hw
      · cases e; cases hw
    · cases e
  | @fourR t b told l r e =>
    intro hl hw
    exfalso
    unfold fbAsk at e
    split at e
    · split at e
      · split at e
        · cases e; cases hw
        · cases e; cases hw
      · cases e; cases hw
    · cases e
  | tell4 => intro hl hw; cases hw
  | none4 => intro hl hw; cases hw
  | wait4 hf hs hx ih =>
    intro hl hw o2 B2 l2 h2
    have ih := @ih hl rfl
    cases h2 with
    | tell4 _ hs' => rw [hs] at hs'; cases hs'
    | none4 _ _ hx2 => exact .none4 hf hs (ih hx2)
    | wait4 _ _ hx2 => exact .wait4 hf hs (ih hx2)
    | fin4 _ _ hx2 hr => exact .fin4 hf hs (ih hx2) hr
    | part4 _ _ hx2 hq hr => exact .part4 hf hs (ih hx2) hq hr
  | fin4 hf hs hx _ ih ih2 =>
    intro hl hw o2 B2 l2 h2
    have b := hx.left hl
    exact .fin4 hf hs (hx.more d hd (by intro z; cases z)) (ih2 b.1 hw h2)
  | part4 hf hs hx hq _ ih ih2 =>
    intro hl hw o2 B2 l2 h2
    have b := hx.left hl
    exact .part4 hf hs (hx.more d hd (by intro z; cases z)) hq (ih2 b.1 hw h2)
  | tell8 => intro hl hw; cases hw
  | none0 => intro hl hw; cases hw
  | wait0 hf hs h hx ih =>
    intro hl hw o2 B2 l2 h2
    have ih := @ih hl rfl
    cases h2 with
    | tell8 _ hs' => rw [hs] at hs'; cases hs'
    | none0 _ _ _ hx2 => exact .none0 hf hs h (ih hx2)
    | wait0 _ _ _ hx2 => exact .wait0 hf hs h (ih hx2)
    | fin0 _ _ _ hx2 hr => exact .fin0 hf hs h (ih hx2) hr
    | part0 _ _ _ hx2 hq hr => exact .part0 hf hs h (ih hx2) hq hr
    | none1 _ _ h' _ => exact absurd h h'
    | wait1 _ _ h' _ => exact absurd h h'
    | fin1 _ _ h' _ _ => exact absurd h h'
    | part1 _ _ h' _ _ _ => exact absurd h h'
  | fin0 hf hs h hx _ ih ih2 =>
    intro hl hw o2 B2 l2 h2
    have b := hx.left hl
    exact .fin0 hf hs h (hx.more d hd (by intro z; cases z)) (ih2 b.1 hw h2)
  | part0 hf hs h hx hq _ ih ih2 =>
    intro hl hw o2 B2 l2 h2
    have b := hx.left hl
    exact .part0 hf hs h (hx.more d hd (by intro z; cases z)) hq (ih2 b.1 hw h2)
  | none1 => intro hl hw; cases hw
  | wait1 hf hs h hx ih =>
    intro hl hw o2 B2 l2 h2
    have ih := @ih hl rfl
    cases h2 with
    | tell8 _ hs' => rw [hs] at hs'; cases hs'
    | none1 _ _ _ hx2 => exact .none1 hf hs h (ih hx2)
    | wait1 _ _ _ hx2 => exact .wait1 hf hs h (ih hx2)
    | fin1 _ _ _ hx2 hr => exact .fin1 hf hs h (ih hx2) hr
    | part1 _ _ _ hx2 hq hr => exact .part1 hf hs h (ih hx2) hq hr
    | none0 _ _ h' _ => exact absurd h' h
    | wait0 _ _ h' _ => exact absurd h' h
    | fin0 _ _ h' _ _ => exact absurd h' h
    | part0 _ _ h' _ _ _ => exact absurd h' h
  | fin1 hf hs h hx _ ih ih2 =>
    intro hl hw o2 B2 l2 h2
    have b := hx.left hl
    exact .fin1 hf hs h (hx.more d hd (by intro z; cases z)) (ih2 b.1 hw h2)
  | part1 hf hs h hx hq _ ih ih2 =>
    intro hl hw o2 B2 l2 h2
    have b := hx.left hl
    exact .part1 hf hs h (hx.more d hd (by intro z; cases z)) hq (ih2 b.1 hw h2)
  | rest _ ih =>
    intro hl hw o2 B2 l2 h2
    cases h2 with
    | rest h2 => exact .rest (ih hl hw h2)
/-! ### nested boxes: how great their numbers become -/
/-- the two corners' greatness p, r beside a child's value (α, γ) -/
def J2 (p r α γ S : Int) : Prop := p * (α - γ) + r * γ ≤ S ∧ p ≤ 2 * S ∧ r ≤ 3 * S
theorem J2.take {p r α γ S q p' r' : Int} (h : J2 p r α γ S) (p0 : 0 ≤ p) (r0 : 0 ≤ r) (p0' : 0 ≤ p') (r0' : 0 ≤ r') (g1 : 1 ≤ γ) (ga : γ ≤ α) (q1 : 1 ≤ q) (lo : q * γ ≤ α) (hi : α ≤ (q + 1) * γ)
    (e1 : p' ≤ (q - 1) * p + r) (e2 : r' ≤ q * p + r) (e3 : p' ≤ r' + p) (e4 : r' ≤ p' + p) : J2 p' r' γ (α - q * γ) S := by
  obtain ⟨h1, h2, h3⟩ := h
  have w1 : 0 ≤ γ - (α - q * γ) := by
    have : (q + 1) * γ = q * γ + γ := by grind
    omega
  have w2 : 0 ≤ α - q * γ := by omega
  have m1 := Int.mul_le_mul_of_nonneg_right e1 w1
  have m2 := Int.mul_le_mul_of_nonneg_right e2 w2
  have id : ((q - 1) * p + r) * (γ - (α - q * γ)) + (q * p + r) * (α - q * γ) = p * (α - γ) + r * γ := by grind
  have a1 : p' * (γ - (α - q * γ)) + r' * (α - q * γ) ≤ S := by omega
  have x1 := Int.mul_nonneg p0' w1
  have x2 := Int.mul_nonneg r0' w2
  have S0 : 0 ≤ S := by omega
  -- where the old one is not at 1
  have oldP : γ < α → p ≤ S := fun z => by
    have y1 := Int.mul_le_mul_of_nonneg_left (show 1 ≤ α - γ by omega) p0
    have y2 := Int.mul_nonneg r0 (show 0 ≤ γ by omega)
    omega
  refine ⟨a1, ?_, ?_⟩
  · by_cases z : γ - (α - q * γ) = 0
    · -- the child is at 1: the old one was at q + 1
      have : r' ≤ S := by
        have y := Int.mul_le_mul_of_nonneg_left (show 1 ≤ α - q * γ by omega) r0'
        omega
      have : γ < α := by
        have y := Int.mul_le_mul_of_nonneg_right q1 (show 0 ≤ γ by omega)
        omega
      have := oldP this
      omega
    · have y := Int.mul_le_mul_of_nonneg_left (show 1 ≤ γ - (α - q * γ) by omega) p0'
      omega
  · by_cases z : α - q * γ = 0
    · have : p' ≤ S := by
        have y := Int.mul_le_mul_of_nonneg_left (show 1 ≤ γ - (α - q * γ) by omega) p0'
        omega
      omega
    · have y := Int.mul_le_mul_of_nonneg_left (show 1 ≤ α - q * γ by omega) r0'
      omega
theorem J2.less {p r p' r' α γ S : Int} (h : J2 p r α γ S) (g0 : 0 ≤ γ) (ga : γ ≤ α) (hp : p' ≤ p) (hr : r' ≤ r) : J2 p' r' α γ S := by
  obtain ⟨h1, h2, h3⟩ := h
  have m1 := Int.mul_le_mul_of_nonneg_right hp (show 0 ≤ α - γ by omega)
  have m2 := Int.mul_le_mul_of_nonneg_right hr g0
  exact ⟨by omega, by omega, by omega⟩
/-- the child's value, told by lesser numbers -/
theorem J2.scale {p r α γ α' γ' k S : Int} (h : J2 p r α γ S) (p0 : 0 ≤ p) (r0 : 0 ≤ r) (k1 : 1 ≤ k) (e1 : α = k * α') (e2 : γ = k * γ') (g0 : 0 ≤ γ') (ga : γ' ≤ α') : J2 p r α' γ' S := by
  obtain ⟨h1, h2, h3⟩ := h
  refine ⟨?_, h2, h3⟩
  have x1 := Int.mul_nonneg p0 (show 0 ≤ α' - γ' by omega)
  have x2 := Int.mul_nonneg r0 g0
  have y := Int.mul_le_mul_of_nonneg_right k1 (show 0 ≤ p * (α' - γ') + r * γ' by omega)
  have e : p * (α - γ) + r * γ = k * (p * (α' - γ') + r * γ') := by rw [e1, e2]; grind
  omega
/-- the first part taken -/
theorem J2.start {A B p r m α γ M q : Int} (hm : 0 ≤ m) (A0 : 0 ≤ A) (ha : A ≤ m) (hb : B ≤ m) (hp : p ≤ A * (q.natAbs : Int) + B) (hr : r ≤ A * (q.natAbs : Int) + A + B) (g1 : 1 ≤ γ) (lo : q * γ ≤ α) (hi : α ≤ (q + 1) * γ) (hM : γ ≤ M) (hM1 : α ≤ M) (hM2 : -M ≤ α) :
    J2 p r γ (α - q * γ) (4 * (m * M)) := by
  have e0 : (q + 1) * γ = q * γ + γ := by grind
  have qM : (q.natAbs : Int) * γ ≤ M + γ := by
    rcases Int.lt_or_le q 0 with z | z
    · have : ((q.natAbs : Nat) : Int) = -q := by omega
      rw [this]
      have : -q * γ = -(q * γ) := by grind
      omega
    · have : ((q.natAbs : Nat) : Int) = q := by omega
      rw [this]
      omega
  have qa : (q.natAbs : Int) ≤ (q.natAbs : Int) * γ := by
    have := Int.mul_le_mul_of_nonneg_left g1 (show 0 ≤ (q.natAbs : Int) by omega)
    omega
  have aq : A * (q.natAbs : Int) ≤ m * (q.natAbs : Int) := Int.mul_le_mul_of_nonneg_right ha (by omega)
  have S1 : m * (q.natAbs : Int) ≤ m * (2 * M) := Int.mul_le_mul_of_nonneg_left (by omega) hm
  have S2 : m * 1 ≤ m * M := Int.mul_le_mul_of_nonneg_left (by omega) hm
  have e2 : m * (2 * M) = 2 * (m * M) := by grind
  refine ⟨?_, by omega, by omega⟩
  have w1 : 0 ≤ γ - (α - q * γ) := by omega
  have w2 : 0 ≤ α - q * γ := by omega
  have m1 := Int.mul_le_mul_of_nonneg_right (show p ≤ m * (q.natAbs : Int) + 2 * m by omega) w1
  have m2 := Int.mul_le_mul_of_nonneg_right (show r ≤ m * (q.natAbs : Int) + 2 * m by omega) w2
  have e1 : (m * (q.natAbs : Int) + 2 * m) * (γ - (α - q * γ)) + (m * (q.natAbs : Int) + 2 * m) * (α - q * γ) = m * ((q.natAbs : Int) * γ) + m * (2 * γ) := by grind
  have m3 : m * ((q.natAbs : Int) * γ) ≤ m * (2 * M) := Int.mul_le_mul_of_nonneg_left (by omega) hm
  have m4 : m * (2 * γ) ≤ m * (2 * M) := Int.mul_le_mul_of_nonneg_left (by omega) hm
  omega
/-- an eight's four corners beside the values of both children -/
structure J8 (p00 p01 p10 p11 ax gx ay gy S : Int) : Prop where
  full : (p00 * (ay - gy) + p01 * gy) * (ax - gx) + (p10 * (ay - gy) + p11 * gy) * gx ≤ S
  y0 : p00 * (ay - gy) + p01 * gy ≤ 2 * S
  y1 : p10 * (ay - gy) + p11 * gy ≤ 3 * S
  x0 : p00 * (ax - gx) + p10 * gx ≤ 2 * S
  x1 : p01 * (ax - gx) + p11 * gx ≤ 3 * S
  c00 : p00 ≤ 4 * S
  c01 : p01 ≤ 6 * S
  c10 : p10 ≤ 6 * S
  c11 : p11 ≤ 9 * S
theorem J8.swap {p00 p01 p10 p11 ax gx ay gy S : Int} (h : J8 p00 p01 p10 p11 ax gx ay gy S) : J8 p00 p10 p01 p11 ay gy ax gx S := by
  refine ⟨?_, h.x0, h.x1, h.y0, h.y1, h.c00, h.c10, h.c01, h.c11⟩
  have e : (p00 * (ax - gx) + p10 * gx) * (ay - gy) + (p01 * (ax - gx) + p11 * gx) * gy = (p00 * (ay - gy) + p01 * gy) * (ax - gx) + (p10 * (ay - gy) + p11 * gy) * gx := by grind
  have := h.full
  omega
theorem J8.take {p00 p01 p10 p11 ax gx ay gy S q p00' p01' p10' p11' : Int} (h : J8 p00 p01 p10 p11 ax gx ay gy S) (n00 : 0 ≤ p00) (n01 : 0 ≤ p01) (n10 : 0 ≤ p10) (n11 : 0 ≤ p11) (m00 : 0 ≤ p00') (m01 : 0 ≤ p01') (m10 : 0 ≤ p10') (m11 : 0 ≤ p11')
    (wy0 : 0 ≤ ay - gy) (wy1 : 0 ≤ gy) (g1 : 1 ≤ gx) (ga : gx ≤ ax) (q1 : 1 ≤ q) (lo : q * gx ≤ ax) (hi : ax ≤ (q + 1) * gx)
    (a1 : p00' ≤ (q - 1) * p00 + p10) (a2 : p10' ≤ q * p00 + p10) (a3 : p00' ≤ p10' + p00) (a4 : p10' ≤ p00' + p00)
    (b1 : p01' ≤ (q - 1) * p01 + p11) (b2 : p11' ≤ q * p01 + p11) (b3 : p01' ≤ p11' + p01) (b4 : p11' ≤ p01' + p01) : J8 p00' p01' p10' p11' gx (ax - q * gx) ay gy S := by
  have nn : ∀ {x y : Int}, 0 ≤ x → 0 ≤ y → 0 ≤ x * (ay - gy) + y * gy := fun hx hy => by
    have := Int.mul_nonneg hx wy0
    have := Int.mul_nonneg hy wy1
    omega
  have mm : ∀ {x y z w : Int}, x ≤ z → y ≤ w → x * (ay - gy) + y * gy ≤ z * (ay - gy) + w * gy := fun h1 h2 => by
    have := Int.mul_le_mul_of_nonneg_right h1 wy0
    have := Int.mul_le_mul_of_nonneg_right h2 wy1
    omega
  have full : J2 (p00 * (ay - gy) + p01 * gy) (p10 * (ay - gy) + p11 * gy) ax gx S := ⟨h.full, h.y0, h.y1⟩
  have f := full.take (nn n00 n01) (nn n10 n11) (nn m00 m01) (nn m10 m11) g1 ga q1 lo hi
    (by have := mm a1 b1; have e : ((q - 1) * p00 + p10) * (ay - gy) + ((q - 1) * p01 + p11) * gy = (q - 1) * (p00 * (ay - gy) + p01 * gy) + (p10 * (ay - gy) + p11 * gy) := by grind
        omega)
    (by have := mm a2 b2; have e : (q * p00 + p10) * (ay - gy) + (q * p01 + p11) * gy = q * (p00 * (ay - gy) + p01 * gy) + (p10 * (ay - gy) + p11 * gy) := by grind
        omega)
    (by have := mm a3 b3; have e : (p10' + p00) * (ay - gy) + (p11' + p01) * gy = (p10' * (ay - gy) + p11' * gy) + (p00 * (ay - gy) + p01 * gy) := by grind
        omega)
    (by have := mm a4 b4; have e : (p00' + p00) * (ay - gy) + (p01' + p01) * gy = (p00' * (ay - gy) + p01' * gy) + (p00 * (ay - gy) + p01 * gy) := by grind
        omega)
  have t0 : J2 p00 p10 ax gx (2 * S) := ⟨h.x0, by have := h.c00; omega, by have := h.c10; omega⟩
  have t1 : J2 p01 p11 ax gx (3 * S) := ⟨h.x1, by have := h.c01; omega, by have := h.c11; omega⟩
  have f0 := t0.take n00 n10 m00 m10 g1 ga q1 lo hi a1 a2 a3 a4
  have f1 := t1.take n01 n11 m01 m11 g1 ga q1 lo hi b1 b2 b3 b4
  exact ⟨f.1, f.2.1, f.2.2, f0.1, f1.1, by have := f0.2.1; omega, by have := f1.2.1; omega, by have := f0.2.2; omega, by have := f1.2.2; omega⟩
theorem J8.less {p00 p01 p10 p11 ax gx ay gy S p00' p01' p10' p11' : Int} (h : J8 p00 p01 p10 p11 ax gx ay gy S) (wx0 : 0 ≤ ax - gx) (wx1 : 0 ≤ gx) (wy0 : 0 ≤ ay - gy) (wy1 : 0 ≤ gy) (a1 : p00' ≤ p00) (a2 : p01' ≤ p01) (a3 : p10' ≤ p10) (a4 : p11' ≤ p11) : J8 p00' p01' p10' p11' ax gx ay gy S := by
  have my : ∀ {x y z w : Int}, x ≤ z → y ≤ w → x * (ay - gy) + y * gy ≤ z * (ay - gy) + w * gy := fun h1 h2 => by
    have := Int.mul_le_mul_of_nonneg_right h1 wy0
    have := Int.mul_le_mul_of_nonneg_right h2 wy1
    omega
  have mx : ∀ {x y z w : Int}, x ≤ z → y ≤ w → x * (ax - gx) + y * gx ≤ z * (ax - gx) + w * gx := fun h1 h2 => by
    have := Int.mul_le_mul_of_nonneg_right h1 wx0
    have := Int.mul_le_mul_of_nonneg_right h2 wx1
    omega
  exact ⟨Int.le_trans (mx (my a1 a2) (my a3 a4)) h.full, Int.le_trans (my a1 a2) h.y0, Int.le_trans (my a3 a4) h.y1, Int.le_trans (mx a1 a3) h.x0, Int.le_trans (mx a2 a4) h.x1, Int.le_trans a1 h.c00, Int.le_trans a2 h.c01, Int.le_trans a3 h.c10, Int.le_trans a4 h.c11⟩
/-! ### nested boxes: what holds of them all along (leaves, rests and fours) -/
@[irreducible] def cap : Int := ((2 ^ (capE - 10) : Nat) : Int)
theorem cap_eq : cap = ((2 ^ (capE - 10) : Nat) : Int) := by unfold cap; rfl
theorem cap_fits {z : Int} (h : (z.natAbs : Int) ≤ cap) : fits z := by
  rw [cap_eq] at h
  exact fits_of (Nat.lt_of_le_of_lt (Int.ofNat_le.mp h) (Nat.pow_lt_pow_right (by decide) (show capE - 10 < capE by decide)))
/-- so many parts of a chain, or all of them -/
def tp : Nat → Chain → List Int
  | 0, _ => []
  | n + 1, c => if c.ended = true then [] else c.part :: tp n c.next
def NBd (M : Int) (v : Int × Int) : Prop := (v.1.natAbs : Int) ≤ M ∧ (v.2.natAbs : Int) ≤ M
def NTold (v : Int × Int) : Prop := 0 ≤ v.2 ∧ v.2 ≤ v.1 ∧ 1 ≤ v.1
def Sc (v v' : Int × Int) : Prop := ∃ k : Int, 1 ≤ k ∧ v.1 = k * v'.1 ∧ v.2 = k * v'.2
theorem Sc.refl (v : Int × Int) : Sc v v := ⟨1, Int.le_refl _, (Int.one_mul _).symm, (Int.one_mul _).symm⟩
theorem Sc.trans {u v w : Int × Int} (h : Sc u v) (h' : Sc v w) : Sc u w := by
  obtain ⟨k, k1, e1, e2⟩ := h
  obtain ⟨j, j1, f1, f2⟩ := h'
  refine ⟨k * j, ?_, by rw [e1, f1, Int.mul_assoc], by rw [e2, f2, Int.mul_assoc]⟩
  have := Int.mul_le_mul k1 j1 (by decide) (by omega)
  omega
def restI (s told : Bool) (t b : Int) (v : Int × Int) (M : Int) : Prop := told = s ∧ (t.natAbs : Int) ≤ cap ∧ (b.natAbs : Int) ≤ cap ∧ (s = false → NBd M (t, b)) ∧ (s = true → NTold v ∧ NBd M v ∧ ((b = 0 ∧ v.2 = 0) ∨ ∃ k : Int, k ≠ 0 ∧ t = k * v.1 ∧ b = k * v.2))
/-- what an asking leaves, given what holds -/
def OutI (I : Box → Bool → Int × Int → Int → Prop) (o : Option Ans) (B' : Box) (s : Bool) (v : Int × Int) (M : Int) : Prop :=
  (o = none → s = false ∧ ∃ v', I B' false v' M) ∧
  (o = some .waits → ∃ v', I B' s v' M ∧ (s = true → Sc v v')) ∧
  (o = some .fin → s = true ∧ v.2 = 0 ∧ ∃ v', I B' true v' M ∧ Sc v v') ∧
  (∀ q, o = some (.part q) → ∃ w v', NBd M w ∧ 0 < w.2 ∧ q * w.2 ≤ w.1 ∧ w.1 ≤ (q + 1) * w.2 ∧ I B' true v' M ∧ Sc (w.2, w.1 - q * w.2) v' ∧ (s = true → w = v ∧ 1 ≤ q))
theorem fdiv_k {k x y : Int} (hk : k ≠ 0) : (k * x).fdiv (k * y) = x.fdiv y := by
  rw [Int.mul_comm k x, Int.mul_comm k y]
  rcases Int.lt_or_gt_of_ne hk with h | h
  · have z := Int.mul_fdiv_mul_of_pos_left x y (b := -k) (by omega)
    rw [Int.mul_neg, Int.mul_neg, fdiv_negs] at z
    exact z
  · exact Int.mul_fdiv_mul_of_pos_left x y h
/-- the digit, and what is left -/
theorem digit {w : Int × Int} {q M : Int} (hw : 0 < w.2) (lo : q * w.2 ≤ w.1) (hi : w.1 ≤ (q + 1) * w.2) (hM : NBd M w) : NTold (w.2, w.1 - q * w.2) ∧ NBd M (w.2, w.1 - q * w.2) := by
  have e : (q + 1) * w.2 = q * w.2 + w.2 := by grind
  have m2 := hM.2
  refine ⟨⟨by show 0 ≤ w.1 - q * w.2; omega, by show w.1 - q * w.2 ≤ w.2; omega, by show 1 ≤ w.2; omega⟩, m2, ?_⟩
  show ((w.1 - q * w.2).natAbs : Int) ≤ M
  omega
theorem rest_out {s told : Bool} {t b : Int} {v : Int × Int} {M : Int} (h : restI s told t b v M) : ∃ r, fbAsk t b told = some r ∧ OutI (fun B' s v M => ∃ t b told, B' = .fb t b told ∧ restI s told t b v M) r.1 (.fb r.2.1 r.2.2.1 r.2.2.2) s v M := by
  obtain ⟨rfl, ct, cb, h0, h1⟩ := h
  unfold fbAsk
  rw [if_pos ⟨cap_fits ct, cap_fits cb⟩]
  by_cases hb : b = 0
  · subst hb
    rw [if_pos rfl]
    cases told with
    | true =>
      rw [if_pos rfl]
      refine ⟨_, rfl, fun z => (by cases z), fun z => (by cases z), fun _ => ⟨rfl, ?_, v, ⟨t, 0, true, rfl, rfl, ct, cb, h0, h1⟩, Sc.refl v⟩, fun q z => (by cases z)⟩
      obtain ⟨_, _, ⟨_, e⟩ | ⟨k, hk, _, e⟩⟩ := h1 rfl
      · exact e
      · exact (Int.mul_eq_zero.mp e.symm).resolve_left hk
    | false =>
      rw [if_neg (by decide)]
      exact ⟨_, rfl, fun _ => ⟨rfl, v, t, 0, false, rfl, rfl, ct, cb, h0, h1⟩, fun z => (by cases z), fun z => (by cases z), fun q z => (by cases z)⟩
  · rw [if_neg hb]
    refine ⟨_, rfl, fun z => (by cases z), fun z => (by cases z), fun z => (by cases z), fun q z => ?_⟩
    cases z
    -- the worth w, (t, b) = k w
    obtain ⟨w, k, hk, e1, e2, w2, bw, ws⟩ : ∃ (w : Int × Int) (k : Int), k ≠ 0 ∧ t = k * w.1 ∧ b = k * w.2 ∧ 0 < w.2 ∧ NBd M w ∧ (told = true → w = v) := by
      cases told with
      | true =>
        obtain ⟨ht, bv, ⟨z, _⟩ | ⟨k, hk, e1, e2⟩⟩ := h1 rfl
        · exact absurd z hb
        refine ⟨v, k, hk, e1, e2, ?_, bv, fun _ => rfl⟩
        have := ht.1
        rcases Int.lt_or_eq_of_le this with z | z
        · exact z
        · rw [← z, Int.mul_zero] at e2
          exact absurd e2 hb
      | false =>
        have b0 := h0 rfl
        have b1 : (t.natAbs : Int) ≤ M := b0.1
        have b2 : (b.natAbs : Int) ≤ M := b0.2
        rcases Int.lt_or_gt_of_ne hb with z | z
        · exact ⟨(-t, -b), -1, by decide, by show t = -1 * -t; omega, by show b = -1 * -b; omega, by show 0 < -b; omega, ⟨by show ((-t).natAbs : Int) ≤ M; omega, by show ((-b).natAbs : Int) ≤ M; omega⟩, fun y => (by cases y)⟩
        · exact ⟨(t, b), 1, by decide, (Int.one_mul _).symm, (Int.one_mul _).symm, z, b0, fun y => (by cases y)⟩
    have eq : t.fdiv b = w.1.fdiv w.2 := by rw [e1, e2, fdiv_k hk]
    obtain ⟨lo, hi⟩ := fdiv_bounds (a := w.1) w2
    rw [← eq] at lo hi
    have hi := Int.le_of_lt hi
    obtain ⟨d1, d2⟩ := digit w2 lo hi bw
    refine ⟨w, (w.2, w.1 - t.fdiv b * w.2), bw, w2, lo, hi, ⟨b, t - t.fdiv b * b, true, rfl, rfl, cb, ?_, fun y => (by cases y), fun _ => ⟨d1, d2, .inr ⟨k, hk, e2, ?_⟩⟩⟩, Sc.refl _, fun y => ⟨ws y, ?_⟩⟩
    · have : ((t - t.fdiv b * b).natAbs : Int) ≤ (b.natAbs : Int) := by
        rw [fmod_eq]
        have := fmod_abs (a := t) hb
        omega
      omega
    · show t - t.fdiv b * b = k * (w.1 - t.fdiv b * w.2)
      generalize t.fdiv b = q at *
      rw [e1, e2]
      grind
    · have nt := (h1 y).1
      rw [← ws y] at nt
      have n1 := nt.2.1
      rcases Int.lt_or_le 0 (t.fdiv b) with z | z
      · omega
      · exfalso
        have hi2 := (fdiv_bounds (a := w.1) w2).2
        rw [← eq] at hi2
        have := Int.mul_le_mul_of_nonneg_right (show t.fdiv b + 1 ≤ 1 by omega) (Int.le_of_lt w2)
        omega
theorem fold_le {r : List Int} (h : ∀ p ∈ r, 1 ≤ p) : NTold (fold r) := by
  obtain ⟨h1, h2, _⟩ := fold_pos r h
  refine ⟨h2, ?_, h1⟩
  cases r with
  | nil => show (0 : Int) ≤ 1; decide
  | cons p r =>
    obtain ⟨g1, g2, _⟩ := fold_pos r fun q hq => h q (List.mem_cons_of_mem _ hq)
    have hp := h p List.mem_cons_self
    show (fold r).1 ≤ p * (fold r).1 + (fold r).2
    have := Int.mul_le_mul_of_nonneg_right hp (show 0 ≤ (fold r).1 by omega)
    omega
def leafI (l : Int) (c : Chain) (s : Bool) (v : Int × Int) (M : Int) : Prop := ∃ T : Nat, l ≤ T ∧ NBd M (fold (tp T c)) ∧ (∀ p ∈ (tp T c).tail, 1 ≤ p) ∧ (s = true → v = fold (tp T c) ∧ ∀ p ∈ tp T c, 1 ≤ p) ∧ (s = false → c.ended = false)
/-- a four's numbers beside its child's value u -/
def fourI (a b c d : Int) (st s : Bool) (u v : Int × Int) (Mx m S M : Int) : Prop := 0 ≤ m ∧ 1 ≤ Mx ∧ Mx + 2 ≤ cap ∧ 4 * (m * Mx) ≤ S ∧ S ≤ M ∧ 8 * S ≤ cap ∧
  (st = false → s = false ∧ (a.natAbs : Int) ≤ m ∧ (b.natAbs : Int) ≤ m ∧ (c.natAbs : Int) ≤ m ∧ (d.natAbs : Int) ≤ m) ∧
  (st = true → J2 (a.natAbs : Int) ((a + b).natAbs : Int) u.1 u.2 S ∧ J2 (c.natAbs : Int) ((c + d).natAbs : Int) u.1 u.2 S) ∧
  (s = true → st = true ∧ NTold v ∧ ∃ e : Int, (e = 1 ∨ e = -1) ∧ v = (e * (a * u.1 + b * u.2), e * (c * u.1 + d * u.2)) ∧ (0 ≤ e * c ∧ e * c ≤ e * a) ∧ (0 ≤ e * (c + d) ∧ e * (c + d) ≤ e * (a + b)))
theorem J2.val {a b α γ S : Int} (h : J2 (a.natAbs : Int) ((a + b).natAbs : Int) α γ S) (g0 : 0 ≤ γ) (ga : γ ≤ α) : ((a * α + b * γ).natAbs : Int) ≤ S := by
  have e : a * α + b * γ = a * (α - γ) + (a + b) * γ := by grind
  have n1 : ((a * (α - γ)).natAbs : Int) = (a.natAbs : Int) * (α - γ) := by rw [Int.natAbs_mul, Int.natCast_mul, Int.natAbs_of_nonneg (show 0 ≤ α - γ by omega)]
  have n2 : (((a + b) * γ).natAbs : Int) = ((a + b).natAbs : Int) * γ := by rw [Int.natAbs_mul, Int.natCast_mul, Int.natAbs_of_nonneg g0]
  have := h.1
  rw [e]
  omega
theorem OutI.map {I I' : Box → Bool → Int × Int → Int → Prop} {o : Option Ans} {B' B2 : Box} {s : Bool} {v : Int × Int} {M : Int} (h : OutI I o B' s v M) (f : ∀ s v M, I B' s v M → I' B2 s v M) : OutI I' o B2 s v M := by
  obtain ⟨h1, h2, h3, h4⟩ := h
  refine ⟨fun z => ?_, fun z => ?_, fun z => ?_, fun q z => ?_⟩
  · obtain ⟨a, v', b⟩ := h1 z
    exact ⟨a, v', f _ _ _ b⟩
  · obtain ⟨v', b, c⟩ := h2 z
    exact ⟨v', f _ _ _ b, c⟩
  · obtain ⟨a, b, v', c, d⟩ := h3 z
    exact ⟨a, b, v', f _ _ _ c, d⟩
  · obtain ⟨w, v', a, b, c, d, e, g⟩ := h4 q z
    exact ⟨w, v', a, b, c, d, f _ _ _ e, g⟩
theorem OutI.scale {I : Box → Bool → Int × Int → Int → Prop} {o : Option Ans} {B' : Box} {s : Bool} {v v1 : Int × Int} {M : Int} (h : OutI I o B' s v1 M) (hs : s = true → Sc v v1 ∧ NBd M v) : OutI I o B' s v M := by
  obtain ⟨h1, h2, h3, h4⟩ := h
  refine ⟨h1, fun z => ?_, fun z => ?_, fun q z => ?_⟩
  · obtain ⟨v', b, c⟩ := h2 z
    exact ⟨v', b, fun y => (hs y).1.trans (c y)⟩
  · obtain ⟨a, b, v', c, d⟩ := h3 z
    have sc := (hs a).1
    refine ⟨a, ?_, v', c, sc.trans d⟩
    obtain ⟨k, _, _, e2⟩ := sc
    rw [e2, b, Int.mul_zero]
  · obtain ⟨w, v', a, b, c, d, e, g, y⟩ := h4 q z
    cases s with
    | false => exact ⟨w, v', a, b, c, d, e, g, fun z => (by cases z)⟩
    | true =>
      obtain ⟨sc, bv⟩ := hs rfl
      obtain ⟨rfl, q1⟩ := y rfl
      obtain ⟨k, k1, e1, e2⟩ := id sc
      refine ⟨v, v', bv, ?_, ?_, ?_, e, Sc.trans ⟨k, k1, e2, ?_⟩ g, fun _ => ⟨rfl, q1⟩⟩
      · rw [e2]; exact Int.mul_pos (by omega) b
      · rw [e1, e2]
        have := Int.mul_le_mul_of_nonneg_left c (show 0 ≤ k by omega)
        have e3 : q * (k * w.2) = k * (q * w.2) := by grind
        omega
      · rw [e1, e2]
        have := Int.mul_le_mul_of_nonneg_left d (show 0 ≤ k by omega)
        have e3 : (q + 1) * (k * w.2) = k * ((q + 1) * w.2) := by grind
        omega
      · show v.1 - q * v.2 = k * (w.1 - q * w.2)
        rw [e1, e2]
        grind
theorem NTold.scale {v v' : Int × Int} (h : NTold v) (sc : Sc v v') : NTold v' := by
  obtain ⟨h1, h2, h3⟩ := h
  obtain ⟨k, k1, e1, e2⟩ := sc
  have pos : ∀ {z : Int}, 0 ≤ k * z → 0 ≤ z := fun {z} hz => by
    rcases Int.lt_or_le z 0 with y | y
    · have := Int.mul_neg_of_pos_of_neg (show 0 < k by omega) y
      omega
    · exact y
  have e3 : k * (v'.1 - v'.2) = v.1 - v.2 := by rw [e1, e2]; grind
  have z1 := pos (z := v'.2) (by omega)
  have z2 := pos (z := v'.1 - v'.2) (by omega)
  refine ⟨z1, by omega, ?_⟩
  rcases Int.lt_or_le 0 v'.1 with y | y
  · omega
  · have := Int.mul_nonpos_of_nonneg_of_nonpos (show 0 ≤ k by omega) y
    omega
theorem NBd.scale {v v' : Int × Int} {M : Int} (h : NBd M v) (sc : Sc v v') : NBd M v' := by
  obtain ⟨k, k1, e1, e2⟩ := sc
  have key : ∀ {x y : Int}, x = k * y → (y.natAbs : Int) ≤ (x.natAbs : Int) := fun {x y} e => by
    rw [e, Int.natAbs_mul, Int.natCast_mul]
    have := Int.mul_le_mul_of_nonneg_right (show 1 ≤ (k.natAbs : Int) by omega) (show 0 ≤ (y.natAbs : Int) by omega)
    omega
  exact ⟨Int.le_trans (key e1) h.1, Int.le_trans (key e2) h.2⟩
theorem leaf_out {l D : Int} (hD : 0 ≤ D) {c : Chain} {s : Bool} {v : Int × Int} {M : Int} (h : leafI (l + D) c s v M) : OutI (fun B' s v M => ∃ c', B' = .leaf c' ∧ leafI (l - c.took l + D) c' s v M) (some (c.ans l)) (.leaf (c.then_ l)) s v M := by
  obtain ⟨T, hT, bd, tl, hs, h0⟩ := h
  rcases c.leaf_cases l with ⟨he, e1, e2, e3⟩ | ⟨he, hl, e1, e2, e3⟩ | ⟨he, hl, e1, e2, e3⟩
  · rw [e1, e2, e3, Int.sub_zero]
    have st : s = true := by
      cases s with
      | true => rfl
      | false => rw [h0 rfl] at he; cases he
    refine ⟨fun z => (by cases z), fun z => (by cases z), fun _ => ⟨st, ?_, v, ⟨c, rfl, T, hT, bd, tl, fun _ => hs st, fun z => (by cases z)⟩, Sc.refl v⟩, fun q z => (by cases z)⟩
    rw [(hs st).1]
    have : tp T c = [] := by
      cases T with
      | zero => rfl
      | succ n => exact if_pos he
    rw [this]
    rfl
  · rw [e1, e2, e3, Int.sub_zero]
    exact ⟨fun z => (by cases z), fun _ => ⟨v, ⟨c, rfl, T, hT, bd, tl, hs, h0⟩, fun _ => Sc.refl v⟩, fun z => (by cases z), fun q z => (by cases z)⟩
  · rw [e1, e2, e3]
    obtain ⟨n, rfl⟩ : ∃ n, T = n + 1 := ⟨T - 1, by omega⟩
    have et : tp (n + 1) c = c.part :: tp n c.next := if_neg (by rw [he]; decide)
    rw [et] at bd tl hs
    have tl : ∀ p ∈ tp n c.next, 1 ≤ p := tl
    have nt := fold_le tl
    have bd : NBd M (c.part * (fold (tp n c.next)).1 + (fold (tp n c.next)).2, (fold (tp n c.next)).1) := bd
    have hs : s = true → v = (c.part * (fold (tp n c.next)).1 + (fold (tp n c.next)).2, (fold (tp n c.next)).1) ∧ ∀ p ∈ c.part :: tp n c.next, 1 ≤ p := hs
    refine ⟨fun z => (by cases z), fun z => (by cases z), fun z => (by cases z), fun q z => ?_⟩
    cases z
    generalize hx : fold (tp n c.next) = x at *
    obtain ⟨n1, n2, n3⟩ := nt
    have ex : (c.part + 1) * x.1 = c.part * x.1 + x.1 := by grind
    refine ⟨(c.part * x.1 + x.2, x.1), x, bd, by show 0 < x.1; omega, by show c.part * x.1 ≤ c.part * x.1 + x.2; omega, by show c.part * x.1 + x.2 ≤ (c.part + 1) * x.1; omega, ⟨c.next, rfl, n, by omega, ?_, fun p hp => tl p (List.mem_of_mem_tail hp), fun _ => ⟨hx.symm, tl⟩, fun z => (by cases z)⟩, ?_, fun y => ⟨(hs y).1.symm, (hs y).2 _ List.mem_cons_self⟩⟩
    · rw [hx]
      exact ⟨by have := bd.2; exact this, by have := bd.2; have b2 : ((x.1).natAbs : Int) ≤ M := this; omega⟩
    · refine ⟨1, Int.le_refl _, (Int.one_mul _).symm, ?_⟩
      show c.part * x.1 + x.2 - c.part * x.1 = 1 * x.2
      omega
/-! ### nested boxes: what holds all along, and that every asking ends (fours) -/
/-- an eight's numbers beside its children's values -/
def eightI (a b c d e f g h i j : Int) (s : Bool) (u y v : Int × Int) (Mx My m S1 S M : Int) : Prop := 0 ≤ m ∧ 1 ≤ Mx ∧ Mx + 2 ≤ cap ∧ 1 ≤ My ∧ My + 2 ≤ cap ∧ 4 * (m * Mx) ≤ S1 ∧ 4 * (S1 * My) ≤ S ∧ 16 * S ≤ M ∧ 64 * S ≤ cap ∧ 0 ≤ j ∧ (i = j ∨ i = j + 1) ∧
  (i = 0 → s = false ∧ ∀ z ∈ [a, b, c, d, e, f, g, h], (z.natAbs : Int) ≤ m) ∧
  (1 ≤ i → j = 0 → s = false ∧ J2 (a.natAbs : Int) ((a + c).natAbs : Int) u.1 u.2 S1 ∧ J2 (b.natAbs : Int) ((b + d).natAbs : Int) u.1 u.2 S1 ∧ J2 (e.natAbs : Int) ((e + g).natAbs : Int) u.1 u.2 S1 ∧ J2 (f.natAbs : Int) ((f + h).natAbs : Int) u.1 u.2 S1) ∧
  (1 ≤ j → J8 (a.natAbs : Int) ((a + b).natAbs : Int) ((a + c).natAbs : Int) ((a + b + c + d).natAbs : Int) u.1 u.2 y.1 y.2 S ∧ J8 (e.natAbs : Int) ((e + f).natAbs : Int) ((e + g).natAbs : Int) ((e + f + g + h).natAbs : Int) u.1 u.2 y.1 y.2 S) ∧
  (s = true → 1 ≤ j ∧ NTold v ∧ ∃ k : Int, (k = 1 ∨ k = -1) ∧ v = (k * (a * u.1 * y.1 + b * u.1 * y.2 + c * u.2 * y.1 + d * u.2 * y.2), k * (e * u.1 * y.1 + f * u.1 * y.2 + g * u.2 * y.1 + h * u.2 * y.2)) ∧
    (0 ≤ k * e ∧ k * e ≤ k * a) ∧ (0 ≤ k * (e + f) ∧ k * (e + f) ≤ k * (a + b)) ∧ (0 ≤ k * (e + g) ∧ k * (e + g) ≤ k * (a + c)) ∧ (0 ≤ k * (e + f + g + h) ∧ k * (e + f + g + h) ≤ k * (a + b + c + d)))
def Inv (l : Int) : Box → Bool → Int × Int → Int → Prop
  | .leaf c, s, v, M => leafI l c s v M
  | .fb t b told, s, v, M => restI s told t b v M
  | .fourR t b told, s, v, M => restI s told t b v M
  | .four ns st told x, s, v, M => told = s ∧ ∃ (a b c d : Int) (u : Int × Int) (Mx m S : Int), ns = [a, b, c, d] ∧ Inv l x st u Mx ∧ fourI a b c d st s u v Mx m S M
  | .eight ns i j told x y, s, v, M => told = s ∧ ∃ (a b c d e f g h : Int) (u w : Int × Int) (Mx My m S1 S : Int), ns = [a, b, c, d, e, f, g, h] ∧ Inv l x (decide (0 < i)) u Mx ∧ Inv l y (decide (0 < j)) w My ∧ eightI a b c d e f g h i j s u w v Mx My m S1 S M
  | .eightR r, s, v, M => Inv l r s v M
theorem Inv.mono {l l' : Int} (hl : l' ≤ l) : ∀ {B : Box} {s : Bool} {v : Int × Int} {M : Int}, Inv l B s v M → Inv l' B s v M
  | .leaf _, _, _, _, ⟨T, h, r⟩ => ⟨T, Int.le_trans hl h, r⟩
  | .fb _ _ _, _, _, _, h => h
  | .fourR _ _ _, _, _, _, h => h
  | .four _ _ _ _, _, _, _, ⟨h, a, b, c, d, u, Mx, m, S, e, hx, r⟩ => ⟨h, a, b, c, d, u, Mx, m, S, e, Inv.mono hl hx, r⟩
  | .eight _ _ _ _ _ _, _, _, _, ⟨h, a, b, c, d, e, f, g, k, u, w, Mx, My, m, S1, S, z, hx, hy, r⟩ => ⟨h, a, b, c, d, e, f, g, k, u, w, Mx, My, m, S1, S, z, Inv.mono hl hx, Inv.mono hl hy, r⟩
  | .eightR r, s, v, M, h => Inv.mono (B := r) hl h
theorem four_val {a b c d : Int} {s : Bool} {u v : Int × Int} {Mx m S M : Int} (h : fourI a b c d true s u v Mx m S M) (hu : NTold u) (e : Int) (he : e = 1 ∨ e = -1) : NBd M (e * (a * u.1 + b * u.2), e * (c * u.1 + d * u.2)) := by
  obtain ⟨_, _, _, _, hS, _, _, hJ, _⟩ := h
  have j1 := (hJ rfl).1.val hu.1 hu.2.1
  have j2 := (hJ rfl).2.val hu.1 hu.2.1
  rcases he with rfl | rfl
  · exact ⟨by show ((1 * (a * u.1 + b * u.2)).natAbs : Int) ≤ M; omega, by show ((1 * (c * u.1 + d * u.2)).natAbs : Int) ≤ M; omega⟩
  · exact ⟨by show ((-1 * (a * u.1 + b * u.2)).natAbs : Int) ≤ M; omega, by show ((-1 * (c * u.1 + d * u.2)).natAbs : Int) ≤ M; omega⟩
/-- every asking of a box up to n heavy ends well -/
def Tot (D : Int) (n : Nat) : Prop := ∀ (x : Box) (l : Int) (s : Bool) (v : Int × Int) (M : Int), x.wt ≤ n → x.Ok → 0 ≤ l → Inv (l + D) x s v M → (s = true → NTold v ∧ NBd M v) → ∃ o x' l', Asks x l o x' l' ∧ OutI (Inv (l' + D)) o x' s v M
theorem rest_tot {l D : Int} {s told : Bool} {t b : Int} {v : Int × Int} {M : Int} (h : restI s told t b v M) : ∃ o B' l', Asks (.fourR t b told) l o B' l' ∧ OutI (Inv (l' + D)) o B' s v M := by
  obtain ⟨r, e, o⟩ := rest_out h
  exact ⟨_, _, _, .fourR e, o.map fun s v M ⟨t, b, told, e, h⟩ => by cases e; exact h⟩
theorem four_fit {a b c d S : Int} (h1 : (a.natAbs : Int) ≤ 2 * S) (h2 : ((a + b).natAbs : Int) ≤ 3 * S) (h3 : (c.natAbs : Int) ≤ 2 * S) (h4 : ((c + d).natAbs : Int) ≤ 3 * S) (hS : 8 * S ≤ cap) : allFit [a, b, c, d] (fourCorners [a, b, c, d]) = true := by
  have f : ∀ {z : Int}, (z.natAbs : Int) ≤ 5 * S → decide (fits z) = true := fun {z} hz => decide_eq_true (cap_fits (by omega))
  show ([a, b, c, d].all (fun z => decide (fits z)) && [(a, c), (a + b, c + d)].all fun c => decide (fits c.1) && decide (fits c.2)) = true
  simp only [List.all_cons, List.all_nil, f (z := a) (by omega), f (z := b) (by omega), f (z := c) (by omega), f (z := d) (by omega), f (z := a + b) (by omega), f (z := c + d) (by omega), Bool.and_self]
/-- the sure part of two corners, at any place between -/
theorem four_sure {a b c d q : Int} {u : Int × Int} (hs : surePart (fourCorners [a, b, c, d]) = some q) (hu : NTold u) : ∃ e : Int, (e = 1 ∨ e = -1) ∧ 0 < e * c ∧ 0 < e * (c + d) ∧ q * (e * c) ≤ e * a ∧ e * a < (q + 1) * (e * c) ∧ q * (e * (c + d)) ≤ e * (a + b) ∧ e * (a + b) ≤ (q + 1) * (e * (c + d)) ∧
    0 < e * (c * u.1 + d * u.2) ∧ q * (e * (c * u.1 + d * u.2)) ≤ e * (a * u.1 + b * u.2) ∧ e * (a * u.1 + b * u.2) ≤ (q + 1) * (e * (c * u.1 + d * u.2)) := by
  have hs := (sure_iff (cs := fourCorners [a, b, c, d]) (by exact List.cons_ne_nil _ _)).mp hs
  obtain ⟨e, he, h1, h2, h3, h4, h5, h6⟩ : ∃ e : Int, (e = 1 ∨ e = -1) ∧ 0 < e * c ∧ 0 < e * (c + d) ∧ q * (e * c) ≤ e * a ∧ e * a < (q + 1) * (e * c) ∧ q * (e * (c + d)) ≤ e * (a + b) ∧ e * (a + b) ≤ (q + 1) * (e * (c + d)) := by
    have key : ∀ {x y z w : Int}, Lies [(x, z), (x + y, z + w)] q → 0 < z ∧ 0 < z + w ∧ q * z ≤ x ∧ x < (q + 1) * z ∧ q * (z + w) ≤ x + y ∧ x + y ≤ (q + 1) * (z + w) := fun {x y z w} L => by
      obtain ⟨L1, L2⟩ := L
      have p1 := L1 (x, z) (by simp)
      have p2 := L1 (x + y, z + w) (by simp)
      have p3 := L2 (x, z) rfl
      exact ⟨p1.1, p2.1, p1.2.1, p3, p2.2.1, p2.2.2⟩
    rcases hs with L | L
    · obtain ⟨k1, k2, k3, k4, k5, k6⟩ := key (x := a) (y := b) (z := c) (w := d) L
      refine ⟨1, .inl rfl, ?_⟩
      rw [Int.one_mul, Int.one_mul, Int.one_mul, Int.one_mul]
      exact ⟨k1, k2, k3, k4, k5, k6⟩
    · have L : Lies [(-a, -c), (-(a + b), -(c + d))] q := L
      rw [show -(a + b) = -a + -b by omega, show -(c + d) = -c + -d by omega] at L
      obtain ⟨k1, k2, k3, k4, k5, k6⟩ := key L
      refine ⟨-1, .inr rfl, ?_⟩
      rw [show -1 * c = -c by omega, show -1 * (c + d) = -c + -d by omega, show -1 * a = -a by omega, show -1 * (a + b) = -a + -b by omega]
      exact ⟨k1, k2, k3, k4, k5, k6⟩
  refine ⟨e, he, h1, h2, h3, h4, h5, h6, ?_⟩
  obtain ⟨u0, u1, u2⟩ := hu
  have w0 : 0 ≤ u.1 - u.2 := by omega
  have ec : e * (c * u.1 + d * u.2) = (e * c) * (u.1 - u.2) + (e * (c + d)) * u.2 := by grind
  have ea : e * (a * u.1 + b * u.2) = (e * a) * (u.1 - u.2) + (e * (a + b)) * u.2 := by grind
  rw [ec, ea]
  have m1 := Int.mul_le_mul_of_nonneg_right h3 w0
  have m2 := Int.mul_le_mul_of_nonneg_right (Int.le_of_lt h4) w0
  have m3 := Int.mul_le_mul_of_nonneg_right h5 u0
  have m4 := Int.mul_le_mul_of_nonneg_right h6 u0
  have e1 : q * ((e * c) * (u.1 - u.2) + (e * (c + d)) * u.2) = q * (e * c) * (u.1 - u.2) + q * (e * (c + d)) * u.2 := by grind
  have e2 : (q + 1) * ((e * c) * (u.1 - u.2) + (e * (c + d)) * u.2) = (q + 1) * (e * c) * (u.1 - u.2) + (q + 1) * (e * (c + d)) * u.2 := by grind
  refine ⟨?_, by omega, by omega⟩
  have n1 := Int.mul_nonneg (Int.le_of_lt h1) w0
  have n2 := Int.mul_nonneg (Int.le_of_lt h2) u0
  rcases Int.lt_or_le 0 u.2 with z | z
  · have := Int.mul_pos h2 z
    omega
  · have := Int.mul_pos h1 (show 0 < u.1 - u.2 by omega)
    omega
/-! ### nested boxes: every asking of a four ends -/
theorem abs_mul_nn {x y : Int} (hy : 0 ≤ y) : ((x * y).natAbs : Int) = (x.natAbs : Int) * y := by rw [Int.natAbs_mul, Int.natCast_mul, Int.natAbs_of_nonneg hy]
theorem J8.val {a b c d S : Int} {u y : Int × Int} (h : J8 (a.natAbs : Int) ((a + b).natAbs : Int) ((a + c).natAbs : Int) ((a + b + c + d).natAbs : Int) u.1 u.2 y.1 y.2 S) (hu : NTold u) (hy : NTold y) : ((a * u.1 * y.1 + b * u.1 * y.2 + c * u.2 * y.1 + d * u.2 * y.2).natAbs : Int) ≤ S := by
  have e : a * u.1 * y.1 + b * u.1 * y.2 + c * u.2 * y.1 + d * u.2 * y.2 = (a * (y.1 - y.2) + (a + b) * y.2) * (u.1 - u.2) + ((a + c) * (y.1 - y.2) + (a + b + c + d) * y.2) * u.2 := by grind
  obtain ⟨u0, u1, _⟩ := hu
  obtain ⟨y0, y1, _⟩ := hy
  have n1 := abs_mul_nn (x := a) (y := y.1 - y.2) (by omega)
  have n2 := abs_mul_nn (x := a + b) (y := y.2) y0
  have n3 := abs_mul_nn (x := a + c) (y := y.1 - y.2) (by omega)
  have n4 := abs_mul_nn (x := a + b + c + d) (y := y.2) y0
  have n5 := abs_mul_nn (x := a * (y.1 - y.2) + (a + b) * y.2) (y := u.1 - u.2) (by omega)
  have n6 := abs_mul_nn (x := (a + c) * (y.1 - y.2) + (a + b + c + d) * y.2) (y := u.2) u0
  have m1 := Int.mul_le_mul_of_nonneg_right (show ((a * (y.1 - y.2) + (a + b) * y.2).natAbs : Int) ≤ (a.natAbs : Int) * (y.1 - y.2) + ((a + b).natAbs : Int) * y.2 by omega) (show 0 ≤ u.1 - u.2 by omega)
  have m2 := Int.mul_le_mul_of_nonneg_right (show (((a + c) * (y.1 - y.2) + (a + b + c + d) * y.2).natAbs : Int) ≤ ((a + c).natAbs : Int) * (y.1 - y.2) + ((a + b + c + d).natAbs : Int) * y.2 by omega) u0
  have := h.full
  rw [e]
  omega
theorem Inv.told {l : Int} : ∀ {B : Box} {v : Int × Int} {M : Int}, Inv l B true v M → NTold v ∧ NBd M v
  | .leaf _, v, M, ⟨T, _, bd, _, hs, _⟩ => by
    obtain ⟨rfl, h⟩ := hs rfl
    exact ⟨fold_le h, bd⟩
  | .fb _ _ _, _, _, ⟨_, _, _, _, h⟩ => ⟨(h rfl).1, (h rfl).2.1⟩
  | .fourR _ _ _, _, _, ⟨_, _, _, _, h⟩ => ⟨(h rfl).1, (h rfl).2.1⟩
  | .four ns st told x, v, M, ⟨_, a, b, c, d, u, Mx, m, S, _, hx, h⟩ => by
    obtain ⟨rfl, nt, e, he, hv, _⟩ := h.2.2.2.2.2.2.2.2 rfl
    have hu := (Inv.told hx).1
    refine ⟨nt, ?_⟩
    rw [hv]
    exact four_val h hu e he
  | .eight ns i j told x y, v, M, ⟨_, a, b, c, d, e, f, g, h, u, w, Mx, My, m, S1, S, _, hx, hy, I⟩ => by
    obtain ⟨_, _, _, _, _, _, hS0, hM, _, hj, hij, _, _, hJ, hv⟩ := I
    obtain ⟨j1, nt, k, hk, ev, _⟩ := hv rfl
    rw [decide_eq_true (show 0 < i by omega)] at hx
    rw [decide_eq_true (show 0 < j by omega)] at hy
    have t1 := (hJ j1).1.val (Inv.told hx).1 (Inv.told hy).1
    have t2 := (hJ j1).2.val (Inv.told hx).1 (Inv.told hy).1
    refine ⟨nt, ?_⟩
    rw [ev]
    generalize a * u.1 * w.1 + b * u.1 * w.2 + c * u.2 * w.1 + d * u.2 * w.2 = z1 at *
    generalize e * u.1 * w.1 + f * u.1 * w.2 + g * u.2 * w.1 + h * u.2 * w.2 = z2 at *
    rcases hk with rfl | rfl
    · exact ⟨by show ((1 * z1).natAbs : Int) ≤ M; omega, by show ((1 * z2).natAbs : Int) ≤ M; omega⟩
    · exact ⟨by show ((-1 * z1).natAbs : Int) ≤ M; omega, by show ((-1 * z2).natAbs : Int) ≤ M; omega⟩
  | .eightR r, v, M, h => Inv.told (B := r) h
/-- the child's value told by lesser numbers -/
theorem fourI.scale {a b c d : Int} {s : Bool} {u u' v : Int × Int} {Mx m S M : Int} (h : fourI a b c d true s u v Mx m S M) (hu' : NTold u') (sc : Sc u u') : ∃ v', fourI a b c d true s u' v' Mx m S M ∧ (s = true → Sc v v') := by
  obtain ⟨h1, h2, h3, h4, h5, h6, h7, hJ, hv⟩ := h
  obtain ⟨k, k1, e1, e2⟩ := id sc
  have J := hJ rfl
  have J' : true = true → J2 (a.natAbs : Int) ((a + b).natAbs : Int) u'.1 u'.2 S ∧ J2 (c.natAbs : Int) ((c + d).natAbs : Int) u'.1 u'.2 S := fun _ => ⟨J.1.scale (by omega) (by omega) k1 e1 e2 hu'.1 hu'.2.1, J.2.scale (by omega) (by omega) k1 e1 e2 hu'.1 hu'.2.1⟩
  cases s with
  | false => exact ⟨v, ⟨h1, h2, h3, h4, h5, h6, h7, J', fun z => (by cases z)⟩, fun z => (by cases z)⟩
  | true =>
    obtain ⟨_, nt, e, he, ev, c1, c2⟩ := hv rfl
    have sv : Sc v (e * (a * u'.1 + b * u'.2), e * (c * u'.1 + d * u'.2)) := by
      refine ⟨k, k1, ?_, ?_⟩
      · rw [ev]
        show e * (a * u.1 + b * u.2) = k * (e * (a * u'.1 + b * u'.2))
        rw [e1, e2]; grind
      · rw [ev]
        show e * (c * u.1 + d * u.2) = k * (e * (c * u'.1 + d * u'.2))
        rw [e1, e2]; grind
    exact ⟨_, ⟨h1, h2, h3, h4, h5, h6, h7, J', fun _ => ⟨rfl, nt.scale sv, e, he, rfl, c1, c2⟩⟩, fun _ => sv⟩
/-- a part taken that is not the first -/
theorem fourI.take {a b c d q : Int} {s : Bool} {u v : Int × Int} {Mx m S M : Int} (h : fourI a b c d true s u v Mx m S M) (hu : NTold u) (g1 : 0 < u.2) (q1 : 1 ≤ q) (lo : q * u.2 ≤ u.1) (hi : u.1 ≤ (q + 1) * u.2) : fourI (a * q + b) a (c * q + d) c true s (u.2, u.1 - q * u.2) v Mx m S M := by
  obtain ⟨h1, h2, h3, h4, h5, h6, h7, hJ, hv⟩ := h
  have key : ∀ {x y : Int}, J2 (x.natAbs : Int) ((x + y).natAbs : Int) u.1 u.2 S → J2 ((x * q + y).natAbs : Int) ((x * q + y + x).natAbs : Int) u.2 (u.1 - q * u.2) S := fun {x y} J => by
    have n1 := abs_mul_nn (x := x) (y := q - 1) (by omega)
    have n2 := abs_mul_nn (x := x) (y := q) (by omega)
    have c1 : (x.natAbs : Int) * (q - 1) = (q - 1) * (x.natAbs : Int) := Int.mul_comm _ _
    have c2 : (x.natAbs : Int) * q = q * (x.natAbs : Int) := Int.mul_comm _ _
    have e1 : x * q + y = x * (q - 1) + (x + y) := by grind
    have e2 : x * q + y + x = x * q + (x + y) := by omega
    exact J.take (by omega) (by omega) (by omega) (by omega) (by omega) hu.2.1 q1 lo hi (by rw [e1]; omega) (by rw [e2]; omega) (by omega) (by omega)
  refine ⟨h1, h2, h3, h4, h5, h6, fun z => (by cases z), fun _ => ⟨key (hJ rfl).1, key (hJ rfl).2⟩, fun y => ?_⟩
  obtain ⟨_, nt, e, he, ev, ⟨c1, c2⟩, ⟨c3, c4⟩⟩ := hv y
  refine ⟨rfl, nt, e, he, ?_, ?_, ?_⟩
  · rw [ev]
    refine Prod.ext ?_ ?_
    · show e * (a * u.1 + b * u.2) = e * ((a * q + b) * u.2 + a * (u.1 - q * u.2))
      grind
    · show e * (c * u.1 + d * u.2) = e * ((c * q + d) * u.2 + c * (u.1 - q * u.2))
      grind
  · have m1 := Int.mul_le_mul_of_nonneg_right c2 (show 0 ≤ q - 1 by omega)
    have m2 := Int.mul_nonneg c1 (show 0 ≤ q - 1 by omega)
    have e1 : e * (c * q + d) = e * c * (q - 1) + e * (c + d) := by grind
    have e2 : e * (a * q + b) = e * a * (q - 1) + e * (a + b) := by grind
    exact ⟨by omega, by omega⟩
  · have m1 := Int.mul_le_mul_of_nonneg_right c2 (show 0 ≤ q by omega)
    have m2 := Int.mul_nonneg c1 (show 0 ≤ q by omega)
    have e1 : e * (c * q + d + c) = e * c * q + e * (c + d) := by grind
    have e2 : e * (a * q + b + a) = e * a * q + e * (a + b) := by grind
    exact ⟨by omega, by omega⟩
theorem Sc.sum {u v : Int × Int} (sc : Sc u v) (hv : NTold v) : v.1 + v.2 ≤ u.1 + u.2 := by
  obtain ⟨k, k1, e1, e2⟩ := sc
  have m1 := Int.mul_le_mul_of_nonneg_right k1 (show 0 ≤ v.1 by have := hv.2.2; omega)
  have m2 := Int.mul_le_mul_of_nonneg_right k1 hv.1
  omega
theorem four_loop {n : Nat} {D : Int} (X : Tot D n) : ∀ (K : Nat) (a b c d : Int) (s : Bool) (x : Box) (u v : Int × Int) (Mx m S M l : Int), u.1 + u.2 ≤ K → 0 ≤ l → x.wt ≤ n → x.Ok → x.kind ≠ 1 → Inv (l + D) x true u Mx → fourI a b c d true s u v Mx m S M → ∃ o B' l', Asks (.four [a, b, c, d] true s x) l o B' l' ∧ OutI (Inv (l' + D)) o B' s v M
  | K, a, b, c, d, s, x, u, v, Mx, m, S, M, l, hK, hl, hw, ok, kd, hx, h => by
    obtain ⟨hu, hbu⟩ := hx.told
    obtain ⟨h1, h2, h3, h4, h5, h6, h7, hJ, hv⟩ := id h
    have J := hJ rfl
    have hf : allFit [a, b, c, d] (fourCorners [a, b, c, d]) = true := four_fit J.1.2.1 J.1.2.2 J.2.2.1 J.2.2.2 h6
    have bv : s = true → NBd M v := fun y => by
      obtain ⟨_, _, e, he, ev, _⟩ := hv y
      rw [ev]
      exact four_val h hu e he
    cases hs : sureF [a, b, c, d] true with
    | some q =>
      have hs' : surePart (fourCorners [a, b, c, d]) = some q := hs
      obtain ⟨e, he, p1, p2, p3, p4, p5, p6, w2, lo, hi⟩ := four_sure hs' hu
      have bw := four_val h hu e he
      obtain ⟨d1, d2⟩ := digit (w := (e * (a * u.1 + b * u.2), e * (c * u.1 + d * u.2))) w2 lo hi bw
      refine ⟨_, _, _, .tell4 hf hs, fun z => (by cases z), fun z => (by cases z), fun z => (by cases z), fun q' z => ?_⟩
      cases z
      refine ⟨(e * (a * u.1 + b * u.2), e * (c * u.1 + d * u.2)), _, bw, w2, lo, hi, ?_, Sc.refl _, fun y => ?_⟩
      · rw [turned4]
        refine ⟨rfl, c, d, a - q * c, b - q * d, u, Mx, m, S, rfl, hx, h1, h2, h3, h4, h5, h6, fun z => (by cases z), fun _ => ⟨J.2, J.2.less hu.1 hu.2.1 ?_ ?_⟩, fun _ => ⟨rfl, d1, e, he, ?_, ?_, ?_⟩⟩
        · have e1 : e * (a - q * c) = e * a - q * (e * c) := by grind
          have e2 : (q + 1) * (e * c) = q * (e * c) + e * c := by grind
          rcases he with rfl | rfl <;> omega
        · have e1 : e * (a - q * c + (b - q * d)) = e * (a + b) - q * (e * (c + d)) := by grind
          have e2 : (q + 1) * (e * (c + d)) = q * (e * (c + d)) + e * (c + d) := by grind
          rcases he with rfl | rfl <;> omega
        · refine Prod.ext rfl ?_
          show e * (a * u.1 + b * u.2) - q * (e * (c * u.1 + d * u.2)) = e * ((a - q * c) * u.1 + (b - q * d) * u.2)
          grind
        · have e1 : e * (a - q * c) = e * a - q * (e * c) := by grind
          have e2 : (q + 1) * (e * c) = q * (e * c) + e * c := by grind
          exact ⟨by omega, by omega⟩
        · have e1 : e * (a - q * c + (b - q * d)) = e * (a + b) - q * (e * (c + d)) := by grind
          have e2 : (q + 1) * (e * (c + d)) = q * (e * (c + d)) + e * (c + d) := by grind
          exact ⟨by omega, by omega⟩
      · obtain ⟨_, nt, e', he', ev, ⟨c1, c2⟩, _⟩ := hv y
        have ee : e' = e := by
          rcases he with rfl | rfl <;> rcases he' with rfl | rfl <;> omega
        subst ee
        refine ⟨ev.symm, ?_⟩
        rcases Int.lt_or_le 0 q with z | z
        · omega
        · have := Int.mul_le_mul_of_nonneg_right (show q + 1 ≤ 1 by omega) (Int.le_of_lt p1)
          omega
    | none =>
      obtain ⟨o, x', l1, ax, h0, hwt, hfin, hpart⟩ := X x l true u Mx hw ok hl hx (fun _ => ⟨hu, hbu⟩)
      obtain ⟨n0, en0⟩ := askF_up ax
      obtain ⟨ok', wt', kd'⟩ := askF_ok ok (en0 n0 (Nat.le_refl _))
      have bl := ax.left hl
      match o, ax, h0, hwt, hfin, hpart with
      | none, ax, h0, _, _, _ => exact absurd (h0 rfl).1 (by decide)
      | some .waits, ax, _, hwt, _, _ =>
        obtain ⟨u', hx', sc⟩ := hwt rfl
        obtain ⟨v', h', sv⟩ := h.scale hx'.told.1 (sc rfl)
        exact ⟨_, _, _, .wait4 hf hs ax, fun z => (by cases z), fun _ => ⟨v', ⟨rfl, a, b, c, d, u', Mx, m, S, rfl, hx', h'⟩, sv⟩, fun z => (by cases z), fun q z => (by cases z)⟩
      | some .fin, ax, _, _, hfin, _ =>
        obtain ⟨_, g0, _⟩ := hfin rfl
        have ha : (a.natAbs : Int) ≤ S := by
          have := J.1.1
          rw [g0, Int.sub_zero, Int.mul_zero] at this
          have y := Int.mul_le_mul_of_nonneg_left hu.2.2 (show 0 ≤ (a.natAbs : Int) by omega)
          omega
        have hc : (c.natAbs : Int) ≤ S := by
          have := J.2.1
          rw [g0, Int.sub_zero, Int.mul_zero] at this
          have y := Int.mul_le_mul_of_nonneg_left hu.2.2 (show 0 ≤ (c.natAbs : Int) by omega)
          omega
        have sv : s = true → ∃ v', Sc v v' ∧ ∃ k : Int, k ≠ 0 ∧ a = k * v'.1 ∧ c = k * v'.2 := fun y => by
          obtain ⟨_, nt, e, he, ev, _⟩ := hv y
          refine ⟨(e * a, e * c), ⟨u.1, hu.2.2, ?_, ?_⟩, e, by rcases he with rfl | rfl <;> decide, ?_, ?_⟩
          · rw [ev, g0]
            show e * (a * u.1 + b * 0) = u.1 * (e * a)
            grind
          · rw [ev, g0]
            show e * (c * u.1 + d * 0) = u.1 * (e * c)
            grind
          · rcases he with rfl | rfl
            · show a = 1 * (1 * a); omega
            · show a = -1 * (-1 * a); omega
          · rcases he with rfl | rfl
            · show c = 1 * (1 * c); omega
            · show c = -1 * (-1 * c); omega
        have rI : ∃ v', restI s s a c v' M ∧ (s = true → Sc v v' ∧ NBd M v) := by
          cases s with
          | false => exact ⟨v, ⟨rfl, by omega, by omega, fun _ => ⟨by show (a.natAbs : Int) ≤ M; omega, by show (c.natAbs : Int) ≤ M; omega⟩, fun z => (by cases z)⟩, fun z => (by cases z)⟩
          | true =>
            obtain ⟨v', sc, kk⟩ := sv rfl
            exact ⟨v', ⟨rfl, by omega, by omega, fun z => (by cases z), fun _ => ⟨(hv rfl).2.1.scale sc, (bv rfl).scale sc, .inr kk⟩⟩, fun _ => ⟨sc, bv rfl⟩⟩
        obtain ⟨v', hr, hsc⟩ := rI
        obtain ⟨o2, B2, l2, a2, out⟩ := rest_tot (l := l1) (D := D) hr
        exact ⟨o2, B2, l2, .fin4 hf hs ax a2, out.scale hsc⟩
      | some (.part q), ax, _, _, _, hpart =>
        obtain ⟨w, u', bw, w2, lo, hi, hx', sc, ws⟩ := hpart q rfl
        obtain ⟨rfl, q1⟩ := ws rfl
        have fq : fits q := by
          refine cap_fits ?_
          have := hbu.1
          have y := Int.mul_le_mul_of_nonneg_left (show 1 ≤ w.2 by omega) (show 0 ≤ q by omega)
          omega
        have ht := h.take hu w2 q1 lo hi
        obtain ⟨hu', hbu'⟩ := hx'.told
        obtain ⟨v', h', sv⟩ := ht.scale hu' sc
        have sm := sc.sum hu'
        have sm : u'.1 + u'.2 ≤ w.2 + (w.1 - q * w.2) := sm
        have y := Int.mul_le_mul_of_nonneg_right q1 (show 0 ≤ w.2 by omega)
        match K, hK with
        | 0, hK => omega
        | K + 1, hK =>
          obtain ⟨o2, B2, l2, a2, out⟩ := four_loop X K (a * q + b) a (c * q + d) c s x' u' v' Mx m S M l1 (by omega) bl.1 (by omega) ok' (by rw [kd']; exact kd) hx' h'
          exact ⟨o2, B2, l2, .part4 hf hs ax fq a2, out.scale fun y => ⟨sv y, bv y⟩⟩
theorem J2.up {p r α γ S S' : Int} (h : J2 p r α γ S) (hS : S ≤ S') : J2 p r α γ S' := ⟨Int.le_trans h.1 hS, by have := h.2.1; omega, by have := h.2.2; omega⟩
theorem first_fits {q M : Int} {w : Int × Int} (w2 : 0 < w.2) (lo : q * w.2 ≤ w.1) (hi : w.1 ≤ (q + 1) * w.2) (bw : NBd M w) (hM : M + 2 ≤ cap) : fits q := by
  refine cap_fits ?_
  have := bw.1
  rcases Int.lt_or_le q 0 with z | z
  · have y := Int.mul_le_mul_of_nonneg_left (show 1 ≤ w.2 by omega) (show 0 ≤ -(q + 1) by omega)
    have e : -(q + 1) * w.2 = -((q + 1) * w.2) := by grind
    omega
  · have y := Int.mul_le_mul_of_nonneg_left (show 1 ≤ w.2 by omega) z
    omega
theorem four_tot {n : Nat} {D : Int} (X : Tot D n) {ns : List Int} {st told s : Bool} {x : Box} {v : Int × Int} {M l : Int} (hl : 0 ≤ l) (hw : x.wt ≤ n) (ok : x.Ok) (kd : x.kind ≠ 1) (h : Inv (l + D) (.four ns st told x) s v M) : ∃ o B' l', Asks (.four ns st told x) l o B' l' ∧ OutI (Inv (l' + D)) o B' s v M := by
  obtain ⟨rfl, a, b, c, d, u, Mx, m, S, rfl, hx, h⟩ := h
  cases st with
  | true =>
    have hu := hx.told.1
    exact four_loop X (u.1 + u.2).toNat a b c d told x u v Mx m S M l (by obtain ⟨_, _, _⟩ := hu; omega) hl hw ok kd hx h
  | false =>
    obtain ⟨h1, h2, h3, h4, h5, h6, h7, _, _⟩ := id h
    obtain ⟨rfl, ma, mb, mc, md⟩ := h7 rfl
    have mS : m ≤ S := by
      have := Int.mul_le_mul_of_nonneg_left h2 h1
      omega
    have hf : allFit [a, b, c, d] (fourCorners [a, b, c, d]) = true := four_fit (S := S) (by omega) (by omega) (by omega) (by omega) h6
    have hs : sureF [a, b, c, d] false = none := rfl
    obtain ⟨o, x', l1, ax, h0, hwt, hfin, hpart⟩ := X x l false u Mx hw ok hl hx (fun z => (by cases z))
    obtain ⟨n0, en0⟩ := askF_up ax
    obtain ⟨ok', wt', kd'⟩ := askF_ok ok (en0 n0 (Nat.le_refl _))
    have bl := ax.left hl
    match o, ax, h0, hwt, hfin, hpart with
    | none, ax, h0, _, _, _ =>
      obtain ⟨_, u', hx'⟩ := h0 rfl
      exact ⟨_, _, _, .none4 hf hs ax, fun _ => ⟨rfl, v, rfl, a, b, c, d, u', Mx, m, S, rfl, hx', h1, h2, h3, h4, h5, h6, h7, fun z => (by cases z), fun z => (by cases z)⟩, fun z => (by cases z), fun z => (by cases z), fun q z => (by cases z)⟩
    | some .waits, ax, _, hwt, _, _ =>
      obtain ⟨u', hx', _⟩ := hwt rfl
      exact ⟨_, _, _, .wait4 hf hs ax, fun z => (by cases z), fun _ => ⟨v, ⟨rfl, a, b, c, d, u', Mx, m, S, rfl, hx', h1, h2, h3, h4, h5, h6, h7, fun z => (by cases z), fun z => (by cases z)⟩, fun z => (by cases z)⟩, fun z => (by cases z), fun q z => (by cases z)⟩
    | some .fin, ax, _, _, hfin, _ => exact absurd (hfin rfl).1 (by decide)
    | some (.part q), ax, _, _, _, hpart =>
      obtain ⟨w, u', bw, w2, lo, hi, hx', sc, _⟩ := hpart q rfl
      have hu' := hx'.told.1
      have fq := first_fits w2 lo hi bw h3
      have b1 := bw.1
      have b2 := bw.2
      have key : ∀ {x y : Int}, (x.natAbs : Int) ≤ m → (y.natAbs : Int) ≤ m → J2 ((x * q + y).natAbs : Int) ((x * q + y + x).natAbs : Int) u'.1 u'.2 S := fun {x y} hx hy => by
        have e : ((x * q).natAbs : Int) = (x.natAbs : Int) * (q.natAbs : Int) := by rw [Int.natAbs_mul, Int.natCast_mul]
        have J := J2.start (A := (x.natAbs : Int)) (B := (y.natAbs : Int)) (p := ((x * q + y).natAbs : Int)) (r := ((x * q + y + x).natAbs : Int)) (M := Mx) h1 (by omega) hx hy (by omega) (by omega) (show 1 ≤ w.2 by omega) lo hi (by omega) (by omega) (by omega)
        obtain ⟨k, k1, e1, e2⟩ := sc
        exact (J.scale (by omega) (by omega) k1 e1 e2 hu'.1 hu'.2.1).up h4
      have h' : fourI (a * q + b) a (c * q + d) c true false u' v Mx m S M := ⟨h1, h2, h3, h4, h5, h6, fun z => (by cases z), fun _ => ⟨key ma mb, key mc md⟩, fun z => (by cases z)⟩
      obtain ⟨o2, B2, l2, a2, out⟩ := four_loop X (u'.1 + u'.2).toNat (a * q + b) a (c * q + d) c false x' u' v Mx m S M l1 (by obtain ⟨_, _, _⟩ := hu'; omega) bl.1 (by omega) ok' (by rw [kd']; exact kd) hx' h'
      exact ⟨o2, B2, l2, .part4 hf hs ax fq a2, out⟩
/-! ### nested boxes: eights -/
theorem prim {v : Int × Int} (h : NTold v) : ∃ v', Sc v v' ∧ Int.gcd v'.1 v'.2 = 1 := by
  by_cases z : v.2 = 0
  · exact ⟨(1, 0), ⟨v.1, h.2.2, (Int.mul_one _).symm, by rw [z]; exact (Int.mul_zero _).symm⟩, rfl⟩
  · obtain ⟨g, e1, e2, _, hs, _⟩ := fold_low (t := v.1) (b := v.2) z
    exact ⟨fold (chain v.1 v.2), ⟨g, by have := hs.mpr (by have := h.1; omega); omega, e1, e2⟩, gcd_fold _⟩
theorem par_mult {a e : Int} {v : Int × Int} (h1 : 1 ≤ v.1) (hg : Int.gcd v.1 v.2 = 1) (e0 : a * v.2 = e * v.1) : ∃ k : Int, a = k * v.1 ∧ e = k * v.2 := by
  have d : v.1.natAbs ∣ a.natAbs * v.2.natAbs := by
    rw [← Int.natAbs_mul, e0, Int.natAbs_mul]
    exact Nat.dvd_mul_left _ _
  have cp : Nat.Coprime v.1.natAbs v.2.natAbs := hg
  have d2 := Int.natAbs_dvd_natAbs.mp (cp.dvd_of_dvd_mul_right d)
  obtain ⟨k, hk⟩ := d2
  refine ⟨k, by rw [hk, Int.mul_comm], ?_⟩
  refine Int.eq_of_mul_eq_mul_right (a := v.1) (by omega) ?_
  rw [← e0, hk]
  grind
/-- one chain has ended: what is left -/
theorem one_inv {a b e f S M My l : Int} {s : Bool} {y : Box} {w v : Int × Int} (hy : Inv l y true w My) (m1 : 1 ≤ My) (m2 : My + 2 ≤ cap) (J1 : J2 (a.natAbs : Int) ((a + b).natAbs : Int) w.1 w.2 S) (J3 : J2 (e.natAbs : Int) ((e + f).natAbs : Int) w.1 w.2 S) (hM : 16 * S ≤ M) (hC : 64 * S ≤ cap)
    (hv : s = true → NTold v ∧ NBd M v ∧ ∃ k : Int, (k = 1 ∨ k = -1) ∧ Sc v (k * (a * w.1 + b * w.2), k * (e * w.1 + f * w.2)) ∧ (0 ≤ k * e ∧ k * e ≤ k * a) ∧ (0 ≤ k * (e + f) ∧ k * (e + f) ≤ k * (a + b))) : ∃ v', Inv l (oneBox [a, b, e, f] s y) s v' M ∧ (s = true → Sc v v') := by
  have S0 : 0 ≤ S := by have := J1.2.1; omega
  have c1 := J1.2.1
  have c2 := J1.2.2
  have c3 := J3.2.1
  have c4 := J3.2.2
  show ∃ v', Inv l (if a * f ≠ b * e then .four [a, b, e, f] true s y else if e ≠ 0 then .fb a e s else .fb b f s) s v' M ∧ (s = true → Sc v v')
  by_cases hd : a * f ≠ b * e
  · rw [if_pos hd]
    have z4 : 4 * (0 * My) ≤ S := by rw [Int.zero_mul]; omega
    cases s with
    | false => exact ⟨v, ⟨rfl, a, b, e, f, w, My, 0, S, rfl, hy, Int.le_refl _, m1, m2, z4, by omega, by omega, fun z => (by cases z), fun _ => ⟨J1, J3⟩, fun z => (by cases z)⟩, fun z => (by cases z)⟩
    | true =>
      obtain ⟨nt, bv, k, hk, sc, k1, k2⟩ := hv rfl
      exact ⟨_, ⟨rfl, a, b, e, f, w, My, 0, S, rfl, hy, Int.le_refl _, m1, m2, z4, by omega, by omega, fun z => (by cases z), fun _ => ⟨J1, J3⟩, fun _ => ⟨rfl, nt.scale sc, k, hk, rfl, k1, k2⟩⟩, fun _ => sc⟩
  · rw [if_neg hd]
    have hd : a * f = b * e := Classical.not_not.mp hd
    have rest : ∀ t r : Int, (t.natAbs : Int) ≤ 5 * S → (r.natAbs : Int) ≤ 5 * S → t * (e * w.1 + f * w.2) = r * (a * w.1 + b * w.2) → (t = 0 → r = 0 → e = 0 ∧ f = 0) → ∃ v', Inv l (.fb t r s) s v' M ∧ (s = true → Sc v v') := fun t r bt br cr nz => by
      cases s with
      | false => exact ⟨v, ⟨rfl, by omega, by omega, fun _ => ⟨by show (t.natAbs : Int) ≤ M; omega, by show (r.natAbs : Int) ≤ M; omega⟩, fun z => (by cases z)⟩, fun z => (by cases z)⟩
      | true =>
        obtain ⟨nt, bv, k, hk, sc, _⟩ := hv rfl
        obtain ⟨v', sp, hg⟩ := prim nt
        have nt' := nt.scale sp
        refine ⟨v', ⟨rfl, by omega, by omega, fun z => (by cases z), fun _ => ⟨nt', bv.scale sp, ?_⟩⟩, fun _ => sp⟩
        -- v' is alongside (t, r)
        have cross : t * v'.2 = r * v'.1 := by
          obtain ⟨j, j1, e1, e2⟩ := sp
          obtain ⟨i, i1, f1, f2⟩ := sc
          have f1 : v.1 = i * (k * (a * w.1 + b * w.2)) := f1
          have f2 : v.2 = i * (k * (e * w.1 + f * w.2)) := f2
          have x1 : j * (t * v'.2) = j * (r * v'.1) := by
            have y1 : j * (t * v'.2) = t * v.2 := by rw [e2]; grind
            have y2 : j * (r * v'.1) = r * v.1 := by rw [e1]; grind
            rw [y1, y2, f1, f2]
            have y3 : t * (i * (k * (e * w.1 + f * w.2))) = i * k * (t * (e * w.1 + f * w.2)) := by grind
            have y4 : r * (i * (k * (a * w.1 + b * w.2))) = i * k * (r * (a * w.1 + b * w.2)) := by grind
            rw [y3, y4, cr]
          exact Int.eq_of_mul_eq_mul_left (by omega) x1
        obtain ⟨k2, g1, g2⟩ := par_mult nt'.2.2 hg cross
        by_cases hk2 : k2 = 0
        · left
          rw [hk2, Int.zero_mul] at g1 g2
          obtain ⟨z1, z2⟩ := nz g1 g2
          refine ⟨g2, ?_⟩
          obtain ⟨j, j1, _, e2⟩ := sp
          obtain ⟨i, i1, _, f2⟩ := sc
          have f2 : v.2 = i * (k * (e * w.1 + f * w.2)) := f2
          rw [z1, z2, Int.zero_mul, Int.zero_mul, Int.add_zero, Int.mul_zero, Int.mul_zero, e2] at f2
          rcases Int.mul_eq_zero.mp f2 with y | y
          · omega
          · exact y
        · exact .inr ⟨k2, hk2, g1, g2⟩
    by_cases he : e ≠ 0
    · rw [if_pos he]
      refine rest a e (by omega) (by omega) ?_ fun _ z => absurd z he
      have : a * (e * w.1 + f * w.2) = a * e * w.1 + (a * f) * w.2 := by grind
      rw [this, hd]
      grind
    · rw [if_neg he]
      have he : e = 0 := Classical.not_not.mp he
      subst he
      rw [Int.mul_zero] at hd
      refine rest b f (by omega) (by omega) ?_ fun _ z => ⟨rfl, z⟩
      have : f * (a * w.1 + b * w.2) = (a * f) * w.1 + f * b * w.2 := by grind
      rw [this, hd]
      grind
/-- both children have begun -/
def eightC (a b c d e f g h : Int) (s : Bool) (u y v : Int × Int) (S : Int) : Prop :=
  J8 (a.natAbs : Int) ((a + b).natAbs : Int) ((a + c).natAbs : Int) ((a + b + c + d).natAbs : Int) u.1 u.2 y.1 y.2 S ∧ J8 (e.natAbs : Int) ((e + f).natAbs : Int) ((e + g).natAbs : Int) ((e + f + g + h).natAbs : Int) u.1 u.2 y.1 y.2 S ∧
  (s = true → NTold v ∧ ∃ k : Int, (k = 1 ∨ k = -1) ∧ v = (k * (a * u.1 * y.1 + b * u.1 * y.2 + c * u.2 * y.1 + d * u.2 * y.2), k * (e * u.1 * y.1 + f * u.1 * y.2 + g * u.2 * y.1 + h * u.2 * y.2)) ∧
    (0 ≤ k * e ∧ k * e ≤ k * a) ∧ (0 ≤ k * (e + f) ∧ k * (e + f) ≤ k * (a + b)) ∧ (0 ≤ k * (e + g) ∧ k * (e + g) ≤ k * (a + c)) ∧ (0 ≤ k * (e + f + g + h) ∧ k * (e + f + g + h) ≤ k * (a + b + c + d)))
theorem eightC.swap {a b c d e f g h : Int} {s : Bool} {u y v : Int × Int} {S : Int} (H : eightC a b c d e f g h s u y v S) : eightC a c b d e g f h s y u v S := by
  obtain ⟨j1, j2, hv⟩ := H
  have e1 : a + c + b + d = a + b + c + d := by omega
  have e2 : e + g + f + h = e + f + g + h := by omega
  refine ⟨by rw [e1]; exact j1.swap, by rw [e2]; exact j2.swap, fun z => ?_⟩
  obtain ⟨nt, k, hk, ev, k1, k2, k3, k4⟩ := hv z
  refine ⟨nt, k, hk, ?_, k1, k3, k2, by rw [e1, e2]; exact k4⟩
  rw [ev]
  refine Prod.ext ?_ ?_
  · show k * (a * u.1 * y.1 + b * u.1 * y.2 + c * u.2 * y.1 + d * u.2 * y.2) = k * (a * y.1 * u.1 + c * y.1 * u.2 + b * y.2 * u.1 + d * y.2 * u.2)
    grind
  · show k * (e * u.1 * y.1 + f * u.1 * y.2 + g * u.2 * y.1 + h * u.2 * y.2) = k * (e * y.1 * u.1 + g * y.1 * u.2 + f * y.2 * u.1 + h * y.2 * u.2)
    grind
theorem J8.scale {p00 p01 p10 p11 ax gx ax' gx' ay gy k S : Int} (h : J8 p00 p01 p10 p11 ax gx ay gy S) (n00 : 0 ≤ p00) (n01 : 0 ≤ p01) (n10 : 0 ≤ p10) (n11 : 0 ≤ p11) (wy0 : 0 ≤ ay - gy) (wy1 : 0 ≤ gy) (k1 : 1 ≤ k) (e1 : ax = k * ax') (e2 : gx = k * gx') (g0 : 0 ≤ gx') (ga : gx' ≤ ax') : J8 p00 p01 p10 p11 ax' gx' ay gy S := by
  have nn : ∀ {x y : Int}, 0 ≤ x → 0 ≤ y → 0 ≤ x * (ay - gy) + y * gy := fun hx hy => by
    have := Int.mul_nonneg hx wy0
    have := Int.mul_nonneg hy wy1
    omega
  have f : J2 (p00 * (ay - gy) + p01 * gy) (p10 * (ay - gy) + p11 * gy) ax' gx' S := J2.scale ⟨h.full, h.y0, h.y1⟩ (nn n00 n01) (nn n10 n11) k1 e1 e2 g0 ga
  have t0 : J2 p00 p10 ax gx (2 * S) := ⟨h.x0, by have := h.c00; omega, by have := h.c10; omega⟩
  have t1 : J2 p01 p11 ax gx (3 * S) := ⟨h.x1, by have := h.c01; omega, by have := h.c11; omega⟩
  exact ⟨f.1, h.y0, h.y1, (t0.scale n00 n10 k1 e1 e2 g0 ga).1, (t1.scale n01 n11 k1 e1 e2 g0 ga).1, h.c00, h.c01, h.c10, h.c11⟩
theorem eightC.scale {a b c d e f g h : Int} {s : Bool} {u u' y v : Int × Int} {S : Int} (H : eightC a b c d e f g h s u y v S) (hy : NTold y) (hu' : NTold u') (sc : Sc u u') : ∃ v', eightC a b c d e f g h s u' y v' S ∧ (s = true → Sc v v') := by
  obtain ⟨j1, j2, hv⟩ := H
  obtain ⟨k, k1, e1, e2⟩ := id sc
  have j1' := j1.scale (by omega) (by omega) (by omega) (by omega) (by have := hy.2.1; omega) hy.1 k1 e1 e2 hu'.1 hu'.2.1
  have j2' := j2.scale (by omega) (by omega) (by omega) (by omega) (by have := hy.2.1; omega) hy.1 k1 e1 e2 hu'.1 hu'.2.1
  cases s with
  | false => exact ⟨v, ⟨j1', j2', fun z => (by cases z)⟩, fun z => (by cases z)⟩
  | true =>
    obtain ⟨nt, i, hi, ev, c1⟩ := hv rfl
    have sv : Sc v (i * (a * u'.1 * y.1 + b * u'.1 * y.2 + c * u'.2 * y.1 + d * u'.2 * y.2), i * (e * u'.1 * y.1 + f * u'.1 * y.2 + g * u'.2 * y.1 + h * u'.2 * y.2)) := by
      refine ⟨k, k1, ?_, ?_⟩
      · rw [ev]
        show i * (a * u.1 * y.1 + b * u.1 * y.2 + c * u.2 * y.1 + d * u.2 * y.2) = k * (i * (a * u'.1 * y.1 + b * u'.1 * y.2 + c * u'.2 * y.1 + d * u'.2 * y.2))
        rw [e1, e2]; grind
      · rw [ev]
        show i * (e * u.1 * y.1 + f * u.1 * y.2 + g * u.2 * y.1 + h * u.2 * y.2) = k * (i * (e * u'.1 * y.1 + f * u'.1 * y.2 + g * u'.2 * y.1 + h * u'.2 * y.2))
        rw [e1, e2]; grind
    exact ⟨_, ⟨j1', j2', fun _ => ⟨nt.scale sv, i, hi, rfl, c1⟩⟩, fun _ => sv⟩
/-! ### nested boxes: every asking of an eight ends -/
theorem eightC.take {a b c d e f g h q : Int} {s : Bool} {u y v : Int × Int} {S : Int} (H : eightC a b c d e f g h s u y v S) (hy : NTold y) (hu : NTold u) (g1 : 0 < u.2) (q1 : 1 ≤ q) (lo : q * u.2 ≤ u.1) (hi : u.1 ≤ (q + 1) * u.2) : eightC (a * q + c) (b * q + d) a b (e * q + g) (f * q + h) e f s (u.2, u.1 - q * u.2) y v S := by
  obtain ⟨j1, j2, hv⟩ := H
  have two : ∀ (x z : Int), ((x * q + z).natAbs : Int) ≤ (q - 1) * (x.natAbs : Int) + ((x + z).natAbs : Int) ∧ ((x * q + z + x).natAbs : Int) ≤ q * (x.natAbs : Int) + ((x + z).natAbs : Int) := fun x z => by
    have n1 := abs_mul_nn (x := x) (y := q - 1) (by omega)
    have n2 := abs_mul_nn (x := x) (y := q) (by omega)
    have c1 : (x.natAbs : Int) * (q - 1) = (q - 1) * (x.natAbs : Int) := Int.mul_comm _ _
    have c2 : (x.natAbs : Int) * q = q * (x.natAbs : Int) := Int.mul_comm _ _
    have e1 : x * q + z = x * (q - 1) + (x + z) := by grind
    have e2 : x * q + z + x = x * q + (x + z) := by omega
    exact ⟨by rw [e1]; omega, by rw [e2]; omega⟩
  have key : ∀ {a b c d : Int}, J8 (a.natAbs : Int) ((a + b).natAbs : Int) ((a + c).natAbs : Int) ((a + b + c + d).natAbs : Int) u.1 u.2 y.1 y.2 S → J8 ((a * q + c).natAbs : Int) ((a * q + c + (b * q + d)).natAbs : Int) ((a * q + c + a).natAbs : Int) ((a * q + c + (b * q + d) + a + b).natAbs : Int) u.2 (u.1 - q * u.2) y.1 y.2 S := fun {a b c d} J => by
    obtain ⟨t1, t2⟩ := two a c
    obtain ⟨t3, t4⟩ := two (a + b) (c + d)
    have e0 : a + b + (c + d) = a + b + c + d := by omega
    have e1 : a * q + c + (b * q + d) = (a + b) * q + (c + d) := by grind
    have e2 : a * q + c + (b * q + d) + a + b = (a + b) * q + (c + d) + (a + b) := by grind
    rw [e0] at t3 t4
    rw [e2, e1]
    exact J.take (by omega) (by omega) (by omega) (by omega) (by omega) (by omega) (by omega) (by omega) (by have := hy.2.1; omega) hy.1 (by omega) hu.2.1 q1 lo hi t1 t2 (by omega) (by omega) t3 t4 (by omega) (by omega)
  refine ⟨key j1, key j2, fun z => ?_⟩
  obtain ⟨nt, k, hk, ev, k1, k2, k3, k4⟩ := hv z
  have cone : ∀ {p r p' r' : Int}, (0 ≤ k * r ∧ k * r ≤ k * p) → (0 ≤ k * r' ∧ k * r' ≤ k * p') → ∀ m : Int, 0 ≤ m → 0 ≤ k * (r * m + r') ∧ k * (r * m + r') ≤ k * (p * m + p') := fun {p r p' r'} h1 h2 m hm => by
    have m1 := Int.mul_le_mul_of_nonneg_right h1.2 hm
    have m2 := Int.mul_nonneg h1.1 hm
    have e1 : k * (r * m + r') = k * r * m + k * r' := by grind
    have e2 : k * (p * m + p') = k * p * m + k * p' := by grind
    exact ⟨by omega, by omega⟩
  refine ⟨nt, k, hk, ?_, ?_, ?_, ?_, ?_⟩
  · rw [ev]
    refine Prod.ext ?_ ?_
    · show k * (a * u.1 * y.1 + b * u.1 * y.2 + c * u.2 * y.1 + d * u.2 * y.2) = k * ((a * q + c) * u.2 * y.1 + (b * q + d) * u.2 * y.2 + a * (u.1 - q * u.2) * y.1 + b * (u.1 - q * u.2) * y.2)
      grind
    · show k * (e * u.1 * y.1 + f * u.1 * y.2 + g * u.2 * y.1 + h * u.2 * y.2) = k * ((e * q + g) * u.2 * y.1 + (f * q + h) * u.2 * y.2 + e * (u.1 - q * u.2) * y.1 + f * (u.1 - q * u.2) * y.2)
      grind
  · have := cone k1 k3 (q - 1) (by omega)
    rw [show e * q + g = e * (q - 1) + (e + g) by grind, show a * q + c = a * (q - 1) + (a + c) by grind]
    exact this
  · have := cone k2 k4 (q - 1) (by omega)
    rw [show e * q + g + (f * q + h) = (e + f) * (q - 1) + (e + f + g + h) by grind, show a * q + c + (b * q + d) = (a + b) * (q - 1) + (a + b + c + d) by grind]
    exact this
  · have := cone k1 k3 q (by omega)
    rw [show e * q + g + e = e * q + (e + g) by omega, show a * q + c + a = a * q + (a + c) by omega]
    exact this
  · have := cone k2 k4 q (by omega)
    rw [show e * q + g + (f * q + h) + e + f = (e + f) * q + (e + f + g + h) by grind, show a * q + c + (b * q + d) + a + b = (a + b) * q + (a + b + c + d) by grind]
    exact this
theorem eight_fit {a b c d e f g h S : Int} {u y v : Int × Int} {s : Bool} (H : eightC a b c d e f g h s u y v S) (hS : 64 * S ≤ cap) : allFit [a, b, c, d, e, f, g, h] (eightCorners [a, b, c, d, e, f, g, h]) = true := by
  obtain ⟨j1, j2, _⟩ := H
  have q1 := j1.c00
  have q2 := j1.c01
  have q3 := j1.c10
  have q4 := j1.c11
  have q5 := j2.c00
  have q6 := j2.c01
  have q7 := j2.c10
  have q8 := j2.c11
  have F : ∀ {z : Int}, (z.natAbs : Int) ≤ 64 * S → decide (fits z) = true := fun {z} hz => decide_eq_true (cap_fits (by omega))
  show ([a, b, c, d, e, f, g, h].all (fun z => decide (fits z)) && [(a, e), (a + b, e + f), (a + c, e + g), (a + b + c + d, e + f + g + h)].all fun c => decide (fits c.1) && decide (fits c.2)) = true
  simp only [List.all_cons, List.all_nil, F (z := a) (by omega), F (z := b) (by omega), F (z := c) (by omega), F (z := d) (by omega), F (z := e) (by omega), F (z := f) (by omega), F (z := g) (by omega), F (z := h) (by omega), F (z := a + b) (by omega), F (z := a + c) (by omega), F (z := a + b + c + d) (by omega), F (z := e + f) (by omega), F (z := e + g) (by omega), F (z := e + f + g + h) (by omega), Bool.and_self]
/-- the sure part of four corners, at any place between -/
theorem eight_sure {a b c d e f g h q : Int} {u y : Int × Int} (hs : surePart (eightCorners [a, b, c, d, e, f, g, h]) = some q) (hu : NTold u) (hy : NTold y) : ∃ k : Int, (k = 1 ∨ k = -1) ∧
    (0 < k * e ∧ q * (k * e) ≤ k * a ∧ k * a < (q + 1) * (k * e)) ∧ (0 < k * (e + f) ∧ q * (k * (e + f)) ≤ k * (a + b) ∧ k * (a + b) ≤ (q + 1) * (k * (e + f))) ∧ (0 < k * (e + g) ∧ q * (k * (e + g)) ≤ k * (a + c) ∧ k * (a + c) ≤ (q + 1) * (k * (e + g))) ∧
    (0 < k * (e + f + g + h) ∧ q * (k * (e + f + g + h)) ≤ k * (a + b + c + d) ∧ k * (a + b + c + d) ≤ (q + 1) * (k * (e + f + g + h))) ∧
    0 < k * (e * u.1 * y.1 + f * u.1 * y.2 + g * u.2 * y.1 + h * u.2 * y.2) ∧ q * (k * (e * u.1 * y.1 + f * u.1 * y.2 + g * u.2 * y.1 + h * u.2 * y.2)) ≤ k * (a * u.1 * y.1 + b * u.1 * y.2 + c * u.2 * y.1 + d * u.2 * y.2) ∧
    k * (a * u.1 * y.1 + b * u.1 * y.2 + c * u.2 * y.1 + d * u.2 * y.2) ≤ (q + 1) * (k * (e * u.1 * y.1 + f * u.1 * y.2 + g * u.2 * y.1 + h * u.2 * y.2)) := by
  have hs := (sure_iff (cs := eightCorners [a, b, c, d, e, f, g, h]) (by exact List.cons_ne_nil _ _)).mp hs
  have key : ∀ {x1 z1 x2 z2 x3 z3 x4 z4 : Int}, Lies [(x1, z1), (x2, z2), (x3, z3), (x4, z4)] q → (0 < z1 ∧ q * z1 ≤ x1 ∧ x1 < (q + 1) * z1) ∧ (0 < z2 ∧ q * z2 ≤ x2 ∧ x2 ≤ (q + 1) * z2) ∧ (0 < z3 ∧ q * z3 ≤ x3 ∧ x3 ≤ (q + 1) * z3) ∧ (0 < z4 ∧ q * z4 ≤ x4 ∧ x4 ≤ (q + 1) * z4) := fun {x1 z1 x2 z2 x3 z3 x4 z4} L => by
    obtain ⟨L1, L2⟩ := L
    have p1 := L1 (x1, z1) (by simp)
    have p3 := L2 (x1, z1) rfl
    exact ⟨⟨p1.1, p1.2.1, p3⟩, L1 (x2, z2) (by simp), L1 (x3, z3) (by simp), L1 (x4, z4) (by simp)⟩
  obtain ⟨k, hk, s1, s2, s3, s4⟩ : ∃ k : Int, (k = 1 ∨ k = -1) ∧
    (0 < k * e ∧ q * (k * e) ≤ k * a ∧ k * a < (q + 1) * (k * e)) ∧ (0 < k * (e + f) ∧ q * (k * (e + f)) ≤ k * (a + b) ∧ k * (a + b) ≤ (q + 1) * (k * (e + f))) ∧ (0 < k * (e + g) ∧ q * (k * (e + g)) ≤ k * (a + c) ∧ k * (a + c) ≤ (q + 1) * (k * (e + g))) ∧
    (0 < k * (e + f + g + h) ∧ q * (k * (e + f + g + h)) ≤ k * (a + b + c + d) ∧ k * (a + b + c + d) ≤ (q + 1) * (k * (e + f + g + h))) := by
    rcases hs with L | L
    · refine ⟨1, .inl rfl, ?_⟩
      simp only [Int.one_mul]
      exact key L
    · refine ⟨-1, .inr rfl, ?_⟩
      have L : Lies [(-a, -e), (-(a + b), -(e + f)), (-(a + c), -(e + g)), (-(a + b + c + d), -(e + f + g + h))] q := L
      have m : ∀ z : Int, -1 * z = -z := fun z => by omega
      simp only [m]
      exact key L
  refine ⟨k, hk, s1, s2, s3, s4, ?_⟩
  obtain ⟨u0, u1, u2⟩ := hu
  obtain ⟨y0, y1, y2⟩ := hy
  have W0 := Int.mul_nonneg (show 0 ≤ u.1 - u.2 by omega) (show 0 ≤ y.1 - y.2 by omega)
  have W1 := Int.mul_nonneg (show 0 ≤ u.1 - u.2 by omega) y0
  have W2 := Int.mul_nonneg u0 (show 0 ≤ y.1 - y.2 by omega)
  have W3 := Int.mul_nonneg u0 y0
  have sumW : (u.1 - u.2) * (y.1 - y.2) + (u.1 - u.2) * y.2 + u.2 * (y.1 - y.2) + u.2 * y.2 = u.1 * y.1 := by grind
  have pW : 1 * 1 ≤ u.1 * y.1 := Int.mul_le_mul u2 y2 (by decide) (by omega)
  have ec : k * (e * u.1 * y.1 + f * u.1 * y.2 + g * u.2 * y.1 + h * u.2 * y.2) = (k * e) * ((u.1 - u.2) * (y.1 - y.2)) + (k * (e + f)) * ((u.1 - u.2) * y.2) + (k * (e + g)) * (u.2 * (y.1 - y.2)) + (k * (e + f + g + h)) * (u.2 * y.2) := by grind
  have ea : k * (a * u.1 * y.1 + b * u.1 * y.2 + c * u.2 * y.1 + d * u.2 * y.2) = (k * a) * ((u.1 - u.2) * (y.1 - y.2)) + (k * (a + b)) * ((u.1 - u.2) * y.2) + (k * (a + c)) * (u.2 * (y.1 - y.2)) + (k * (a + b + c + d)) * (u.2 * y.2) := by grind
  rw [ec, ea]
  generalize (u.1 - u.2) * (y.1 - y.2) = w0 at *
  generalize (u.1 - u.2) * y.2 = w1 at *
  generalize u.2 * (y.1 - y.2) = w2 at *
  generalize u.2 * y.2 = w3 at *
  generalize k * e = z0 at *
  generalize k * (e + f) = z1 at *
  generalize k * (e + g) = z2 at *
  generalize k * (e + f + g + h) = z3 at *
  generalize k * a = x0 at *
  generalize k * (a + b) = x1 at *
  generalize k * (a + c) = x2 at *
  generalize k * (a + b + c + d) = x3 at *
  have ml : ∀ {x z w' : Int}, x ≤ z → 0 ≤ w' → x * w' ≤ z * w' := fun h1 h2 => Int.mul_le_mul_of_nonneg_right h1 h2
  have a0 := ml (show 1 ≤ z0 by omega) W0
  have a1 := ml (show 1 ≤ z1 by omega) W1
  have a2 := ml (show 1 ≤ z2 by omega) W2
  have a3 := ml (show 1 ≤ z3 by omega) W3
  have b0 := ml s1.2.1 W0
  have b1 := ml s2.2.1 W1
  have b2 := ml s3.2.1 W2
  have b3 := ml s4.2.1 W3
  have c0 := ml (Int.le_of_lt s1.2.2) W0
  have c1 := ml s2.2.2 W1
  have c2 := ml s3.2.2 W2
  have c3 := ml s4.2.2 W3
  have e1 : q * (z0 * w0 + z1 * w1 + z2 * w2 + z3 * w3) = q * z0 * w0 + q * z1 * w1 + q * z2 * w2 + q * z3 * w3 := by grind
  have e2 : (q + 1) * (z0 * w0 + z1 * w1 + z2 * w2 + z3 * w3) = (q + 1) * z0 * w0 + (q + 1) * z1 * w1 + (q + 1) * z2 * w2 + (q + 1) * z3 * w3 := by grind
  exact ⟨by omega, by omega, by omega⟩
/-- a part told -/
theorem eightC.tell {a b c d e f g h q k : Int} {s : Bool} {u y v v' : Int × Int} {S : Int} (H : eightC a b c d e f g h s u y v S) (hu : NTold u) (hy : NTold y) (hk : k = 1 ∨ k = -1) (s1 : 0 < k * e ∧ q * (k * e) ≤ k * a ∧ k * a < (q + 1) * (k * e)) (s2 : 0 < k * (e + f) ∧ q * (k * (e + f)) ≤ k * (a + b) ∧ k * (a + b) ≤ (q + 1) * (k * (e + f))) (s3 : 0 < k * (e + g) ∧ q * (k * (e + g)) ≤ k * (a + c) ∧ k * (a + c) ≤ (q + 1) * (k * (e + g)))
    (s4 : 0 < k * (e + f + g + h) ∧ q * (k * (e + f + g + h)) ≤ k * (a + b + c + d) ∧ k * (a + b + c + d) ≤ (q + 1) * (k * (e + f + g + h))) (nt : NTold v') (ev : v' = (k * (e * u.1 * y.1 + f * u.1 * y.2 + g * u.2 * y.1 + h * u.2 * y.2), k * (a * u.1 * y.1 + b * u.1 * y.2 + c * u.2 * y.1 + d * u.2 * y.2) - q * (k * (e * u.1 * y.1 + f * u.1 * y.2 + g * u.2 * y.1 + h * u.2 * y.2)))) :
    eightC e f g h (a - q * e) (b - q * f) (c - q * g) (d - q * h) true u y v' S := by
  obtain ⟨j1, j2, _⟩ := H
  have sub : ∀ {x z : Int}, 0 < k * z → q * (k * z) ≤ k * x → k * x ≤ (q + 1) * (k * z) → ((x - q * z).natAbs : Int) ≤ (z.natAbs : Int) ∧ 0 ≤ k * (x - q * z) ∧ k * (x - q * z) ≤ k * z := fun {x z} h1 h2 h3 => by
    have e1 : k * (x - q * z) = k * x - q * (k * z) := by grind
    have e2 : (q + 1) * (k * z) = q * (k * z) + k * z := by grind
    refine ⟨?_, by omega, by omega⟩
    rcases hk with rfl | rfl <;> omega
  have t1 := sub s1.1 s1.2.1 (Int.le_of_lt s1.2.2)
  have t2 := sub s2.1 s2.2.1 s2.2.2
  have t3 := sub s3.1 s3.2.1 s3.2.2
  have t4 := sub s4.1 s4.2.1 s4.2.2
  have e2 : a - q * e + (b - q * f) = a + b - q * (e + f) := by grind
  have e3 : a - q * e + (c - q * g) = a + c - q * (e + g) := by grind
  have e4 : a - q * e + (b - q * f) + (c - q * g) + (d - q * h) = a + b + c + d - q * (e + f + g + h) := by grind
  refine ⟨j2, ?_, fun _ => ⟨nt, k, hk, ?_, t1.2, ?_, ?_, ?_⟩⟩
  · rw [e4, e3, e2]
    exact j2.less (by have := hu.2.1; omega) hu.1 (by have := hy.2.1; omega) hy.1 t1.1 t2.1 t3.1 t4.1
  · rw [ev]
    refine Prod.ext rfl ?_
    show k * (a * u.1 * y.1 + b * u.1 * y.2 + c * u.2 * y.1 + d * u.2 * y.2) - q * (k * (e * u.1 * y.1 + f * u.1 * y.2 + g * u.2 * y.1 + h * u.2 * y.2)) = k * ((a - q * e) * u.1 * y.1 + (b - q * f) * u.1 * y.2 + (c - q * g) * u.2 * y.1 + (d - q * h) * u.2 * y.2)
    grind
  · rw [e2]; exact t2.2
  · rw [e3]; exact t3.2
  · rw [e4]; exact t4.2
/-! ### nested boxes: the loop of an eight -/
theorem J8.fin {p00 p01 p10 p11 ax ay gy S : Int} (h : J8 p00 p01 p10 p11 ax 0 ay gy S) (n00 : 0 ≤ p00) (n01 : 0 ≤ p01) (wy0 : 0 ≤ ay - gy) (wy1 : 0 ≤ gy) (a1 : 1 ≤ ax) : J2 p00 p01 ay gy S := by
  have f := h.full
  have x0 := h.x0
  have x1 := h.x1
  rw [Int.mul_zero, Int.add_zero, Int.sub_zero] at f x0 x1
  have z1 := Int.mul_nonneg n00 wy0
  have z2 := Int.mul_nonneg n01 wy1
  have y := Int.mul_le_mul_of_nonneg_left a1 (show 0 ≤ p00 * (ay - gy) + p01 * gy by omega)
  have y0 := Int.mul_le_mul_of_nonneg_left a1 n00
  have y1 := Int.mul_le_mul_of_nonneg_left a1 n01
  exact ⟨by omega, by omega, by omega⟩
theorem eightC.bd {a b c d e f g h : Int} {s : Bool} {u y v : Int × Int} {S M : Int} (H : eightC a b c d e f g h s u y v S) (hu : NTold u) (hy : NTold y) (hM : S ≤ M) (k : Int) (hk : k = 1 ∨ k = -1) : NBd M (k * (a * u.1 * y.1 + b * u.1 * y.2 + c * u.2 * y.1 + d * u.2 * y.2), k * (e * u.1 * y.1 + f * u.1 * y.2 + g * u.2 * y.1 + h * u.2 * y.2)) := by
  have t1 := H.1.val hu hy
  have t2 := H.2.1.val hu hy
  generalize a * u.1 * y.1 + b * u.1 * y.2 + c * u.2 * y.1 + d * u.2 * y.2 = z1 at *
  generalize e * u.1 * y.1 + f * u.1 * y.2 + g * u.2 * y.1 + h * u.2 * y.2 = z2 at *
  rcases hk with rfl | rfl
  · exact ⟨by show ((1 * z1).natAbs : Int) ≤ M; omega, by show ((1 * z2).natAbs : Int) ≤ M; omega⟩
  · exact ⟨by show ((-1 * z1).natAbs : Int) ≤ M; omega, by show ((-1 * z2).natAbs : Int) ≤ M; omega⟩
theorem eightC.bv {a b c d e f g h : Int} {s : Bool} {u y v : Int × Int} {S M : Int} (H : eightC a b c d e f g h s u y v S) (hu : NTold u) (hy : NTold y) (hM : S ≤ M) (z : s = true) : NTold v ∧ NBd M v := by
  obtain ⟨nt, k, hk, ev, _⟩ := H.2.2 z
  refine ⟨nt, ?_⟩
  rw [ev]
  exact H.bd hu hy hM k hk
/-- the first chain has ended -/
theorem eightC.fin {a b c d e f g h : Int} {s : Bool} {u w v : Int × Int} {S M My l : Int} {y : Box} (H : eightC a b c d e f g h s u w v S) (hu : NTold u) (g0 : u.2 = 0) (hy : Inv l y true w My) (m1 : 1 ≤ My) (m2 : My + 2 ≤ cap) (hM : 16 * S ≤ M) (hC : 64 * S ≤ cap) : ∃ v', Inv l (oneBox [a, b, e, f] s y) s v' M ∧ (s = true → Sc v v') := by
  have hw := hy.told.1
  have S0 : 0 ≤ S := by have := H.1.c00; omega
  obtain ⟨j1, j2, hv⟩ := id H
  rw [g0] at j1 j2
  refine one_inv hy m1 m2 (j1.fin (by omega) (by omega) (by have := hw.2.1; omega) hw.1 hu.2.2) (j2.fin (by omega) (by omega) (by have := hw.2.1; omega) hw.1 hu.2.2) hM hC fun z => ?_
  obtain ⟨nt, bv⟩ := H.bv hu hw (M := M) (by omega) z
  obtain ⟨_, k, hk, ev, k1, k2, _⟩ := hv z
  refine ⟨nt, bv, k, hk, ⟨u.1, hu.2.2, ?_, ?_⟩, k1, k2⟩
  · rw [ev, g0]
    show k * (a * u.1 * w.1 + b * u.1 * w.2 + c * 0 * w.1 + d * 0 * w.2) = u.1 * (k * (a * w.1 + b * w.2))
    grind
  · rw [ev, g0]
    show k * (e * u.1 * w.1 + f * u.1 * w.2 + g * 0 * w.1 + h * 0 * w.2) = u.1 * (k * (e * w.1 + f * w.2))
    grind
theorem eight_back {a b c d e f g h i j : Int} {s : Bool} {x y : Box} {u w v : Int × Int} {Mx My S M l : Int} (hj : 0 < j) (hij : i = j ∨ i = j + 1) (hx : Inv l x true u Mx) (hy : Inv l y true w My) (C : 1 ≤ Mx ∧ Mx + 2 ≤ cap ∧ 1 ≤ My ∧ My + 2 ≤ cap ∧ 16 * S ≤ M ∧ 64 * S ≤ cap) (H : eightC a b c d e f g h s u w v S) : Inv l (.eight [a, b, c, d, e, f, g, h] i j s x y) s v M := by
  have S0 : 0 ≤ S := by have := H.1.c00; omega
  refine ⟨rfl, a, b, c, d, e, f, g, h, u, w, Mx, My, 0, 0, S, rfl, by rw [decide_eq_true (show 0 < i by omega)]; exact hx, by rw [decide_eq_true hj]; exact hy, Int.le_refl _, C.1, C.2.1, C.2.2.1, C.2.2.2.1, by rw [Int.zero_mul]; decide, by rw [Int.zero_mul]; omega, C.2.2.2.2.1, C.2.2.2.2.2, by omega, hij, fun z => by omega, fun _ z => by omega, fun _ => ⟨H.1, H.2.1⟩, fun z => ⟨by omega, H.2.2 z⟩⟩
theorem eight_loop {n : Nat} {D : Int} (X : Tot D n) : ∀ (K : Nat) (a b c d e f g h i j : Int) (s : Bool) (x y : Box) (u w v : Int × Int) (Mx My S M l : Int), u.1 + u.2 + (w.1 + w.2) ≤ K → 0 ≤ l → x.wt + 1 ≤ n → y.wt + 1 ≤ n → x.Ok → y.Ok → x.kind ≠ 1 → y.kind ≠ 1 → 0 < j → (i = j ∨ i = j + 1) → Inv (l + D) x true u Mx → Inv (l + D) y true w My → (1 ≤ Mx ∧ Mx + 2 ≤ cap ∧ 1 ≤ My ∧ My + 2 ≤ cap ∧ 16 * S ≤ M ∧ 64 * S ≤ cap) → eightC a b c d e f g h s u w v S →
    ∃ o B' l', Asks (.eight [a, b, c, d, e, f, g, h] i j s x y) l o B' l' ∧ OutI (Inv (l' + D)) o B' s v M
  | K, a, b, c, d, e, f, g, h, i, j, s, x, y, u, w, v, Mx, My, S, M, l, hK, hl, wx, wy, okx, oky, kx, ky, hj, hij, hx, hy, C, H => by
    obtain ⟨hu, hbu⟩ := hx.told
    obtain ⟨hw, hbw⟩ := hy.told
    have S0 : 0 ≤ S := by have := H.1.c00; omega
    have hf := eight_fit H C.2.2.2.2.2
    have SM : S ≤ M := by have := C.2.2.2.2.1; omega
    have bv := fun z => (H.bv hu hw SM z).2
    have cond : 0 < i ∧ 0 < j := ⟨by omega, hj⟩
    cases hs : sureE [a, b, c, d, e, f, g, h] i j with
    | some q =>
      have hs' : surePart (eightCorners [a, b, c, d, e, f, g, h]) = some q := by
        have : sureE [a, b, c, d, e, f, g, h] i j = surePart (eightCorners [a, b, c, d, e, f, g, h]) := if_pos cond
        rw [← this]; exact hs
      obtain ⟨k, hk, s1, s2, s3, s4, w2, lo, hi⟩ := eight_sure hs' hu hw
      have bw := H.bd hu hw SM k hk
      obtain ⟨d1, d2⟩ := digit w2 lo hi bw
      refine ⟨_, _, _, .tell8 hf hs, fun z => (by cases z), fun z => (by cases z), fun z => (by cases z), fun q' z => ?_⟩
      cases z
      refine ⟨_, _, bw, w2, lo, hi, ?_, Sc.refl _, fun z => ?_⟩
      · rw [turned8]
        exact eight_back hj hij hx hy C (H.tell hu hw hk s1 s2 s3 s4 d1 rfl)
      · obtain ⟨nt, k', hk', ev, ⟨c1, c2⟩, _⟩ := H.2.2 z
        have ee : k' = k := by
          rcases hk with rfl | rfl <;> rcases hk' with rfl | rfl <;> omega
        subst ee
        refine ⟨ev.symm, ?_⟩
        rcases Int.lt_or_le 0 q with y | y
        · omega
        · have := Int.mul_le_mul_of_nonneg_right (show q + 1 ≤ 1 by omega) (Int.le_of_lt s1.1)
          omega
    | none =>
      by_cases hle : i ≤ j
      · obtain ⟨o, x', l1, ax, h0, hwt, hfin, hpart⟩ := X x l true u Mx (by omega) okx hl hx (fun _ => ⟨hu, hbu⟩)
        obtain ⟨n0, en0⟩ := askF_up ax
        obtain ⟨ok', wt', kd'⟩ := askF_ok okx (en0 n0 (Nat.le_refl _))
        have bl := ax.left hl
        have hy1 := hy.mono (l' := l1 + D) (by have := bl.2.1; omega)
        match o, ax, h0, hwt, hfin, hpart with
        | none, ax, h0, _, _, _ => exact absurd (h0 rfl).1 (by decide)
        | some .waits, ax, _, hwt, _, _ =>
          obtain ⟨u', hx', sc⟩ := hwt rfl
          obtain ⟨v', H', sv⟩ := H.scale hw hx'.told.1 (sc rfl)
          exact ⟨_, _, _, .wait0 hf hs hle ax, fun z => (by cases z), fun _ => ⟨v', eight_back hj hij hx' hy1 C H', sv⟩, fun z => (by cases z), fun q z => (by cases z)⟩
        | some .fin, ax, _, _, hfin, _ =>
          obtain ⟨_, g0, _⟩ := hfin rfl
          obtain ⟨v', hr, sv⟩ := H.fin hu g0 hy1 C.2.2.1 C.2.2.2.1 C.2.2.2.2.1 C.2.2.2.2.2
          obtain ⟨okr, wtr, _⟩ := oneBox_ok (ns := [a, b, e, f]) (told := s) (x := y) rfl oky ky
          obtain ⟨o2, r2, l2, a2, out⟩ := X _ l1 s v' M (by omega) okr bl.1 hr (fun z => by cases s with | true => exact hr.told | false => cases z)
          exact ⟨o2, .eightR r2, l2, .fin0 hf hs hle ax (.rest a2), (out.map fun _ _ _ z => z).scale fun z => ⟨sv z, bv z⟩⟩
        | some (.part q), ax, _, _, _, hpart =>
          obtain ⟨z, u', bw, w2, lo, hi, hx', sc, ws⟩ := hpart q rfl
          obtain ⟨rfl, q1⟩ := ws rfl
          have fq := first_fits w2 lo hi bw C.2.1
          obtain ⟨hu', _⟩ := hx'.told
          obtain ⟨v', H', sv⟩ := (H.take hw hu w2 q1 lo hi).scale hw hu' sc
          have sm : u'.1 + u'.2 ≤ z.2 + (z.1 - q * z.2) := sc.sum hu'
          have y1 := Int.mul_le_mul_of_nonneg_right q1 (show 0 ≤ z.2 by omega)
          match K, hK with
          | 0, hK => obtain ⟨_, _, _⟩ := hw; omega
          | K + 1, hK =>
            obtain ⟨o2, B2, l2, a2, out⟩ := eight_loop X K _ _ _ _ _ _ _ _ (i + 1) j s x' y u' w v' Mx My S M l1 (by omega) bl.1 (by omega) wy ok' oky (by rw [kd']; exact kx) ky hj (by omega) hx' hy1 C H'
            exact ⟨o2, B2, l2, .part0 hf hs hle ax fq a2, out.scale fun z => ⟨sv z, bv z⟩⟩
      · obtain ⟨o, y', l1, ax, h0, hwt, hfin, hpart⟩ := X y l true w My (by omega) oky hl hy (fun _ => ⟨hw, hbw⟩)
        obtain ⟨n0, en0⟩ := askF_up ax
        obtain ⟨ok', wt', kd'⟩ := askF_ok oky (en0 n0 (Nat.le_refl _))
        have bl := ax.left hl
        have hx1 := hx.mono (l' := l1 + D) (by have := bl.2.1; omega)
        match o, ax, h0, hwt, hfin, hpart with
        | none, ax, h0, _, _, _ => exact absurd (h0 rfl).1 (by decide)
        | some .waits, ax, _, hwt, _, _ =>
          obtain ⟨w', hy', sc⟩ := hwt rfl
          obtain ⟨v', H', sv⟩ := H.swap.scale hu hy'.told.1 (sc rfl)
          exact ⟨_, _, _, .wait1 hf hs hle ax, fun z => (by cases z), fun _ => ⟨v', eight_back hj hij hx1 hy' C H'.swap, sv⟩, fun z => (by cases z), fun q z => (by cases z)⟩
        | some .fin, ax, _, _, hfin, _ =>
          obtain ⟨_, g0, _⟩ := hfin rfl
          obtain ⟨v', hr, sv⟩ := H.swap.fin hw g0 hx1 C.1 C.2.1 C.2.2.2.2.1 C.2.2.2.2.2
          obtain ⟨okr, wtr, _⟩ := oneBox_ok (ns := [a, c, e, g]) (told := s) (x := x) rfl okx kx
          obtain ⟨o2, r2, l2, a2, out⟩ := X _ l1 s v' M (by omega) okr bl.1 hr (fun z => by cases s with | true => exact hr.told | false => cases z)
          exact ⟨o2, .eightR r2, l2, .fin1 hf hs hle ax (.rest a2), (out.map fun _ _ _ z => z).scale fun z => ⟨sv z, bv z⟩⟩
        | some (.part q), ax, _, _, _, hpart =>
          obtain ⟨z, w', bw, w2, lo, hi, hy', sc, ws⟩ := hpart q rfl
          obtain ⟨rfl, q1⟩ := ws rfl
          have fq := first_fits w2 lo hi bw C.2.2.2.1
          obtain ⟨hw', _⟩ := hy'.told
          obtain ⟨v', H', sv⟩ := (H.swap.take hu hw w2 q1 lo hi).scale hu hw' sc
          have sm : w'.1 + w'.2 ≤ z.2 + (z.1 - q * z.2) := sc.sum hw'
          have y1 := Int.mul_le_mul_of_nonneg_right q1 (show 0 ≤ z.2 by omega)
          match K, hK with
          | 0, hK => obtain ⟨_, _, _⟩ := hu; omega
          | K + 1, hK =>
            obtain ⟨o2, B2, l2, a2, out⟩ := eight_loop X K _ _ _ _ _ _ _ _ i (j + 1) s x y' u w' v' Mx My S M l1 (by omega) bl.1 wx (by omega) okx ok' kx (by rw [kd']; exact ky) (by omega) (by omega) hx1 hy' C H'.swap
            exact ⟨o2, B2, l2, .part1 hf hs hle ax fq a2, out.scale fun z => ⟨sv z, bv z⟩⟩
/-! ### nested boxes: every asking ends -/
theorem eight_fit0 {a b c d e f g h m : Int} (hm : ∀ z ∈ [a, b, c, d, e, f, g, h], (z.natAbs : Int) ≤ m) (hC : 4 * m ≤ cap) : allFit [a, b, c, d, e, f, g, h] (eightCorners [a, b, c, d, e, f, g, h]) = true := by
  have m1 := hm a (by simp)
  have m2 := hm b (by simp)
  have m3 := hm c (by simp)
  have m4 := hm d (by simp)
  have m5 := hm e (by simp)
  have m6 := hm f (by simp)
  have m7 := hm g (by simp)
  have m8 := hm h (by simp)
  have F : ∀ {z : Int}, (z.natAbs : Int) ≤ 4 * m → decide (fits z) = true := fun {z} hz => decide_eq_true (cap_fits (by omega))
  show ([a, b, c, d, e, f, g, h].all (fun z => decide (fits z)) && [(a, e), (a + b, e + f), (a + c, e + g), (a + b + c + d, e + f + g + h)].all fun c => decide (fits c.1) && decide (fits c.2)) = true
  simp only [List.all_cons, List.all_nil, F (z := a) (by omega), F (z := b) (by omega), F (z := c) (by omega), F (z := d) (by omega), F (z := e) (by omega), F (z := f) (by omega), F (z := g) (by omega), F (z := h) (by omega), F (z := a + b) (by omega), F (z := a + c) (by omega), F (z := a + b + c + d) (by omega), F (z := e + f) (by omega), F (z := e + g) (by omega), F (z := e + f + g + h) (by omega), Bool.and_self]
/-- the second child's first part, by the corners of the first one -/
theorem J8.start {a b c d S1 S My q : Int} {u z w' : Int × Int} (J1 : J2 (a.natAbs : Int) ((a + c).natAbs : Int) u.1 u.2 S1) (J3 : J2 (b.natAbs : Int) ((b + d).natAbs : Int) u.1 u.2 S1) (hu : NTold u) (hS : 4 * (S1 * My) ≤ S) (z2 : 0 < z.2) (lo : q * z.2 ≤ z.1) (hi : z.1 ≤ (q + 1) * z.2) (bz : NBd My z) (sc : Sc (z.2, z.1 - q * z.2) w') (hw' : NTold w') :
    J8 ((a * q + b).natAbs : Int) ((a * q + b + a).natAbs : Int) ((a * q + b + (c * q + d)).natAbs : Int) ((a * q + b + a + (c * q + d) + c).natAbs : Int) u.1 u.2 w'.1 w'.2 S := by
  obtain ⟨u0, u1, u2⟩ := hu
  have S10 : 0 ≤ S1 := by have := J1.2.1; omega
  have b1 := bz.1
  have b2 := bz.2
  have e1 : a * q + b + (c * q + d) = (a + c) * q + (b + d) := by grind
  have e2 : a * q + b + a + (c * q + d) + c = (a + c) * q + (b + d) + (a + c) := by grind
  rw [e2, e1]
  have ab : ∀ x y : Int, ((x * q + y).natAbs : Int) ≤ (x.natAbs : Int) * (q.natAbs : Int) + (y.natAbs : Int) ∧ ((x * q + y + x).natAbs : Int) ≤ (x.natAbs : Int) * (q.natAbs : Int) + (x.natAbs : Int) + (y.natAbs : Int) := fun x y => by
    have e : ((x * q).natAbs : Int) = (x.natAbs : Int) * (q.natAbs : Int) := by rw [Int.natAbs_mul, Int.natCast_mul]
    exact ⟨by omega, by omega⟩
  obtain ⟨p1, p2⟩ := ab a b
  obtain ⟨p3, p4⟩ := ab (a + c) (b + d)
  have n00 : 0 ≤ ((a * q + b).natAbs : Int) := by omega
  have n01 : 0 ≤ ((a * q + b + a).natAbs : Int) := by omega
  have n10 : 0 ≤ (((a + c) * q + (b + d)).natAbs : Int) := by omega
  have n11 : 0 ≤ (((a + c) * q + (b + d) + (a + c)).natAbs : Int) := by omega
  generalize ((a * q + b).natAbs : Int) = P00 at *
  generalize ((a * q + b + a).natAbs : Int) = P01 at *
  generalize (((a + c) * q + (b + d)).natAbs : Int) = P10 at *
  generalize (((a + c) * q + (b + d) + (a + c)).natAbs : Int) = P11 at *
  have w0 : 0 ≤ u.1 - u.2 := by omega
  have na : 0 ≤ (a.natAbs : Int) := by omega
  have nac : 0 ≤ ((a + c).natAbs : Int) := by omega
  have nb : 0 ≤ (b.natAbs : Int) := by omega
  have nbd : 0 ≤ ((b + d).natAbs : Int) := by omega
  generalize (a.natAbs : Int) = A0 at *
  generalize ((a + c).natAbs : Int) = A1 at *
  generalize (b.natAbs : Int) = B0 at *
  generalize ((b + d).natAbs : Int) = B1 at *
  have nq : 0 ≤ (q.natAbs : Int) := by omega
  have m1 := Int.mul_le_mul_of_nonneg_right p1 w0
  have m2 := Int.mul_le_mul_of_nonneg_right p2 w0
  have m3 := Int.mul_le_mul_of_nonneg_right p3 u0
  have m4 := Int.mul_le_mul_of_nonneg_right p4 u0
  have x1 := Int.mul_nonneg na w0
  have x2 := Int.mul_nonneg nac u0
  have f1 : (A0 * (q.natAbs : Int) + B0) * (u.1 - u.2) + (A1 * (q.natAbs : Int) + B1) * u.2 = (A0 * (u.1 - u.2) + A1 * u.2) * (q.natAbs : Int) + (B0 * (u.1 - u.2) + B1 * u.2) := by grind
  have f2 : (A0 * (q.natAbs : Int) + A0 + B0) * (u.1 - u.2) + (A1 * (q.natAbs : Int) + A1 + B1) * u.2 = (A0 * (u.1 - u.2) + A1 * u.2) * (q.natAbs : Int) + (A0 * (u.1 - u.2) + A1 * u.2) + (B0 * (u.1 - u.2) + B1 * u.2) := by grind
  have full := J2.start (A := A0 * (u.1 - u.2) + A1 * u.2) (B := B0 * (u.1 - u.2) + B1 * u.2) (p := P00 * (u.1 - u.2) + P10 * u.2) (r := P01 * (u.1 - u.2) + P11 * u.2) (M := My) S10 (by omega) J1.1 J3.1 (by omega) (by omega) (show 1 ≤ z.2 by omega) lo hi (by omega) (by omega) (by omega)
  have t0 := J2.start (A := A0) (B := B0) (p := P00) (r := P01) (m := 2 * S1) (M := My) (by omega) na J1.2.1 J3.2.1 p1 p2 (show 1 ≤ z.2 by omega) lo hi (by omega) (by omega) (by omega)
  have t1 := J2.start (A := A1) (B := B1) (p := P10) (r := P11) (m := 3 * S1) (M := My) (by omega) nac J1.2.2 J3.2.2 p3 p4 (show 1 ≤ z.2 by omega) lo hi (by omega) (by omega) (by omega)
  have k2 : 2 * S1 * My = 2 * (S1 * My) := by grind
  have k3 : 3 * S1 * My = 3 * (S1 * My) := by grind
  rw [k2] at t0
  rw [k3] at t1
  have fe : (P00 * (z.2 - (z.1 - q * z.2)) + P01 * (z.1 - q * z.2)) * (u.1 - u.2) + (P10 * (z.2 - (z.1 - q * z.2)) + P11 * (z.1 - q * z.2)) * u.2 = (P00 * (u.1 - u.2) + P10 * u.2) * (z.2 - (z.1 - q * z.2)) + (P01 * (u.1 - u.2) + P11 * u.2) * (z.1 - q * z.2) := by grind
  have J : J8 P00 P01 P10 P11 u.1 u.2 z.2 (z.1 - q * z.2) S := by
    have g1 := full.1
    have g2 := full.2.1
    have g3 := full.2.2
    have h1 := t0.1
    have h2 := t0.2.1
    have h3 := t0.2.2
    have i1 := t1.1
    have i2 := t1.2.1
    have i3 := t1.2.2
    exact ⟨by omega, by omega, by omega, by omega, by omega, by omega, by omega, by omega, by omega⟩
  obtain ⟨k, k1, s1, s2⟩ := sc
  exact (J.swap.scale n00 n10 n01 n11 w0 u0 k1 s1 s2 hw'.1 hw'.2.1).swap
/-- an eight of whose second child nothing was taken yet -/
theorem eight_one {n : Nat} {D : Int} (X : Tot D n) {a b c d e f g h : Int} {x y : Box} {u w v : Int × Int} {Mx My m S1 S M l : Int} (hl : 0 ≤ l) (wx : x.wt + 1 ≤ n) (wy : y.wt + 1 ≤ n) (okx : x.Ok) (oky : y.Ok) (kx : x.kind ≠ 1) (ky : y.kind ≠ 1) (hx : Inv (l + D) x true u Mx) (hy : Inv (l + D) y false w My)
    (I : eightI a b c d e f g h 1 0 false u w v Mx My m S1 S M) : ∃ o B' l', Asks (.eight [a, b, c, d, e, f, g, h] 1 0 false x y) l o B' l' ∧ OutI (Inv (l' + D)) o B' false v M := by
  obtain ⟨h1, h2, h3, h4, h5, h6, h7, h8, h9, h10, h11, h12, h13, h14, h15⟩ := id I
  obtain ⟨_, j1, j2, j3, j4⟩ := h13 (by decide) rfl
  have hu := hx.told.1
  have S10 : 0 ≤ S1 := by have := j1.2.1; omega
  have SS : S1 ≤ S := by
    have := Int.mul_le_mul_of_nonneg_left h4 S10
    omega
  have c1 := j1.2.1
  have c2 := j1.2.2
  have c3 := j2.2.1
  have c4 := j2.2.2
  have c5 := j3.2.1
  have c6 := j3.2.2
  have c7 := j4.2.1
  have c8 := j4.2.2
  have hf : allFit [a, b, c, d, e, f, g, h] (eightCorners [a, b, c, d, e, f, g, h]) = true := by
    refine eight_fit0 (m := 5 * S1) (fun z hz => ?_) (by omega)
    simp only [List.mem_cons, List.not_mem_nil, or_false] at hz
    rcases hz with rfl | rfl | rfl | rfl | rfl | rfl | rfl | rfl <;> omega
  have hs : sureE [a, b, c, d, e, f, g, h] 1 0 = none := if_neg (by decide)
  have hle : ¬ (1 : Int) ≤ 0 := by decide
  obtain ⟨o, y', l1, ax, h0, hwt, hfin, hpart⟩ := X y l false w My (by omega) oky hl hy (fun z => (by cases z))
  obtain ⟨n0, en0⟩ := askF_up ax
  obtain ⟨ok', wt', kd'⟩ := askF_ok oky (en0 n0 (Nat.le_refl _))
  have bl := ax.left hl
  have hx1 := hx.mono (l' := l1 + D) (by have := bl.2.1; omega)
  have back : ∀ {y' : Box} {w' : Int × Int}, Inv (l1 + D) y' false w' My → Inv (l1 + D) (.eight [a, b, c, d, e, f, g, h] 1 0 false x y') false v M := fun {y' w'} hy' =>
    ⟨rfl, a, b, c, d, e, f, g, h, u, w', Mx, My, m, S1, S, rfl, hx1, hy', h1, h2, h3, h4, h5, h6, h7, h8, h9, h10, h11, h12, h13, fun z => absurd z (by decide), fun z => (by cases z)⟩
  match o, ax, h0, hwt, hfin, hpart with
  | none, ax, h0, _, _, _ =>
    obtain ⟨_, w', hy'⟩ := h0 rfl
    exact ⟨_, _, _, .none1 hf hs hle ax, fun _ => ⟨rfl, v, back hy'⟩, fun z => (by cases z), fun z => (by cases z), fun q z => (by cases z)⟩
  | some .waits, ax, _, hwt, _, _ =>
    obtain ⟨w', hy', _⟩ := hwt rfl
    exact ⟨_, _, _, .wait1 hf hs hle ax, fun z => (by cases z), fun _ => ⟨v, back hy', fun z => (by cases z)⟩, fun z => (by cases z), fun q z => (by cases z)⟩
  | some .fin, ax, _, _, hfin, _ => exact absurd (hfin rfl).1 (by decide)
  | some (.part q), ax, _, _, _, hpart =>
    obtain ⟨z, w', bz, z2, lo, hi, hy', sc, _⟩ := hpart q rfl
    have hw' := hy'.told.1
    have fq := first_fits z2 lo hi bz h5
    have H' : eightC (a * q + b) a (c * q + d) c (e * q + f) e (g * q + h) g false u w' v S := ⟨J8.start j1 j2 hu h7 z2 lo hi bz sc hw', J8.start j3 j4 hu h7 z2 lo hi bz sc hw', fun z => (by cases z)⟩
    obtain ⟨o2, B2, l2, a2, out⟩ := eight_loop X (u.1 + u.2 + (w'.1 + w'.2)).toNat _ _ _ _ _ _ _ _ 1 (0 + 1) false x y' u w' v Mx My S M l1 (by obtain ⟨_, _, _⟩ := hu; obtain ⟨_, _, _⟩ := hw'; omega) bl.1 wx (by omega) okx ok' kx (by rw [kd']; exact ky) (by decide) (by omega) hx1 hy' ⟨h2, h3, h4, h5, h8, h9⟩ H'
    exact ⟨o2, B2, l2, .part1 hf hs hle ax fq a2, out⟩
/-! ### nested boxes: every asking ends, of any tree -/
theorem eight_tot {n : Nat} {D : Int} (X : Tot D n) {ns : List Int} {i j : Int} {told s : Bool} {x y : Box} {v : Int × Int} {M l : Int} (hl : 0 ≤ l) (wx : x.wt + 1 ≤ n) (wy : y.wt + 1 ≤ n) (okx : x.Ok) (oky : y.Ok) (kx : x.kind ≠ 1) (ky : y.kind ≠ 1) (h : Inv (l + D) (.eight ns i j told x y) s v M) : ∃ o B' l', Asks (.eight ns i j told x y) l o B' l' ∧ OutI (Inv (l' + D)) o B' s v M := by
  obtain ⟨rfl, a, b, c, d, e, f, g, h, u, w, Mx, My, m, S1, S, rfl, hx, hy, I⟩ := h
  obtain ⟨h1, h2, h3, h4, h5, h6, h7, h8, h9, h10, h11, h12, h13, h14, h15⟩ := id I
  by_cases hj : 1 ≤ j
  · rw [decide_eq_true (show 0 < i by omega)] at hx
    rw [decide_eq_true (show 0 < j by omega)] at hy
    have hu := hx.told.1
    have hw := hy.told.1
    exact eight_loop X (u.1 + u.2 + (w.1 + w.2)).toNat a b c d e f g h i j told x y u w v Mx My S M l (by obtain ⟨_, _, _⟩ := hu; obtain ⟨_, _, _⟩ := hw; omega) hl wx wy okx oky kx ky (by omega) h11 hx hy ⟨h2, h3, h4, h5, h8, h9⟩ ⟨(h14 hj).1, (h14 hj).2, fun z => (h15 z).2⟩
  · have hj0 : j = 0 := by omega
    subst hj0
    rcases h11 with hi | hi
    · subst hi
      obtain ⟨rfl, hm⟩ := h12 rfl
      have hx : Inv (l + D) x false u Mx := hx
      have hy : Inv (l + D) y false w My := hy
      have mS : m ≤ S1 := by
        have := Int.mul_le_mul_of_nonneg_left h2 h1
        omega
      have SS : S1 ≤ S := by
        have := Int.mul_le_mul_of_nonneg_left h4 (show 0 ≤ S1 by omega)
        omega
      have hf := eight_fit0 hm (by omega)
      have hs : sureE [a, b, c, d, e, f, g, h] 0 0 = none := if_neg (by decide)
      have hle : (0 : Int) ≤ 0 := by decide
      obtain ⟨o, x', l1, ax, h0, hwt, hfin, hpart⟩ := X x l false u Mx (by omega) okx hl hx (fun z => (by cases z))
      obtain ⟨n0, en0⟩ := askF_up ax
      obtain ⟨ok', wt', kd'⟩ := askF_ok okx (en0 n0 (Nat.le_refl _))
      have bl := ax.left hl
      have hy1 := hy.mono (l' := l1 + D) (by have := bl.2.1; omega)
      have back : ∀ {x' : Box} {u' : Int × Int}, Inv (l1 + D) x' false u' Mx → Inv (l1 + D) (.eight [a, b, c, d, e, f, g, h] 0 0 false x' y) false v M := fun {x' u'} hx' =>
        ⟨rfl, a, b, c, d, e, f, g, h, u', w, Mx, My, m, S1, S, rfl, hx', hy1, h1, h2, h3, h4, h5, h6, h7, h8, h9, h10, .inl rfl, h12, fun z => absurd z (by decide), fun z => absurd z (by decide), fun z => (by cases z)⟩
      match o, ax, h0, hwt, hfin, hpart with
      | none, ax, h0, _, _, _ =>
        obtain ⟨_, u', hx'⟩ := h0 rfl
        exact ⟨_, _, _, .none0 hf hs hle ax, fun _ => ⟨rfl, v, back hx'⟩, fun z => (by cases z), fun z => (by cases z), fun q z => (by cases z)⟩
      | some .waits, ax, _, hwt, _, _ =>
        obtain ⟨u', hx', _⟩ := hwt rfl
        exact ⟨_, _, _, .wait0 hf hs hle ax, fun z => (by cases z), fun _ => ⟨v, back hx', fun z => (by cases z)⟩, fun z => (by cases z), fun q z => (by cases z)⟩
      | some .fin, ax, _, _, hfin, _ => exact absurd (hfin rfl).1 (by decide)
      | some (.part q), ax, _, _, _, hpart =>
        obtain ⟨z, u', bz, z2, lo, hi, hx', sc, _⟩ := hpart q rfl
        have hu' := hx'.told.1
        have fq := first_fits z2 lo hi bz h3
        have b1 := bz.1
        have b2 := bz.2
        have key : ∀ {p r : Int}, (p.natAbs : Int) ≤ m → (r.natAbs : Int) ≤ m → J2 ((p * q + r).natAbs : Int) ((p * q + r + p).natAbs : Int) u'.1 u'.2 S1 := fun {p r} hp hr => by
          have e : ((p * q).natAbs : Int) = (p.natAbs : Int) * (q.natAbs : Int) := by rw [Int.natAbs_mul, Int.natCast_mul]
          have J := J2.start (A := (p.natAbs : Int)) (B := (r.natAbs : Int)) (p := ((p * q + r).natAbs : Int)) (r := ((p * q + r + p).natAbs : Int)) (M := Mx) h1 (by omega) hp hr (by omega) (by omega) (show 1 ≤ z.2 by omega) lo hi (by omega) (by omega) (by omega)
          obtain ⟨k, k1, e1, e2⟩ := sc
          exact (J.scale (by omega) (by omega) k1 e1 e2 hu'.1 hu'.2.1).up h6
        have mm := fun z hz => hm z hz
        have I' : eightI (a * q + c) (b * q + d) a b (e * q + g) (f * q + h) e f 1 0 false u' w v Mx My m S1 S M :=
          ⟨h1, h2, h3, h4, h5, h6, h7, h8, h9, by decide, .inr rfl, fun z => absurd z (by decide), fun _ _ => ⟨rfl, key (mm a (by simp)) (mm c (by simp)), key (mm b (by simp)) (mm d (by simp)), key (mm e (by simp)) (mm g (by simp)), key (mm f (by simp)) (mm h (by simp))⟩, fun z => absurd z (by decide), fun z => (by cases z)⟩
        obtain ⟨o2, B2, l2, a2, out⟩ := eight_one X bl.1 (by omega) wy ok' oky (by rw [kd']; exact kx) ky hx' hy1 I'
        exact ⟨o2, B2, l2, .part0 hf hs hle ax fq a2, out⟩
    · subst hi
      obtain ⟨rfl, _⟩ := h13 (by decide) rfl
      exact eight_one X hl wx wy okx oky kx ky hx hy I
theorem tot_all {D : Int} (hD : 0 ≤ D) : ∀ n, Tot D n
  | n, .leaf c, l, s, v, M, _, _, hl, h, _ => ⟨_, _, _, .leaf, (leaf_out hD h).map fun s v M ⟨c', e, z⟩ => by cases e; exact z⟩
  | n, .fb t b told, l, s, v, M, _, _, hl, h, _ => by
    obtain ⟨r, e, o⟩ := rest_out h
    exact ⟨_, _, _, .fb e, o.map fun s v M ⟨t, b, told, e, z⟩ => by cases e; exact z⟩
  | n, .fourR t b told, l, s, v, M, _, _, hl, h, _ => rest_tot h
  | 0, .four ns st told x, l, s, v, M, hw, _, _, _, _ => by
    have hw : x.wt + 1 ≤ 0 := hw
    omega
  | n + 1, .four ns st told x, l, s, v, M, hw, ok, hl, h, _ => by
    have hw : x.wt + 1 ≤ n + 1 := hw
    exact four_tot (tot_all hD n) hl (by omega) ok.2.1 ok.2.2 h
  | 0, .eight ns i j told x y, l, s, v, M, hw, _, _, _, _ => by
    have hw : max x.wt y.wt + 3 ≤ 0 := hw
    omega
  | n + 1, .eight ns i j told x y, l, s, v, M, hw, ok, hl, h, _ => by
    have hw : max x.wt y.wt + 3 ≤ n + 1 := hw
    exact eight_tot (tot_all hD n) hl (by omega) (by omega) ok.2.1 ok.2.2.1 ok.2.2.2.1 ok.2.2.2.2.1 h
  | 0, .eightR r, l, s, v, M, hw, _, _, _, _ => by
    have hw : r.wt + 2 ≤ 0 := hw
    omega
  | n + 1, .eightR r, l, s, v, M, hw, ok, hl, h, hs => by
    have hw : r.wt + 2 ≤ n + 1 := hw
    obtain ⟨o, r', l', a, out⟩ := tot_all hD n r l s v M (by omega) ok.1 hl h hs
    exact ⟨o, .eightR r', l', .rest a, out.map fun _ _ _ z => z⟩
/-- every asking of a box of which Inv holds ends, and leaves one of which it holds -/
theorem asks_all {B : Box} {l D : Int} {s : Bool} {v : Int × Int} {M : Int} (ok : B.Ok) (hl : 0 ≤ l) (hD : 0 ≤ D) (h : Inv (l + D) B s v M) : ∃ o B' l', Asks B l o B' l' ∧ OutI (Inv (l' + D)) o B' s v M :=
  tot_all hD B.wt B l s v M (Nat.le_refl _) ok hl h fun z => by cases s with | true => exact h.told | false => cases z
/-! ### what holds of a tree's boxes at their start -/
theorem foldE {e : Nat} : ∀ (r : List Int), (∀ p ∈ r, p.natAbs + 1 ≤ 2 ^ e) → (fold r).1.natAbs ≤ 2 ^ (e * r.length) ∧ (fold r).2.natAbs ≤ 2 ^ (e * r.length)
  | [], _ => ⟨by show 1 ≤ 2 ^ (e * 0); rw [Nat.mul_zero]; decide, Nat.zero_le _⟩
  | p :: r, h => by
    obtain ⟨h1, h2⟩ := foldE r fun q hq => h q (List.mem_cons_of_mem _ hq)
    have hp := h p List.mem_cons_self
    have ep : 2 ^ (e * (r.length + 1)) = 2 ^ e * 2 ^ (e * r.length) := by rw [Nat.mul_add, Nat.mul_one, Nat.pow_add, Nat.mul_comm]
    show (p * (fold r).1 + (fold r).2).natAbs ≤ 2 ^ (e * (r.length + 1)) ∧ (fold r).1.natAbs ≤ 2 ^ (e * (r.length + 1))
    rw [ep]
    have e4 := Int.natAbs_add_le (p * (fold r).1) (fold r).2
    have e5 : (p * (fold r).1).natAbs ≤ p.natAbs * 2 ^ (e * r.length) := by
      rw [Int.natAbs_mul]
      exact Nat.mul_le_mul_left _ h1
    have e6 : (p.natAbs + 1) * 2 ^ (e * r.length) ≤ 2 ^ e * 2 ^ (e * r.length) := Nat.mul_le_mul_right _ hp
    have e7 : (p.natAbs + 1) * 2 ^ (e * r.length) = p.natAbs * 2 ^ (e * r.length) + 2 ^ (e * r.length) := by rw [Nat.add_mul, Nat.one_mul]
    have e8 : 1 * 2 ^ (e * r.length) ≤ 2 ^ e * 2 ^ (e * r.length) := Nat.mul_le_mul_right _ (by omega)
    omega
theorem tp_len : ∀ (T : Nat) (c : Chain), (tp T c).length ≤ T
  | 0, _ => Nat.le_refl _
  | T + 1, c => by
    show (if c.ended = true then [] else c.part :: tp T c.next).length ≤ T + 1
    split
    · exact Nat.zero_le _
    · rw [List.length_cons]
      have := tp_len T c.next
      omega
/-- a leaf at its start: its parts bounded, those behind the first one 1 or more -/
theorem leaf_start {c : Chain} {T e : Nat} {v : Int × Int} (he : c.ended = false) (h1 : ∀ p ∈ (tp T c).tail, 1 ≤ p) (hp : ∀ p ∈ tp T c, p.natAbs + 1 ≤ 2 ^ e) : Inv (T : Int) (.leaf c) false v ((2 ^ (e * T) : Nat) : Int) := by
  obtain ⟨b1, b2⟩ := foldE (tp T c) hp
  have le : 2 ^ (e * (tp T c).length) ≤ 2 ^ (e * T) := Nat.pow_le_pow_right (by decide) (Nat.mul_le_mul_left _ (tp_len T c))
  exact ⟨T, Int.le_refl _, ⟨Int.ofNat_le.mpr (Nat.le_trans b1 le), Int.ofNat_le.mpr (Nat.le_trans b2 le)⟩, h1, fun z => (by cases z), fun _ => he⟩
theorem four_start {a b c d m Mx L : Int} {x : Box} {u v : Int × Int} (hx : Inv L x false u Mx) (hm : 0 ≤ m) (h1 : 1 ≤ Mx) (h2 : Mx + 2 ≤ cap) (hS : 8 * (4 * (m * Mx)) ≤ cap) (ha : (a.natAbs : Int) ≤ m) (hb : (b.natAbs : Int) ≤ m) (hc : (c.natAbs : Int) ≤ m) (hd : (d.natAbs : Int) ≤ m) : Inv L (.four [a, b, c, d] false false x) false v (4 * (m * Mx)) :=
  ⟨rfl, a, b, c, d, u, Mx, m, 4 * (m * Mx), rfl, hx, hm, h1, h2, Int.le_refl _, Int.le_refl _, hS, fun _ => ⟨rfl, ha, hb, hc, hd⟩, fun z => (by cases z), fun z => (by cases z)⟩
theorem eight_start {a b c d e f g h m Mx My L : Int} {x y : Box} {u w v : Int × Int} (hx : Inv L x false u Mx) (hy : Inv L y false w My) (hm : 0 ≤ m) (h1 : 1 ≤ Mx) (h2 : Mx + 2 ≤ cap) (h3 : 1 ≤ My) (h4 : My + 2 ≤ cap) (hS : 64 * (4 * (4 * (m * Mx) * My)) ≤ cap) (ha : ∀ z ∈ [a, b, c, d, e, f, g, h], (z.natAbs : Int) ≤ m) :
    Inv L (.eight [a, b, c, d, e, f, g, h] 0 0 false x y) false v (16 * (4 * (4 * (m * Mx) * My))) :=
  ⟨rfl, a, b, c, d, e, f, g, h, u, w, Mx, My, m, 4 * (m * Mx), 4 * (4 * (m * Mx) * My), rfl, hx, hy, hm, h1, h2, h3, h4, Int.le_refl _, Int.le_refl _, Int.le_refl _, hS, Int.le_refl _, .inl rfl, fun _ => ⟨rfl, ha⟩, fun z => absurd z (by decide), fun z => absurd z (by decide), fun z => (by cases z)⟩
theorem tp_frac : ∀ (T : Nat) (t b : Int), tp T (.frac t b) = (chain t b).take T
  | 0, _, _ => rfl
  | T + 1, t, b => by
    by_cases h : b = 0
    · subst h
      rw [chain_zero]
      exact if_pos rfl
    · have he : Chain.ended (.frac t b) = false := decide_eq_false h
      rw [chain_cons h, List.take_succ_cons, ← tp_frac T b (t.fmod b)]
      exact if_neg (by rw [he]; decide)
/-! ### a reading that waits and goes on, beside one that is asked with much -/
/-- B is what became of C by askings that waited, d parts of leaves having been taken -/
def Pend (C B : Box) (d : Int) : Prop := 0 ≤ d ∧ ((d = 0 ∧ C = B) ∨ Asks C d (some .waits) B 0)
theorem Pend.new (B : Box) : Pend B B 0 := ⟨Int.le_refl _, .inl ⟨rfl, rfl⟩⟩
theorem Pend.ask {C B : Box} {d q : Int} {o : Option Ans} {B' : Box} {l' : Int} (h : Pend C B d) (hq : 0 ≤ q) (a : Asks B q o B' l') : Asks C (d + q) o B' l' := by
  obtain ⟨d0, ⟨rfl, rfl⟩ | w⟩ := h
  · rw [Int.zero_add]; exact a
  · exact w.on q hq d0 rfl a
/-- it waits once more -/
theorem Pend.wait {C B : Box} {d q : Int} {B' : Box} {l' : Int} (h : Pend C B d) (hq : 0 ≤ q) (a : Asks B q (some .waits) B' l') : Pend C B' (d + q) := by
  have z := (a.left hq).2.2 rfl
  subst z
  exact ⟨by have := h.1; omega, .inr (h.ask hq a)⟩
/-- it tells: so does the other one, which takes as many in all -/
theorem Pend.tell {C B : Box} {d q big : Int} {o : Option Ans} {B' : Box} {l' : Int} (h : Pend C B d) (hq : 0 ≤ q) (a : Asks B q o B' l') (ho : o ≠ some .waits) (hb : d + q ≤ big) : Asks C big o B' (big - (d + (q - l'))) := by
  have z := (h.ask hq a).more (big - (d + q)) (by omega) ho
  rw [show d + q + (big - (d + q)) = big by omega, show l' + (big - (d + q)) = big - (d + (q - l')) by omega] at z
  exact z
/-! ### any good tree's boxes at their start: bounds of all that may come -/
theorem root_part_pos {t s b r : Int} (h : RootOk t s b r) : 1 ≤ rootPart (rootPart t b r * b - t) ((s - (rootPart t b r * b - t) * (rootPart t b r * b - t)).fdiv b) r := by
  obtain ⟨sp, sn⟩ := root_step h rfl
  have nx := root_next h
  obtain ⟨⟨r0, r1, r2⟩, ns, nz, ⟨q, hq⟩, _⟩ := h
  generalize rootPart t b r = a at *
  have hd : s - (a * b - t) * (a * b - t) = (q - a * (a * b - 2 * t)) * b := by
    have e : s - (a * b - t) * (a * b - t) = (s - t * t) - (a * (a * b - 2 * t)) * b := by grind
    rw [e, hq]
    grind
  have e2 : (s - (a * b - t) * (a * b - t)).fdiv b = q - a * (a * b - 2 * t) := by
    rw [hd]
    exact Int.mul_fdiv_cancel _ nz
  rw [e2] at nx ⊢
  have cz := nx.nz
  generalize q - a * (a * b - 2 * t) = c at *
  generalize a * b - t = u at *
  have r3 : r * r < s := by omega
  have ex : (r + 1) * (r + 1) = r * r + 2 * r + 1 := by grind
  have one : ∀ {x y : Int}, 0 < y → y ≤ x → 1 ≤ x.fdiv y := fun {x y} hy hx => by
    have := (fdiv_bounds (a := x) hy).2
    rcases Int.lt_or_le 0 (x.fdiv y) with z | z
    · omega
    · have := Int.mul_le_mul_of_nonneg_right (show x.fdiv y + 1 ≤ 1 by omega) (Int.le_of_lt hy)
      omega
  unfold rootPart
  rcases Int.lt_or_gt_of_ne nz with hb | hb
  · obtain ⟨u1, u2⟩ := sn hb
    have uu : (r + 1) * (r + 1) ≤ u * u := Int.mul_le_mul u1 u1 (by omega) (by omega)
    have c0 : 0 < c := by
      rcases Int.lt_or_le 0 c with z | z
      · exact z
      · have := Int.mul_nonneg_of_nonpos_of_nonpos z (Int.le_of_lt hb)
        omega
    rw [if_neg (by omega), Int.add_zero]
    refine one c0 ?_
    refine le_of_mul (b := -b) (by omega) ?_
    have k := Int.mul_le_mul_of_nonneg_left (show u - r ≤ -b by omega) (show 0 ≤ u + r by omega)
    have e1 : c * -b = -(c * b) := by grind
    have e3 : (u + r) * (u - r) = u * u - r * r := by grind
    omega
  · obtain ⟨u1, u2⟩ := sp hb
    rcases Int.lt_or_gt_of_ne cz with hc | hc
    · rw [if_pos hc]
      have cb : 0 < -c * b := Int.mul_pos (by omega) hb
      have e1 : -c * b = -(c * b) := by grind
      have ur : u ≤ -r - 1 := by
        rcases Int.lt_or_le u (-r) with z | z
        · omega
        · have := Int.mul_nonneg (show 0 ≤ r - u by omega) (show 0 ≤ r + u by omega)
          have e : (r - u) * (r + u) = r * r - u * u := by grind
          omega
      have k : -c < -u - r := by
        refine lt_of_mul (b := b) hb ?_
        have k := Int.mul_le_mul_of_nonneg_left (show -u + r ≤ b by omega) (show 0 ≤ -u - r by omega)
        have e3 : (-u - r) * (-u + r) = u * u - r * r := by grind
        omega
      have z := one (x := -(u + r + 1)) (y := -c) (by omega) (by omega)
      rw [Int.neg_fdiv_neg] at z
      exact z
    · rw [if_neg (by omega), Int.add_zero]
      refine one hc ?_
      have cb : 0 < c * b := Int.mul_pos hc hb
      rcases Int.lt_or_le (u + r) c with z | z
      · exfalso
        have ur : 0 ≤ u + r + 1 := by
          rcases Int.lt_or_le (u + r + 1) 0 with y | y
          · have := Int.mul_le_mul (show r + 1 ≤ -u by omega) (show r + 1 ≤ -u by omega) (by omega) (by omega)
            have e : -u * -u = u * u := by grind
            omega
          · exact y
        have k1 := Int.mul_le_mul_of_nonneg_right (show u + r + 1 ≤ c by omega) (Int.le_of_lt hb)
        have k2 := Int.mul_le_mul_of_nonneg_left (show r + 1 - u ≤ b by omega) ur
        have e : (u + r + 1) * (r + 1 - u) = (r + 1) * (r + 1) - u * u := by grind
        omega
      · exact z
theorem root_part_bd {t s b r : Int} (h : RootOk t s b r) : (rootPart t b r).natAbs + 1 ≤ 2 ^ 302 := by
  have hr : r < 2 ^ 200 := lt_of_sq h.rt.1 h.rt.2.1 h.sw
  have r0 := h.rt.1
  have ht := h.tw
  have k : (rootPart t b r).natAbs ≤ (t + r + (if b < 0 then 1 else 0)).natAbs := fdiv_abs h.nz
  have p200 : (2 : Int) ^ 200 ≤ ((2 ^ 300 : Nat) : Int) := by decide
  have p302 : (2 : Nat) ^ 302 = 4 * 2 ^ 300 := by decide
  have p1 : 2 ≤ (2 : Nat) ^ 300 := by decide
  rw [p302]
  generalize (2 : Nat) ^ 300 = Z at *
  split at k <;> omega
/-- all parts that come within n steps are bounded -/
def Fine (n : Nat) : Chain → Prop
  | .frac t b => t.natAbs < 2 ^ 301 ∧ b.natAbs < 2 ^ 301
  | .root t s b r => RootOk t s b r
  | .ruled ps ring steps i => RuledGood ps ring steps ∧ i + n ≤ 2 ^ 200
/-- all parts that come are 1 or more -/
def Ones : Chain → Prop
  | .frac t b => b = 0 ∨ (0 < b ∧ b ≤ t) ∨ (b < 0 ∧ t ≤ b)
  | .root t s b r => RootOk t s b r ∧ 1 ≤ rootPart t b r
  | .ruled ps ring steps i => RuledGood ps ring steps ∧ 1 ≤ i
theorem getD_tame {xs : List Int} (h : ∀ z ∈ xs, tame z) (i : Nat) : tame (xs.getD i 0) := by
  by_cases hi : i < xs.length
  · rw [List.getD_eq_getElem?_getD, List.getElem?_eq_getElem hi, Option.getD_some]
    exact h _ (List.getElem_mem hi)
  · rw [List.getD_eq_getElem?_getD, List.getElem?_eq_none (by omega)]
    exact ⟨by decide, by decide⟩
theorem ruled_bd {ps ring steps : List Int} (g : RuledGood ps ring steps) {i : Nat} (hi : i ≤ 2 ^ 200) : (ruledAt ps ring steps i).natAbs + 1 ≤ 2 ^ 302 := by
  have big : ∀ {a b : Int} {n : Nat}, tame a → tame b → n ≤ 2 ^ 200 → (a + (n : Int) * b).natAbs + 1 ≤ 2 ^ 302 := fun {a b n} ha hb hn => by
    have h1 : a.natAbs ≤ 2 ^ 40 := by have := ha.1; have := ha.2; have : (2 : Nat) ^ 40 = 1099511627776 := by decide
                                      omega
    have h2 : b.natAbs ≤ 2 ^ 40 := by have := hb.1; have := hb.2; have : (2 : Nat) ^ 40 = 1099511627776 := by decide
                                      omega
    have h3 : ((n : Int) * b).natAbs ≤ 2 ^ 240 := by
      rw [Int.natAbs_mul, Int.natAbs_natCast, show (240 : Nat) = 200 + 40 from rfl, Nat.pow_add]
      exact Nat.mul_le_mul hn h2
    have h4 := Int.natAbs_add_le a ((n : Int) * b)
    have p1 : (2 : Nat) ^ 40 + 2 ^ 240 + 1 ≤ 2 ^ 302 := by decide
    omega
  unfold ruledAt
  split
  · have z := big (b := 0) (n := 0) (getD_tame g.tp i) ⟨by decide, by decide⟩ (Nat.zero_le _)
    rw [Int.mul_zero, Int.add_zero] at z
    exact z
  · exact big (getD_tame g.tr _) (getD_tame g.ts _) (Nat.le_trans (Nat.div_le_self _ _) (by omega))
theorem Fine.part : ∀ {n : Nat} {c : Chain}, Fine (n + 1) c → c.ended = false → c.part.natAbs + 1 ≤ 2 ^ 302 ∧ Fine n c.next
  | n, .frac t b, h, he => by
    have hb : b ≠ 0 := of_decide_eq_false he
    have k : (t.fdiv b).natAbs ≤ t.natAbs := fdiv_abs hb
    have e : (2 : Nat) ^ 302 = 2 * 2 ^ 301 := by decide
    have p : 1 ≤ (2 : Nat) ^ 301 := by decide
    have h1 := h.1
    refine ⟨?_, h.2, Nat.lt_trans (fmod_abs hb) h.2⟩
    show (t.fdiv b).natAbs + 1 ≤ 2 ^ 302
    rw [e]
    generalize (2 : Nat) ^ 301 = Z at *
    omega
  | n, .root t s b r, h, _ => ⟨root_part_bd h, root_next h⟩
  | n, .ruled ps ring steps i, h, _ => by
    have h2 : i + (n + 1) ≤ 2 ^ 200 := h.2
    exact ⟨ruled_bd h.1 (by omega), h.1, by omega⟩
theorem tp_fine : ∀ (T : Nat) (c : Chain), Fine T c → ∀ p ∈ tp T c, p.natAbs + 1 ≤ 2 ^ 302
  | 0, _, _, p, hp => by cases hp
  | T + 1, c, h, p, hp => by
    rw [tp] at hp
    split at hp
    · cases hp
    · rename_i he
      obtain ⟨h1, h2⟩ := h.part (by simpa using he)
      rcases List.mem_cons.mp hp with rfl | z
      · exact h1
      · exact tp_fine T c.next h2 p z
theorem ruled_one {ps ring steps : List Int} (g : RuledGood ps ring steps) {i : Nat} (hi : 1 ≤ i) (he : Chain.ended (.ruled ps ring steps i) = false) : 1 ≤ ruledAt ps ring steps i := by
  unfold ruledAt
  split
  · rename_i hlt
    rw [List.getD_eq_getElem?_getD, List.getElem?_eq_getElem hlt, Option.getD_some]
    refine g.one _ (List.mem_append_left _ ?_)
    obtain ⟨j, rfl⟩ : ∃ j, i = j + 1 := ⟨i - 1, by omega⟩
    cases ps with
    | nil => exact absurd rfl g.p1
    | cons p r => exact List.getElem_mem _
  · rename_i hlt
    have hr : ring ≠ [] := fun z => by
      rw [show Chain.ended (.ruled ps ring steps i) = (decide (ring = []) && decide (ps.length ≤ i)) from rfl, decide_eq_true z, decide_eq_true (show ps.length ≤ i by omega)] at he
      cases he
    have l0 : 0 < ring.length := List.length_pos_iff.mpr hr
    have lt := Nat.mod_lt (i - ps.length) l0
    have h1 : 1 ≤ ring.getD ((i - ps.length) % ring.length) 0 := by
      rw [List.getD_eq_getElem?_getD, List.getElem?_eq_getElem lt, Option.getD_some]
      exact g.one _ (List.mem_append_right _ (List.getElem_mem _))
    have h2 : 0 ≤ steps.getD ((i - ps.length) % ring.length) 0 := by
      have ls : (i - ps.length) % ring.length < steps.length := by rw [g.same]; exact lt
      rw [List.getD_eq_getElem?_getD, List.getElem?_eq_getElem ls, Option.getD_some]
      exact g.nn _ (List.getElem_mem _)
    have h3 := Int.mul_nonneg (Int.natCast_nonneg ((i - ps.length) / ring.length)) h2
    omega
theorem frac_ones {t b : Int} (hb : b ≠ 0) : Ones (.frac b (t.fmod b)) := by
  rcases Int.lt_or_gt_of_ne hb with z | z
  · have := fmod_neg (a := t) z
    by_cases e : t.fmod b = 0
    · exact .inl e
    · exact .inr (.inr ⟨by omega, by omega⟩)
  · have := fmod_pos (a := t) z
    by_cases e : t.fmod b = 0
    · exact .inl e
    · exact .inr (.inl ⟨by omega, by omega⟩)
theorem fdiv_one {x y : Int} (hy : 0 < y) (hx : y ≤ x) : 1 ≤ x.fdiv y := by
  have := (fdiv_bounds (a := x) hy).2
  rcases Int.lt_or_le 0 (x.fdiv y) with z | z
  · omega
  · have := Int.mul_le_mul_of_nonneg_right (show x.fdiv y + 1 ≤ 1 by omega) (Int.le_of_lt hy)
    omega
theorem Ones.part : ∀ {c : Chain}, Ones c → c.ended = false → 1 ≤ c.part ∧ Ones c.next
  | .frac t b, h, he => by
    have hb : b ≠ 0 := of_decide_eq_false he
    refine ⟨?_, frac_ones hb⟩
    rcases h with z | ⟨z1, z2⟩ | ⟨z1, z2⟩
    · exact absurd z hb
    · exact fdiv_one z1 z2
    · have := fdiv_one (x := -t) (y := -b) (by omega) (by omega)
      rw [Int.neg_fdiv_neg] at this
      exact this
  | .root t s b r, h, _ => ⟨h.2, root_next h.1, root_part_pos h.1⟩
  | .ruled ps ring steps i, h, he => ⟨ruled_one h.1 h.2 he, h.1, Nat.le_succ_of_le h.2⟩
theorem tp_ones : ∀ (T : Nat) (c : Chain), Ones c → ∀ p ∈ tp T c, 1 ≤ p
  | 0, _, _, p, hp => by cases hp
  | T + 1, c, h, p, hp => by
    rw [tp] at hp
    split at hp
    · cases hp
    · rename_i he
      obtain ⟨h1, h2⟩ := h.part (by simpa using he)
      rcases List.mem_cons.mp hp with rfl | z
      · exact h1
      · exact tp_ones T c.next h2 p z
theorem tail_ones {T : Nat} {c : Chain} (h : c.ended = false → Ones c.next) : ∀ p ∈ (tp T c).tail, 1 ≤ p := by
  cases T with
  | zero => intro p hp; cases hp
  | succ T =>
    intro p hp
    rw [tp] at hp
    split at hp
    · cases hp
    · rename_i he
      exact tp_ones T c.next (h (by simpa using he)) p hp
theorem tame_bits {z : Int} (h : tame z) : z.natAbs < 2 ^ 301 := by
  have h1 : z.natAbs < 2 ^ 41 := by have := h.1; have := h.2; have : (2 : Nat) ^ 41 = 2199023255552 := by decide
                                    omega
  exact Nat.lt_trans h1 (Nat.pow_lt_pow_right (by decide) (by decide))
/-- a good leaf's chain -/
theorem leaf_good {f : Leaf} {c : Chain} (g : f.Good) (s : f.Starts c) (ok : c.Ok) {T : Nat} (hT : T ≤ 2 ^ 200) : c.ended = false ∧ Fine T c ∧ (c.ended = false → Ones c.next) := by
  cases f with
  | frac t b =>
    have s : c = .frac t b := s
    subst s
    obtain ⟨g1, g2, g3⟩ := g
    exact ⟨decide_eq_false g3, ⟨tame_bits g1, tame_bits g2⟩, fun _ => frac_ones g3⟩
  | root t sq b =>
    obtain ⟨g1, g2, g3, g4, g5⟩ := g
    obtain ⟨r, hr, ⟨e, rfl⟩ | ⟨ne, q, hq, rfl⟩⟩ := s
    · refine ⟨decide_eq_false g5, ⟨?_, tame_bits g4⟩, fun _ => frac_ones g5⟩
      have r0 := hr.1
      have rs : r ≤ sq := by
        rw [← e]
        rcases Int.lt_or_le 0 r with z | z
        · have := Int.mul_le_mul_of_nonneg_left (show 1 ≤ r by omega) r0
          omega
        · have : r = 0 := by omega
          rw [this]; decide
      have := g1.1
      have := g1.2
      have := g2.2
      have h1 : (t + r).natAbs < 2 ^ 42 := by have : (2 : Nat) ^ 42 = 4398046511104 := by decide
                                              omega
      exact Nat.lt_trans h1 (Nat.pow_lt_pow_right (by decide) (by decide))
    · exact ⟨rfl, ok, fun _ => ⟨root_next ok, root_part_pos ok⟩⟩
  | ruled ps ring steps =>
    have s : c = .ruled ps ring steps 0 := s
    subst s
    have g : RuledGood ps ring steps := g
    refine ⟨?_, ⟨g, by omega⟩, fun _ => ⟨g, Nat.le_refl _⟩⟩
    have l0 : 0 < ps.length := List.length_pos_iff.mpr g.p1
    show (decide (ring = []) && decide (ps.length ≤ 0)) = false
    rw [decide_eq_false (show ¬ ps.length ≤ 0 by omega), Bool.and_false]
/-- bits of all numbers, of a tree so high, T parts of each leaf -/
def tbits (T : Nat) : Nat → Nat
  | 0 => 302 * T
  | h + 1 => 4 * tbits T h + 400
theorem tbits_mono {T h k : Nat} (hk : h ≤ k) : tbits T h ≤ tbits T k := by
  induction hk with
  | refl => exact Nat.le_refl _
  | step _ ih =>
    refine Nat.le_trans ih ?_
    show _ ≤ 4 * tbits T _ + 400
    omega
def two (n : Nat) : Int := ((2 ^ n : Nat) : Int)
theorem two_one (n : Nat) : 1 ≤ two n := Int.ofNat_le.mpr (Nat.one_le_two_pow)
theorem two_mul (m n : Nat) : two m * two n = two (m + n) := by
  show ((2 ^ m : Nat) : Int) * ((2 ^ n : Nat) : Int) = ((2 ^ (m + n) : Nat) : Int)
  rw [Nat.pow_add, Int.natCast_mul]
theorem two_le {m n : Nat} (h : m ≤ n) : two m ≤ two n := Int.ofNat_le.mpr (Nat.pow_le_pow_right (by decide) h)
theorem two_cap {n : Nat} (h : n ≤ 9999990) : two n ≤ cap := by
  rw [cap_eq]
  exact two_le (Nat.le_trans h (by decide))
theorem two_cap2 {n : Nat} (h : n + 1 ≤ 9999990) (h1 : 1 ≤ n) : two n + 2 ≤ cap := by
  have e := two_mul 1 n
  have e1 : two 1 = 2 := rfl
  rw [e1] at e
  have := two_le h1
  rw [e1] at this
  have := two_cap (n := 1 + n) (by omega)
  omega
theorem tame_two {z : Int} (h : tame z) : (z.natAbs : Int) ≤ two 40 := by
  have e : two 40 = 1099511627776 := rfl
  have := h.1
  have := h.2
  rw [e]
  omega
/-- M may be greater -/
theorem Inv.up {l : Int} {v : Int × Int} {M M' : Int} (hM : M ≤ M') : ∀ {B : Box}, B.kind ≠ 1 → (match B with | .fourR _ _ _ => False | .eightR _ => False | _ => True) → Inv l B false v M → Inv l B false v M'
  | .leaf c, _, _, ⟨T, h1, h2, h3, h4, h5⟩ => ⟨T, h1, ⟨Int.le_trans h2.1 hM, Int.le_trans h2.2 hM⟩, h3, h4, h5⟩
  | .fb _ _ _, hk, _, _ => absurd rfl hk
  | .fourR _ _ _, _, hf, _ => hf.elim
  | .four ns st told x, _, _, ⟨h, a, b, c, d, u, Mx, m, S, e, hx, h1, h2, h3, h4, h5, r⟩ => ⟨h, a, b, c, d, u, Mx, m, S, e, hx, h1, h2, h3, h4, Int.le_trans h5 hM, r⟩
  | .eight ns i j told x y, _, _, ⟨h, a, b, c, d, e, f, g, k, u, w, Mx, My, m, S1, S, z, hx, hy, h1, h2, h3, h4, h5, h6, h7, h8, r⟩ => ⟨h, a, b, c, d, e, f, g, k, u, w, Mx, My, m, S1, S, z, hx, hy, h1, h2, h3, h4, h5, h6, h7, Int.le_trans h8 hM, r⟩
  | .eightR _, _, hf, _ => hf.elim
/-- a box as it is made -/
def Fresh : Box → Prop
  | .fourR _ _ _ => False
  | .eightR _ => False
  | .fb _ _ _ => False
  | _ => True
theorem Inv.up' {l : Int} {v : Int × Int} {M M' : Int} {B : Box} (hB : Fresh B) (hM : M ≤ M') (h : Inv l B false v M) : Inv l B false v M' := by
  cases B with
  | leaf c => exact Inv.up hM (by show 0 ≠ 1; decide) trivial h
  | fb _ _ _ => exact hB.elim
  | four _ _ _ _ => exact Inv.up hM (by show 2 ≠ 1; decide) trivial h
  | fourR _ _ _ => exact hB.elim
  | eight _ _ _ _ _ _ => exact Inv.up hM (by show 3 ≠ 1; decide) trivial h
  | eightR _ => exact hB.elim
theorem Inv.any {l : Int} {v v' : Int × Int} {M : Int} : ∀ {B : Box}, Fresh B → Inv l B false v M → Inv l B false v' M
  | .leaf c, _, ⟨T, h1, h2, h3, h4, h5⟩ => ⟨T, h1, h2, h3, fun z => (by cases z), h5⟩
  | .fb _ _ _, hf, _ => hf.elim
  | .fourR _ _ _, hf, _ => hf.elim
  | .four ns st told x, _, ⟨h, a, b, c, d, u, Mx, m, S, e, hx, h1, h2, h3, h4, h5, h6, h7, h8, _⟩ => ⟨h, a, b, c, d, u, Mx, m, S, e, hx, h1, h2, h3, h4, h5, h6, h7, h8, fun z => (by cases z)⟩
  | .eight ns i j told x y, _, ⟨h, a, b, c, d, e, f, g, k, u, w, Mx, My, m, S1, S, z, hx, hy, h1, h2, h3, h4, h5, h6, h7, h8, h9, h10, h11, h12, h13, h14, _⟩ => ⟨h, a, b, c, d, e, f, g, k, u, w, Mx, My, m, S1, S, z, hx, hy, h1, h2, h3, h4, h5, h6, h7, h8, h9, h10, h11, h12, h13, h14, fun z => (by cases z)⟩
  | .eightR _, hf, _ => hf.elim
theorem eight_tw {ns : List Int} {x y : Box} {L : Int} {nx ny m : Nat} {u w v : Int × Int} (hl : ns.length = 8) (hm : ∀ z ∈ ns, (z.natAbs : Int) ≤ two m) (hx : Inv L x false u (two nx)) (hy : Inv L y false w (two ny)) (p1 : 1 ≤ nx) (p2 : 1 ≤ ny) (h : nx + ny + m + 20 ≤ 9999990) :
    Inv L (.eight ns 0 0 false x y) false v (two (nx + ny + m + 8)) := by
  match ns, hl with
  | [a, b, c, d, e, f, g, k], _ =>
    have e1 : (4 : Int) * (two m * two nx) = two (m + nx + 2) := by rw [two_mul, show (4 : Int) = two 2 from rfl, two_mul, Nat.add_comm]
    have e2 : (4 : Int) * (two (m + nx + 2) * two ny) = two (m + nx + 2 + ny + 2) := by rw [two_mul, show (4 : Int) = two 2 from rfl, two_mul, Nat.add_comm]
    have e3 : (16 : Int) * two (m + nx + 2 + ny + 2) = two (nx + ny + m + 8) := by
      rw [show (16 : Int) = two 4 from rfl, two_mul]
      congr 1
      omega
    have e4 : (64 : Int) * two (m + nx + 2 + ny + 2) = two (nx + ny + m + 10) := by
      rw [show (64 : Int) = two 6 from rfl, two_mul]
      congr 1
      omega
    have z := eight_start (v := v) hx hy (Int.le_trans (by decide) (two_one m)) (two_one nx) (two_cap2 (n := nx) (by omega) p1) (two_one ny) (two_cap2 (n := ny) (by omega) p2) (by rw [e1, e2, e4]; exact two_cap (by omega)) hm
    rw [e1, e2, e3] at z
    exact z
theorem tree_inv {T : Nat} (hT : T ≤ 2 ^ 200) (hT1 : 1 ≤ T) : ∀ {t : Tree} {B : Box} {h : Nat} {v : Int × Int}, t.Good → t.Starts B → B.Ok → t.ht ≤ h → tbits T h + 100 ≤ 9999990 → Fresh B ∧ Inv T B false v (two (tbits T h))
  | .leaf f, B, h, v, g, s, ok, hh, hb => by
    obtain ⟨c, s, rfl⟩ := s
    obtain ⟨h1, h2, h3⟩ := leaf_good g s ok hT
    have z : Inv T (.leaf c) false v (two (tbits T 0)) := leaf_start (e := 302) h1 (tail_ones h3) (tp_fine T c h2)
    exact ⟨trivial, Inv.up' trivial (two_le (tbits_mono (Nat.zero_le _))) z⟩
  | .four ns x, B, 0, v, g, s, ok, hh, hb => absurd hh (by show ¬ x.ht + 1 ≤ 0; omega)
  | .four ns x, B, h + 1, v, g, s, ok, hh, hb => by
    obtain ⟨X, s, rfl⟩ := s
    obtain ⟨g1, g2, _, g4⟩ := g
    have hb' : 4 * tbits T h + 400 + 100 ≤ 9999990 := hb
    have hh : x.ht + 1 ≤ h + 1 := hh
    obtain ⟨_, hx⟩ := tree_inv hT hT1 (v := v) g4 s ok.2.1 (show x.ht ≤ h by omega) (by omega)
    have p1 : 1 ≤ tbits T h := by have := tbits_mono (T := T) (Nat.zero_le h); have e : tbits T 0 = 302 * T := rfl; omega
    refine ⟨trivial, ?_⟩
    match ns, g1 with
    | [a, b, c, d], _ =>
      have e1 : (4 : Int) * (two 40 * two (tbits T h)) = two (tbits T h + 42) := by
        rw [two_mul, show (4 : Int) = two 2 from rfl, two_mul]
        congr 1
        omega
      have e2 : (8 : Int) * two (tbits T h + 42) = two (tbits T h + 45) := by
        rw [show (8 : Int) = two 3 from rfl, two_mul]
        congr 1
        omega
      have z := four_start (v := v) hx (Int.le_trans (by decide) (two_one 40)) (two_one _) (two_cap2 (n := tbits T h) (by omega) p1) (by rw [e1, e2]; exact two_cap (by omega)) (tame_two (g2 a (by simp))) (tame_two (g2 b (by simp))) (tame_two (g2 c (by simp))) (tame_two (g2 d (by simp)))
      rw [e1] at z
      exact Inv.up' trivial (two_le (by show tbits T h + 42 ≤ 4 * tbits T h + 400; omega)) z
  | .eight ns x y, B, 0, v, g, s, ok, hh, hb => absurd hh (by show ¬ max x.ht y.ht + 1 ≤ 0; omega)
  | .eight ns x y, B, h + 1, v, g, s, ok, hh, hb => by
    obtain ⟨X, Y, s1, s2, rfl⟩ := s
    obtain ⟨g1, g2, _, g4, g5⟩ := g
    have hb' : 4 * tbits T h + 400 + 100 ≤ 9999990 := hb
    have hh : max x.ht y.ht + 1 ≤ h + 1 := hh
    obtain ⟨_, hx⟩ := tree_inv hT hT1 (v := v) g4 s1 ok.2.1 (show x.ht ≤ h by omega) (by omega)
    obtain ⟨_, hy⟩ := tree_inv hT hT1 (v := v) g5 s2 ok.2.2.1 (show y.ht ≤ h by omega) (by omega)
    have p1 : 1 ≤ tbits T h := by have := tbits_mono (T := T) (Nat.zero_le h); have e : tbits T 0 = 302 * T := rfl; omega
    exact ⟨trivial, Inv.up' trivial (two_le (by show tbits T h + tbits T h + 40 + 8 ≤ 4 * tbits T h + 400; omega)) (eight_tw (v := v) g1 (fun z hz => tame_two (g2 z hz)) hx hy p1 p1 (by omega))⟩
  | .power x n, B, 0, v, g, s, ok, hh, hb => absurd hh (by show ¬ x.ht + 1 ≤ 0; omega)
  | .power x n, B, h + 1, v, g, s, ok, hh, hb => by
    obtain ⟨g1, g2, g3⟩ := g
    have hb' : 4 * tbits T h + 400 + 100 ≤ 9999990 := hb
    have hh : x.ht + 1 ≤ h + 1 := hh
    have p1 : 1 ≤ tbits T h := by have := tbits_mono (T := T) (Nat.zero_le h); have e : tbits T 0 = 302 * T := rfl; omega
    have key : ∀ (n : Nat) (B : Box), n ≤ 4 → powB x.Starts n B → B.Ok → Fresh B ∧ Inv T B false v (two (n * (tbits T h + 20))) := by
      intro n
      induction n with
      | zero => intro B _ z _; exact z.elim
      | succ n ih =>
        intro B hn z ok
        match n, ih, hn, z with
        | 0, _, _, z =>
          obtain ⟨f, i⟩ := tree_inv hT hT1 (v := v) g3 (show x.Starts B from z) ok (show x.ht ≤ h by omega) (by omega)
          exact ⟨f, Inv.up' f (two_le (by omega)) i⟩
        | n + 1, ih, hn, z =>
          obtain ⟨X, Y, sx, sy, rfl⟩ := z
          obtain ⟨_, hx⟩ := tree_inv hT hT1 (v := v) g3 sx ok.2.1 (show x.ht ≤ h by omega) (by omega)
          obtain ⟨_, hy⟩ := ih Y (by omega) sy ok.2.2.1
          have pn : 1 ≤ (n + 1) * (tbits T h + 20) := Nat.mul_pos (by omega) (by omega)
          have en : (n + 1 + 1) * (tbits T h + 20) = (n + 1) * (tbits T h + 20) + (tbits T h + 20) := Nat.succ_mul ..
          have e4 : (n + 1) * (tbits T h + 20) ≤ 3 * (tbits T h + 20) := Nat.mul_le_mul_right _ (by omega)
          refine ⟨trivial, Inv.up' trivial (two_le ?_) (eight_tw (v := v) (m := 0) rfl (fun z hz => ?_) hx hy p1 pn (by omega))⟩
          · rw [en]; omega
          · have e0 : two 0 = 1 := rfl
            rw [e0]
            simp only [timesN, List.mem_cons, List.not_mem_nil, or_false] at hz
            rcases hz with rfl | rfl | rfl | rfl | rfl | rfl | rfl | rfl <;> decide
    obtain ⟨f, i⟩ := key n B g2 s ok
    refine ⟨f, Inv.up' f (two_le ?_) i⟩
    show n * (tbits T h + 20) ≤ 4 * tbits T h + 400
    have : n * (tbits T h + 20) ≤ 4 * (tbits T h + 20) := Nat.mul_le_mul_right _ g2
    omega
/-! ### zip of a tuple and a list -/
section
open PySem.Spec PyProof.Rows
abbrev zmA (h : Heap) (a : Addr) : Heap := h.push { cls := .type "tuple_iterator", data := .fields #[.ref a, .int 0 0] }
abbrev zmB (h : Heap) (a b : Addr) : Heap := (zmA h a).push { cls := .type "list_iterator", data := .fields #[.ref b, .int 0 0] }
abbrev zmC (h : Heap) (a b : Addr) : Heap := (zmB h a b).push { cls := .type "tuple", data := .seq #[.ref h.objs.size, .ref (zmA h a).objs.size] }
abbrev zmD (h : Heap) (a b : Addr) : Heap := (zmC h a b).push { cls := .type "tuple", data := .seq #[.none, .none] }
abbrev zmE (h : Heap) (a b : Addr) : Heap := (zmD h a b).push { cls := .type "zip", data := .fields #[.none, .bool false, .bool false, .ref (zmB h a b).objs.size, .ref (zmC h a b).objs.size] }
theorem meets_zm (a b : Addr) (us vs : Array Value) : Meets (Builtin.«zip.__new__» ⟨[.type "zip", .ref a, .ref b], []⟩)
    (fun _ R s => s.heap.IsTuple a us ∧ s.heap.IsList b vs ∧ R (.ok (.ret (.ref (zmD s.heap a b).objs.size))) { s with heap := zmE s.heap a b }) :=
  .of_wp fun prog w A R s hh => by
    obtain ⟨hp, gs, dd, tk, os⟩ := s
    obtain ⟨ha, hb, hR⟩ := hh
    have isub := PySem.sub_zip
    have ita : Heap.IsTuple (Shared.heap ⟨hp, gs, dd, tk, os⟩) a us := ha
    have itb : Heap.IsList (Shared.heap ⟨hp.push { cls := .type "tuple_iterator", data := .fields #[.ref a, .int 0 0] }, gs, dd, tk, os⟩) b vs := Heap.IsList.push hb _
    wp_walk using wpAny_pyIter_tuple ita, wpAny_pyIter_list itb
    exact ⟨_, rfl, hR⟩
theorem call_zm {P : Program} {w : World} {A : Around} {E : Value → Shared → Prop} {s : Shared} {a b : Addr} {us vs : Array Value} {Q : Value → Shared → Prop} (ha : s.heap.IsTuple a us) (hb : s.heap.IsList b vs)
    (k : ∀ h', IsZip h' (s.heap.objs.size + 4) (s.heap.objs.size + 2) (s.heap.objs.size + 3) .none ∧ IsPair h' (s.heap.objs.size + 2) (.ref s.heap.objs.size) (.ref (s.heap.objs.size + 1)) ∧ IsPair h' (s.heap.objs.size + 3) .none .none ∧
      h'.IsTupleIter s.heap.objs.size a 0 ∧ h'.IsListIter (s.heap.objs.size + 1) b 0 → (∀ c o, s.heap.get? c = some o → h'.get? c = some o) → Q (.ref (s.heap.objs.size + 4)) { s with heap := h' }) :
    wpAny (model P w) A (call (.type "zip") [.ref a, .ref b]) Q E s := by
  refine callType_new F.called_zip (by decide) (F.typeCall_zip_2 _ _) (F.newCall_zip_2 _ _) (fun z => F.args_object_init_3 z _ _) F.entry_zip_new (meets_zm a b us vs) ⟨ha, hb, ?_⟩
  have up : ∀ {h : Heap} {c : Addr} {o : Obj} (x : Obj), h.get? c = some o → (h.push x).get? c = some o := fun x e => Heap.get?_push_of_some _ e
  have nA : (zmA s.heap a).objs.size = s.heap.objs.size + 1 := Heap.size_push ..
  have nB : (zmB s.heap a b).objs.size = s.heap.objs.size + 2 := by rw [Heap.size_push, nA]
  have nC : (zmC s.heap a b).objs.size = s.heap.objs.size + 3 := by rw [Heap.size_push, nB]
  have nD : (zmD s.heap a b).objs.size = s.heap.objs.size + 4 := by rw [Heap.size_push, nC]
  have eE : (zmE s.heap a b).get? (zmD s.heap a b).objs.size = some _ := Heap.get?_push_size _ rfl
  have eD : (zmE s.heap a b).get? (zmC s.heap a b).objs.size = some _ := up _ (Heap.get?_push_size _ rfl)
  have eC : (zmE s.heap a b).get? (zmB s.heap a b).objs.size = some _ := up _ (up _ (Heap.get?_push_size _ rfl))
  have eB : (zmE s.heap a b).get? (zmA s.heap a).objs.size = some _ := up _ (up _ (up _ (Heap.get?_push_size _ rfl)))
  have eA : (zmE s.heap a b).get? s.heap.objs.size = some _ := up _ (up _ (up _ (up _ (Heap.get?_push_size _ rfl))))
  rw [nB, nC, nD] at eE
  rw [nA, nB] at eC
  rw [nC] at eD
  rw [nA] at eB
  show _ ∧ _
  rw [nD]
  exact ⟨⟨_, eE, rfl⟩, k _ ⟨eE, eC, eD, ⟨_, eA, rfl, rfl⟩, ⟨_, eB, rfl, rfl⟩⟩ fun c o e => up _ (up _ (up _ (up _ (up _ e))))⟩
/-- the tuple at a and the list at b, item by item -/
def ItM (K : PySem.W.Frag) (a b : Addr) : It where
  go := fun i H => ∃ (xs ys : List V) (x y : V), SqT K H a xs ∧ SqL K H b ys ∧ xs[i]? = some x ∧ ys[i]? = some y
  yld := fun i H v H' => ∃ T x y, v = .ref T ∧ H T = none ∧ H' = upd H T (.tup [x, y]) ∧ (∀ xs, SqT K H a xs → xs[i]? = some x) ∧ ∀ ys, SqL K H b ys → ys[i]? = some y
  stop := fun i H => ∃ xs ys : List V, SqT K H a xs ∧ SqL K H b ys ∧ i = xs.length ∧ i = ys.length
theorem turn_zm {P : Program} {w : World} {K : PySem.W.Frag} {elts : List Expr} {kk : Nat} {tpos : Pos} {a b n : Nat} (la : a < n) (lb : b < n) :
    Turn P w K (.Tuple elts kk tpos) (ItM K a b) [n + 4, n + 2, n + 3, n, n + 1] (n + 4) (fun i h => IsZip h (n + 4) (n + 2) (n + 3) .none ∧ IsPair h (n + 2) (.ref n) (.ref (n + 1)) ∧ (∃ x y, IsPair h (n + 3) x y) ∧ h.IsTupleIter n a i ∧ h.IsListIter (n + 1) b i) := by
  have ne : ∀ {x y : Nat}, x ≠ y → x ≠ y := id
  have S : ZipSep2 (n + 4) (n + 2) (n + 3) n (n + 1) [n, a] [n + 1, b] := by
    have q : ∀ {x y : Nat}, x ≠ y → ∀ {z : Nat}, x ≠ z → x ∉ [y, z] := fun h1 _ h2 hm => by simp only [List.mem_cons, List.not_mem_nil, or_false] at hm; exact hm.elim h1 h2
    exact ⟨ne (by omega), ne (by omega), ne (by omega), ne (by omega), by simp, q (by omega) (by omega), q (by omega) (by omega), ne (by omega), by simp, q (by omega) (by omega), q (by omega) (by omega), q (by omega) (by omega), q (by omega) (by omega)⟩
  have ds : ∀ {c : Nat}, c ∈ [n + 4, n + 2, n + 3, n, n + 1] → c = n + 4 ∨ c = n + 2 ∨ c = n + 3 ∨ c = n ∨ c = n + 1 := fun hc => by simpa using hc
  refine ⟨by simp, fun i h st c hc => ?_, fun i h h' st k => ?_, ?_, ?_, fun A i s Q E st q => wpAny_pyIter_zip st.1 q⟩
  · obtain ⟨z1, z2, ⟨x, y, z3⟩, ⟨o1, e1, _, d1⟩, ⟨o2, e2, _, d2⟩⟩ := st
    rcases ds hc with rfl | rfl | rfl | rfl | rfl
    · exact ⟨_, z1, nofun⟩
    · exact ⟨_, z2, nofun⟩
    · exact ⟨_, z3, nofun⟩
    · exact ⟨o1, e1, fun v q => by rw [d1] at q; cases q⟩
    · exact ⟨o2, e2, fun v q => by rw [d2] at q; cases q⟩
  · obtain ⟨z1, z2, ⟨x, y, z3⟩, h1, h2⟩ := st
    exact ⟨k _ (by simp) _ z1, k _ (by simp) _ z2, ⟨x, y, k _ (by simp) _ z3⟩, h1.at fun o e => k _ (by simp) o e, h2.at fun o e => k _ (by simp) o e⟩
  · intro X hP hw hK hc i pins s σ H E I hf st hg
    subst hP hw hK
    obtain ⟨z1, z2, ⟨x0, y0, z3⟩, h1, h2⟩ := st
    obtain ⟨xs, ys, x, y, sx, sy, ex, ey⟩ := hg
    obtain ⟨us, ru, pu, _⟩ := I.tuple sx
    obtain ⟨vs, rv, pv, _⟩ := I.list sy
    obtain ⟨u, hu, rx⟩ := ru.get ex
    obtain ⟨v, hv, ry⟩ := rv.get ey
    have pv := pv.isList
    have lu : i < us.toArray.size := by
      have := (List.getElem?_eq_some_iff.mp hu).1
      simpa using this
    have lv : i < vs.toArray.size := by
      have := (List.getElem?_eq_some_iff.mp hv).1
      simpa using this
    have h0 : (X.A.in1).handled = none := I.ok.hd hc
    refine wpAny_pyNext_zipD2_item (n1 := us.toArray.size) (n2 := vs.toArray.size) S (Draws.tuple h0 n a (ne (by omega)) us.toArray) (Draws.list h0 (n + 1) b (ne (by omega)) vs.toArray) z1 z2 z3 ⟨h1, pu⟩ ⟨h2, pv⟩ lu lv fun u' v' h' tk p1 p2 q1 q2 q3 q4 q5 q6 q7 => ?_
    have eu : u' = u := Option.some.inj (p1.symm.trans (by simpa using hu))
    have ev : v' = v := Option.some.inj (p2.symm.trans (by simpa using hv))
    subst eu ev
    refine ⟨_, rfl, wpAny_letOwnedTupleGo_zip (s := { s with heap := h', toks := tk }) q1 fun h2' r1 sb => ?_⟩
    have zl : n + 4 < s.heap.objs.size := Heap.lt_size z1
    have eT : h2'.get? s.heap.objs.size = some { cls := .type "tuple", data := .seq #[u', v'] } := (sb.2 _ (Nat.ne_of_gt zl)).trans q5
    have new : ObjOk X.prog X.w (upd H s.heap.objs.size (.tup [x, y])) h2' s.heap.objs.size (.tup [x, y]) := ⟨by show 2 ≤ sizeLine; decide, [u', v'], .cons rx (.cons ry .nil), ⟨_, eT, rfl, _, rfl⟩⟩
    have I1 : L2.Inv X pins σ (upd H s.heap.objs.size (.tup [x, y])) { s with heap := h2', toks := tk } := I.turnedNew (t' := tk) (ch := [n + 4, n + 2, n + 3, n, n + 1])
      (fun c o nc e => (sb.2 c fun q => nc (by simp [q])).trans (q7 c o (fun q => nc (by simp [q])) (fun q => nc (by simp [q])) (fun q => nc (by simp [q])) (fun q => nc (by simp [q])) e)) hf (Nat.le_refl _) new
    refine ⟨.ref s.heap.objs.size, _, I1, rfl, ⟨_, x, y, rfl, I.hok.fresh (Nat.le_refl _), rfl, fun l hl => by rw [I.tuple_inj hl sx]; exact ex, fun l hl => by rw [I.list_inj hl sy]; exact ey⟩, ⟨r1, ?_, ⟨u', v', ?_⟩, ?_, ?_⟩, fun c hcm => ?_⟩
    · exact (sb.2 _ (ne (by omega))).trans (q7 _ _ (ne (by omega)) (ne (by omega)) (ne (by omega)) (ne (by omega)) z2)
    · exact (sb.2 _ (ne (by omega))).trans q2
    · exact q3.1.at fun o e => (sb.2 _ (ne (by omega))).trans e
    · exact q4.1.at fun o e => (sb.2 _ (ne (by omega))).trans e
    · have le : ∀ {x : Nat}, x ≤ n + 4 → x < s.heap.objs.size := fun h => Nat.lt_of_le_of_lt h zl
      have lt : c < s.heap.objs.size := by rcases ds hcm with rfl | rfl | rfl | rfl | rfl <;> exact le (by omega)
      rw [upd_ne (Nat.ne_of_lt lt)]
      exact (hf c hcm).1
  · intro X hP hw hK hc i pins s σ H E I hf st hg
    subst hP hw hK
    obtain ⟨z1, z2, ⟨x0, y0, z3⟩, h1, h2⟩ := st
    obtain ⟨xs, ys, sx, sy, e1, e2⟩ := hg
    obtain ⟨us, ru, pu, _⟩ := I.tuple sx
    obtain ⟨vs, rv, pv, _⟩ := I.list sy
    have lu : us.toArray.size = i := by have := ru.length; rw [List.size_toArray, ← this, ← e1]
    have lv : vs.toArray.size = i := by have := rv.length; rw [List.size_toArray, ← this, ← e2]
    have h0 : (X.A.in1).handled = none := I.ok.hd hc
    exact wpAny_pyNext_zipD2_end (n1 := us.toArray.size) (n2 := vs.toArray.size) S (Draws.tuple h0 n a (ne (by omega)) us.toArray) (Draws.list h0 (n + 1) b (ne (by omega)) vs.toArray) z1 z2 z3 ⟨h1, pu⟩ ⟨h2, pv.isList⟩ (Nat.le_of_eq lu.symm) (Nat.le_of_eq lv.symm) (.inl lu.symm) fun h' tk q =>
      ⟨rfl, I.turnedL (t' := tk) (ch := [n + 4, n + 2, n + 3, n, n + 1]) (fun c o nc e => q c o (fun z => nc (by simp [z])) (fun z => nc (by simp [z])) (fun z => nc (by simp [z])) (fun z => nc (by simp [z])) e) hf⟩
def iZipM (K : PySem.W.Frag) (ta : TA) : TI := fun σ H R => ta σ H fun vs H1 => ∃ a b xs ys, vs = [.ref a, .ref b] ∧ SqT K H1 a xs ∧ SqL K H1 b ys ∧ R (ItM K a b) H1
theorem pi_zipM {X : Cx} {e e2 : Expr} {ta : TA} {p pos tpos : Pos} {elts : List Expr} {kk : Nat} (hg : Gl X "zip") (hm : X.mg "zip" = none) (ha : PA X [e, e2] ta)
    (hst : starEach [e, e2] X.env = (false, eval e X.env) :: starEach [e2] X.env := by rfl) (hpl : (backTo pos (starEach [e2] X.env)).any (·.1) = false := by rfl) :
    PI X (.Tuple elts kk tpos) (.Call (.Name "zip" p) [e, e2] [] pos) (iZipM X.K ta) := by
  constructor
  intro pins s σ H R I h
  refine Call_ (ld_blt I hg hm PyProof.Rows.boot_zip (PyProof.Rows.callWith_type1 (thn (ha.run pos pins s σ H _ I h) ?_) hst hpl))
  rintro us s1 ⟨vs, H1, I1, r1, a, b, xs, ys, rfl, sx, sy, q⟩
  cases r1 with
  | cons ra r1 => cases r1 with
    | cons rb r1 =>
      cases r1
      cases ra
      cases rb
      obtain ⟨ua, _, pa, _⟩ := I1.tuple sx
      obtain ⟨ub, _, pb, _⟩ := I1.list sy
      obtain ⟨oa, la, _⟩ := id pa
      refine call_zm (show s1.heap.IsTuple a ua.toArray from pa) pb.isList fun h' st kp => wpAny_pyIter_zip st.1 ?_
      refine ⟨s1.heap.objs.size + 4, [s1.heap.objs.size + 4, s1.heap.objs.size + 2, s1.heap.objs.size + 3, s1.heap.objs.size, s1.heap.objs.size + 1], _, _, H1, rfl, I1.kept (t' := s1.toks) kp, turn_zm (Heap.lt_size la) pb.lt, ⟨st.1, st.2.1, ⟨_, _, st.2.2.1⟩, st.2.2.2.1, st.2.2.2.2⟩, fun c hc => ?_, q⟩
      have le : s1.heap.objs.size ≤ c := by
        simp only [List.mem_cons, List.not_mem_nil, or_false] at hc
        rcases hc with rfl | rfl | rfl | rfl | rfl <;> omega
      exact I1.fpOk le (I1.hok.fresh le)
/-- a loop over such a zip -/
theorem for_zipM {K : PySem.W.Frag} {a b : Addr} {xs ys : List V} {g : TG} {tb : TS} {D : Ends} {σ : L2.St} {H : Hp} (hl : xs.length = ys.length) (Pv : Nat → L2.St → Hp → Prop) (h0 : Pv 0 σ H) (hq : ∀ i σ H, Pv i σ H → SqT K H a xs ∧ SqL K H b ys)
    (step : ∀ (i : Nat) (x y : V) (T : Addr) (σ : L2.St) (H : Hp), xs[i]? = some x → ys[i]? = some y → Pv i σ H → H T = none → g (.ref T) σ (upd H T (.tup [x, y])) fun σ2 H2 => tb { D with nx := Pv (i + 1), ct := Pv (i + 1), bk := D.nx } σ2 H2) (last : ∀ σ H, Pv xs.length σ H → D.nx σ H) :
    ∃ W : Nat → Nat → L2.St → Hp → Prop, (∃ m, W 0 m σ H) ∧ ∀ i m σ H, W i m σ H →
      ((ItM K a b).stop i H ∧ D.nx σ H) ∨ ((ItM K a b).go i H ∧ ∃ N : L2.St → Hp → Prop, (∀ σ' H', N σ' H' → ∃ m', m' < m ∧ W (i + 1) m' σ' H') ∧ ∀ v H', (ItM K a b).yld i H v H' → g v σ H' fun σ2 H2 => tb { D with nx := N, ct := N, bk := D.nx } σ2 H2) := by
  refine ⟨fun i m σ H => m + i = xs.length ∧ Pv i σ H, ⟨xs.length, rfl, h0⟩, ?_⟩
  rintro i m σ H ⟨em, p⟩
  obtain ⟨sx, sy⟩ := hq i σ H p
  match m, em with
  | 0, em =>
    have e : i = xs.length := by omega
    subst e
    exact .inl ⟨⟨xs, ys, sx, sy, rfl, hl⟩, last σ H p⟩
  | m + 1, em =>
    have l1 : i < xs.length := by omega
    have l2 : i < ys.length := by omega
    refine .inr ⟨⟨xs, ys, _, _, sx, sy, List.getElem?_eq_getElem l1, List.getElem?_eq_getElem l2⟩, Pv (i + 1), fun σ' H' p' => ⟨m, Nat.lt_succ_self _, by omega, p'⟩, ?_⟩
    rintro v H' ⟨T, x, y, rfl, hT, rfl, f1, f2⟩
    exact step i x y T σ H (f1 xs sx) (f2 ys sy) p hT
end
/-! ### numbers (a + b root of d) / c: their whole parts, what is left of them, in plain Lean -/
theorem fdiv_unique_neg {a b q r : Int} (hb : b < 0) (h : a = q * b + r) (h0 : r ≤ 0) (h1 : b < r) : a.fdiv b = q := by
  have := (fdiv_unique (a := -a) (b := -b) (q := q) (r := -r) (by omega) (by rw [h]; grind) (by omega) (by omega)).1
  rw [Int.neg_fdiv_neg] at this
  exact this
theorem fdiv_scale {g A C : Int} (hg : g ≠ 0) (hC : 0 < C) : (g * A).fdiv (g * C) = A.fdiv C ∧ (g * A).fmod (g * C) = g * A.fmod C := by
  have e := fdm A C
  obtain ⟨m0, m1⟩ := fmod_pos (a := A) hC
  have k : (g * A).fdiv (g * C) = A.fdiv C := by
    rcases Int.lt_or_gt_of_ne hg with z | z
    · have p1 := Int.mul_nonneg (show 0 ≤ -g by omega) m0
      have p2 := Int.mul_pos (show 0 < -g by omega) (show 0 < C - A.fmod C by omega)
      have p3 := Int.mul_pos (show 0 < -g by omega) hC
      refine fdiv_unique_neg (r := g * A.fmod C) (by have : -g * C = -(g * C) := by grind
                                                     omega) ?_ (by have : -g * A.fmod C = -(g * A.fmod C) := by grind
                                                                   omega) (by have : -g * (C - A.fmod C) = -(g * C) + g * A.fmod C := by grind
                                                                              omega)
      generalize A.fmod C = m at *
      generalize A.fdiv C = q at *
      rw [← e]
      grind
    · have p1 := Int.mul_nonneg (show 0 ≤ g by omega) m0
      have p2 := Int.mul_pos z (show 0 < C - A.fmod C by omega)
      refine (fdiv_unique (r := g * A.fmod C) (Int.mul_pos z hC) ?_ p1 (by have : g * (C - A.fmod C) = g * C - g * A.fmod C := by grind
                                                                           omega)).1
      generalize A.fmod C = m at *
      generalize A.fdiv C = q at *
      rw [← e]
      grind
  refine ⟨k, ?_⟩
  have e2 := fdm (g * A) (g * C)
  rw [k] at e2
  generalize A.fmod C = m at *
  generalize A.fdiv C = q at *
  have : g * C * q = g * (C * q) := Int.mul_assoc _ _ _
  have : g * A = g * (C * q) + g * m := by rw [← e]; grind
  omega
theorem root_max {n r z : Int} (h : IsRoot n r) (hz : z * z ≤ n) : z ≤ r := by
  obtain ⟨h0, h1, h2⟩ := h
  rcases Int.lt_or_le r z with y | y
  · have := Int.mul_le_mul (show r + 1 ≤ z by omega) (show r + 1 ≤ z by omega) (by omega) (by omega)
    omega
  · exact y
/-- z against a root, and the same times g -/
theorem root_times {s r r' g z : Int} (hg : 0 < g) (h : IsRoot (g * g * s) r) (h' : IsRoot s r') : (z ≤ r' → g * z ≤ r) ∧ (r' < z → r < g * z) := by
  refine ⟨fun hz => ?_, fun hz => ?_⟩
  · rcases Int.lt_or_le 0 z with y | y
    · refine root_max h ?_
      have k1 := Int.mul_le_mul hz hz (by omega) h'.1
      have k2 := Int.mul_le_mul_of_nonneg_left (show z * z ≤ s from Int.le_trans k1 h'.2.1) (sq_nonneg g)
      have : g * z * (g * z) = g * g * (z * z) := by grind
      omega
    · have := Int.mul_nonneg (show 0 ≤ g by omega) (show 0 ≤ -z by omega)
      have e : g * -z = -(g * z) := by grind
      have := h.1
      omega
  · rcases Int.lt_or_le r (g * z) with y | y
    · exact y
    · exfalso
      have z0 : 0 < z := by have := h'.1; omega
      have gz : 0 < g * z := Int.mul_pos hg z0
      have k1 := Int.mul_le_mul y y (by omega) h.1
      have k2 : s < z * z := by
        have := Int.mul_le_mul (show r' + 1 ≤ z by omega) (show r' + 1 ≤ z by omega) (by have := h'.1; omega) (by omega)
        have := h'.2.2
        omega
      have k3 := Int.mul_lt_mul_of_pos_left k2 (Int.mul_pos hg hg)
      have e : g * z * (g * z) = g * g * (z * z) := by grind
      have := h.2.1
      omega
/-- the whole part, as the laws reckon it -/
def qroot (B d r' : Int) : Int := if B < 0 then 0 - r' - (if r' * r' < B * B * d then 1 else 0) else r'
def qbelow (A B C d r' : Int) : Int := (A + qroot B d r').fdiv C
theorem qfloor {A B C d g r r' : Int} (hg : g ≠ 0) (hC : 0 < C) (hB : 0 < g * B) (hr : IsRoot (g * B * (g * B) * d) r) (hn : r * r ≠ g * B * (g * B) * d) (hr' : IsRoot (B * B * d) r') : qbelow A B C d r' = rootPart (g * A) (g * C) r := by
  have e0 : g * B * (g * B) * d = g * g * (B * B * d) := by grind
  rw [e0] at hr hn
  have key : ∀ n : Int, qbelow A B C d r' = n → rootPart (g * A) (g * C) r = n := fun n hq => by
    unfold qbelow at hq
    have e := fdm (A + qroot B d r') C
    obtain ⟨m0, m1⟩ := fmod_pos (a := A + qroot B d r') hC
    rw [hq] at e
    unfold rootPart
    rcases Int.lt_or_gt_of_ne hg with z | z
    · have hBn : B < 0 := by
        rcases Int.lt_or_le B 0 with y | y
        · exact y
        · have := Int.mul_nonneg (show 0 ≤ -g by omega) y
          have e1 : -g * B = -(g * B) := by grind
          omega
      have hsq : r' * r' < B * B * d := by
        rcases Int.lt_or_le (r' * r') (B * B * d) with y | y
        · exact y
        · exfalso
          have e1 : r' * r' = B * B * d := by have := hr'.2.1; omega
          have e2 : (-g * r') * (-g * r') = g * g * (B * B * d) := by rw [← e1]; grind
          have h0 : 0 ≤ -g * r' := Int.mul_nonneg (by omega) hr'.1
          have e3 : (-g * r' + 1) * (-g * r' + 1) = (-g * r') * (-g * r') + 2 * (-g * r') + 1 := by grind
          have u := hr.unique (s := -g * r') ⟨h0, by omega, by omega⟩
          rw [u] at hn
          exact hn e2
      have eq : qroot B d r' = -r' - 1 := by
        unfold qroot
        rw [if_pos hBn, if_pos hsq]
        omega
      rw [eq] at e m0 m1
      have hQ : g * C < 0 := by
        have := Int.mul_pos (show 0 < -g by omega) hC
        have e1 : -g * C = -(g * C) := by grind
        omega
      rw [if_pos hQ]
      have e4 : -g * -g * (B * B * d) = g * g * (B * B * d) := by grind
      obtain ⟨_, t2⟩ := root_times (g := -g) (s := B * B * d) (r := r) (z := A - n * C) (by omega) (by rw [e4]; exact hr) hr'
      obtain ⟨t1, _⟩ := root_times (g := -g) (s := B * B * d) (r := r) (z := A - (n + 1) * C) (by omega) (by rw [e4]; exact hr) hr'
      have c1 : C * n = n * C := Int.mul_comm _ _
      have c2 : (n + 1) * C = n * C + C := by grind
      have b1 := t2 (by omega)
      have b2 := t1 (by omega)
      have e5 : -g * (A - n * C) = g * (n * C) - g * A := by grind
      have e6 : -g * (A - (n + 1) * C) = g * (n * C) + g * C - g * A := by grind
      have e7 : n * (g * C) = g * (n * C) := by grind
      exact fdiv_unique_neg (r := g * A + r + 1 - n * (g * C)) hQ (by omega) (by omega) (by omega)
    · have hBp : ¬ B < 0 := fun y => by
        have := Int.mul_nonneg (show 0 ≤ g by omega) (show 0 ≤ -B by omega)
        have e1 : g * -B = -(g * B) := by grind
        omega
      have eq : qroot B d r' = r' := by
        unfold qroot
        rw [if_neg hBp]
      rw [eq] at e m0 m1
      have hQ : 0 < g * C := Int.mul_pos z hC
      rw [if_neg (by omega)]
      obtain ⟨t1, _⟩ := root_times (g := g) (s := B * B * d) (r := r) (z := n * C - A) z hr hr'
      obtain ⟨_, t2⟩ := root_times (g := g) (s := B * B * d) (r := r) (z := (n + 1) * C - A) z hr hr'
      have c1 : C * n = n * C := Int.mul_comm _ _
      have c2 : (n + 1) * C = n * C + C := by grind
      have b1 := t1 (by omega)
      have b2 := t2 (by omega)
      have e5 : g * (n * C - A) = g * (n * C) - g * A := by grind
      have e6 : g * ((n + 1) * C - A) = g * (n * C) + g * C - g * A := by grind
      have e7 : n * (g * C) = g * (n * C) := by grind
      exact (fdiv_unique (r := g * A + r + 0 - n * (g * C)) hQ (by omega) (by omega) (by omega)).1
  exact (key _ rfl).symm
/-- no common factor -/
def Prim (a b c : Int) : Prop := Int.gcd (Int.gcd a b : Nat) c = 1
theorem prim_dvd {a b c h k : Int} (p : Prim a b c) (ha : h ∣ k * a) (hb : h ∣ k * b) (hc : h ∣ k * c) : h ∣ k := by
  have h1 : h ∣ (Int.gcd (k * a) (k * b) : Nat) := Int.dvd_coe_gcd ha hb
  rw [Int.gcd_mul_left] at h1
  have h2 : h ∣ k * (Int.gcd a b : Nat) := by
    rw [Int.natCast_mul] at h1
    rcases Int.le_total 0 k with z | z
    · rw [show ((k.natAbs : Nat) : Int) = k by omega] at h1
      exact h1
    · rw [show ((k.natAbs : Nat) : Int) = -k by omega, Int.neg_mul] at h1
      exact Int.dvd_neg.mp h1
  have h3 : h ∣ (Int.gcd (k * (Int.gcd a b : Nat)) (k * c) : Nat) := Int.dvd_coe_gcd h2 hc
  rw [Int.gcd_mul_left, show Int.gcd (Int.gcd a b : Nat) c = 1 from p, Nat.mul_one] at h3
  exact Int.dvd_natAbs.mp h3
/-- a law's number beside a chain: the same number -/
def QRel (d A B C : Int) : Chain → Prop
  | .frac t b => B = 0 ∧ ∃ g, g ≠ 0 ∧ t = g * A ∧ b = g * C
  | .root P s Q r => ∃ g, g ≠ 0 ∧ 0 < g * B ∧ P = g * A ∧ Q = g * C ∧ s = g * B * (g * B) * d
  | .ruled _ _ _ _ => False
/-- one over what is left -/
theorem qrel_next_root {d A B C P s Q r a h A3 B3 C3 : Int} (ok : RootOk P s Q r) (R : QRel d A B C (.root P s Q r)) (hC : 0 < C) (ha : a = rootPart P Q r) (hp : Prim A3 B3 C3)
    (e1 : C * (A - a * C) = h * A3) (e2 : -(C * B) = h * B3) (e3 : (A - a * C) * (A - a * C) - d * B * B = h * C3) (hC3 : 0 < C3) : QRel d A3 B3 C3 (Chain.next (.root P s Q r)) := by
  obtain ⟨g, hg, gB, rfl, rfl, hs⟩ := R
  have nx := root_next ok
  rw [← ha] at nx
  show QRel d A3 B3 C3 (.root (rootPart (g * A) (g * C) r * (g * C) - g * A) s ((s - (rootPart (g * A) (g * C) r * (g * C) - g * A) * (rootPart (g * A) (g * C) r * (g * C) - g * A)).fdiv (g * C)) r)
  rw [← ha]
  obtain ⟨q, hq⟩ : ∃ q, (s - (a * (g * C) - g * A) * (a * (g * C) - g * A)) = q * (g * C) := by
    obtain ⟨q0, h0⟩ := ok.dv
    refine ⟨q0 - a * (a * (g * C) - 2 * (g * A)), ?_⟩
    have : s - (a * (g * C) - g * A) * (a * (g * C) - g * A) = (s - g * A * (g * A)) - (a * (a * (g * C) - 2 * (g * A))) * (g * C) := by grind
    rw [this, h0]
    grind
  rw [hq, Int.mul_fdiv_cancel _ ok.nz]
  have hgC : g * C ≠ 0 := ok.nz
  -- C times the next numbers
  have k1 : C * (a * (g * C) - g * A) = (-g * h) * A3 := by
    have : C * (a * (g * C) - g * A) = -g * (C * (A - a * C)) := by grind
    rw [this, e1]
    grind
  have k2 : C * (g * B) = (-g * h) * B3 := by
    have : C * (g * B) = -g * -(C * B) := by grind
    rw [this, e2]
    grind
  have k3 : C * q = (-g * h) * C3 := by
    have z : (C * q - (-g * h) * C3) * g = 0 := by
      have w1 : q * (g * C) = g * g * (d * B * B - (A - a * C) * (A - a * C)) := by
        rw [← hq, hs]
        grind
      have w2 : d * B * B - (A - a * C) * (A - a * C) = -(h * C3) := by omega
      rw [w2] at w1
      have w3 : ∀ C q g h C3 : Int, (C * q - (-g * h) * C3) * g = q * (g * C) - g * g * -(h * C3) := by intros; grind
      rw [w3, w1]
      omega
    rcases Int.mul_eq_zero.mp z with y | y
    · omega
    · exact absurd y hg
  obtain ⟨g', hg'⟩ := prim_dvd hp (show C ∣ (-g * h) * A3 from ⟨_, k1.symm⟩) (show C ∣ (-g * h) * B3 from ⟨_, k2.symm⟩) (show C ∣ (-g * h) * C3 from ⟨_, k3.symm⟩)
  rw [hg'] at k1 k2 k3
  have cc : ∀ {x y : Int}, C * x = C * g' * y → x = g' * y := fun {x y} z => Int.eq_of_mul_eq_mul_left (show C ≠ 0 by omega) (by rw [z, Int.mul_assoc])
  have r1 := cc k1
  have r2 := cc k2
  have r3 := cc k3
  refine ⟨g', ?_, ?_, r1, r3, ?_⟩
  · intro z
    rw [z, Int.zero_mul] at r2
    omega
  · rw [← r2]
    exact gB
  · rw [← r2]
    exact hs
theorem qrel_next_frac {d A B C t b h A3 B3 C3 : Int} (R : QRel d A B C (.frac t b)) (hC : 0 < C) (hp : Prim A3 B3 C3)
    (e1 : C * (A - A.fdiv C * C) = h * A3) (e2 : -(C * B) = h * B3) (e3 : (A - A.fdiv C * C) * (A - A.fdiv C * C) - d * B * B = h * C3) (hC3 : 0 < C3) (hu : A - A.fdiv C * C ≠ 0) : QRel d A3 B3 C3 (Chain.next (.frac t b)) := by
  obtain ⟨rfl, g, hg, rfl, rfl⟩ := R
  obtain ⟨f1, f2⟩ := fdiv_scale (A := A) hg hC
  show QRel d A3 B3 C3 (.frac (g * C) ((g * A).fmod (g * C)))
  rw [f2, ← fmod_eq A C]
  generalize A - A.fdiv C * C = u at *
  have h0 : h ≠ 0 := fun z => by
    rw [z, Int.zero_mul] at e1
    rcases Int.mul_eq_zero.mp e1 with y | y <;> omega
  have hB3 : B3 = 0 := by
    rw [Int.mul_zero] at e2
    rcases Int.mul_eq_zero.mp (show h * B3 = 0 by omega) with y | y
    · exact absurd y h0
    · exact y
  refine ⟨hB3, ?_⟩
  -- u (gC, g u) = g h (A3, C3)
  have k1 : u * (g * C) = (g * h) * A3 := by
    have : u * (g * C) = g * (C * u) := by grind
    rw [this, e1]
    grind
  have k3 : u * (g * u) = (g * h) * C3 := by
    have e3' : u * u = h * C3 := by
      have : d * 0 * 0 = 0 := by grind
      omega
    have : u * (g * u) = g * (u * u) := by grind
    rw [this, e3']
    grind
  obtain ⟨g', hg'⟩ := prim_dvd hp (show u ∣ (g * h) * A3 from ⟨_, k1.symm⟩) (show u ∣ (g * h) * B3 from ⟨0, by rw [hB3]; grind⟩) (show u ∣ (g * h) * C3 from ⟨_, k3.symm⟩)
  rw [hg'] at k1 k3
  have cc : ∀ {x y : Int}, u * x = u * g' * y → x = g' * y := fun {x y} z => Int.eq_of_mul_eq_mul_left hu (by rw [z, Int.mul_assoc])
  have r1 := cc k1
  have r3 := cc k3
  refine ⟨g', fun z => ?_, r1, r3⟩
  rw [z, Int.zero_mul] at r1
  rcases Int.mul_eq_zero.mp r1 with w | w <;> omega
/-! ### the laws' own reckoning with (a + b root of d) / c -/
def bd (n : Nat) (z : Int) : Prop := z.natAbs < 2 ^ n
theorem bd.mono {m n : Nat} {z : Int} (h : bd m z) (hn : m ≤ n) : bd n z := Nat.lt_of_lt_of_le h (Nat.pow_le_pow_right (by decide) hn)
theorem bd.mul {m n : Nat} {x y : Int} (h : bd m x) (h' : bd n y) : bd (m + n) (x * y) := wide_lt h h'
theorem bd.add {n : Nat} {x y : Int} (h : bd n x) (h' : bd n y) : bd (n + 1) (x + y) := by
  have := Int.natAbs_add_le x y
  have e : 2 ^ (n + 1) = 2 ^ n + 2 ^ n := by rw [Nat.pow_succ]; omega
  have h1 : x.natAbs < 2 ^ n := h
  have h2 : y.natAbs < 2 ^ n := h'
  show (x + y).natAbs < 2 ^ (n + 1)
  omega
theorem bd.neg {n : Nat} {x : Int} (h : bd n x) : bd n (-x) := by
  show (-x).natAbs < _
  rw [Int.natAbs_neg]
  exact h
theorem bd.sub {n : Nat} {x y : Int} (h : bd n x) (h' : bd n y) : bd (n + 1) (x - y) := by
  rw [Int.sub_eq_add_neg]
  exact h.add h'.neg
theorem bd.cm {m n : Nat} {x y : Int} (h : bd m x) (h' : bd n y) (hm : 0 < m) (hn : 0 < n) (hs : m + n ≤ 100000000) : CMulW x y := wide_mul h h' hm hn hs
theorem bd.of_dvd {n : Nat} {a g x : Int} (h : bd n a) (e : a = g * x) (hg : g ≠ 0) : bd n x := by
  show x.natAbs < _
  have : a.natAbs = g.natAbs * x.natAbs := by rw [e, Int.natAbs_mul]
  have h1 : 1 * x.natAbs ≤ g.natAbs * x.natAbs := Nat.mul_le_mul_right _ (by omega)
  have h2 : a.natAbs < 2 ^ n := h
  omega
theorem bd0 {n : Nat} : bd n 0 := Nat.pow_pos (by decide)
theorem bd1 {n : Nat} (h : 0 < n) : bd n 1 := Nat.one_lt_two_pow (by omega)
/-- a made number: some triple without a common factor, below above nought -/
def MadeK (a b c : Int) (H : Hp) (Q : VK) : Prop := ∀ g a' b' c' p, a = g * a' → b = g * b' → c = g * c' → 0 < c' → g ≠ 0 → Prim a' b' c' → H p = none → Q (.ref p) (upd H p (.tup [.int a', .int b', .int c']))
section
variable {P : Program} {w : World} {K : PySem.W.Frag} {mg : Str → Option Value} {base : Heap} {A : Ad}
def sp_law_root : Sp := fun vs H Q _ => ∃ n : Int, vs = [.int n] ∧ 0 ≤ n ∧ bd 7000 n ∧ ∀ r, IsRoot n r → Q (.int r) H
theorem ok_law_root (D : DT K mg A) : COk P w K mg base CX0 1 "_law_root" ["_law_number"] sp_law_root := by
  refine COk.by D.law_root fun f fd F => ?_
  refine F.ok sc_law_root (fun vs H Q E h => ?_) (fun cdv Ar outer s H vs Q E hr h => ?_)
  · obtain ⟨n, rfl, _⟩ := h
    rfl
  · obtain ⟨n, rfl, h0, hw, k⟩ := h
    refine ⟨_, (pss_cons (ps_set (i := 1) sc_law_root.nd rfl (Or.inl rfl) pe_int)
    (pss_cons (ps_set (i := 2) sc_law_root.nd rfl (Or.inl rfl) (pe_op op_shl pe_int (pe_op op_add (pe_op op_fdiv (pe_bits (pv 0)) pe_int) pe_int)))
    (pss_cons (ps_while PassesOwn.never (pt_cmpR op_gt (pe_op op_sub (pv 2) (pv 1)) pe_int (nomark _))
      (pss_cons (ps_set (i := 3) sc_law_root.nd rfl (Or.inl rfl) (pe_op op_fdiv (pe_op op_add (pv 1) (pv 2)) pe_int))
    (pss_one (ps_if (pt_cmpR op_le (pe_op op_mulW (pv 3) (pv 3)) (pv 0) (nomark _))
      (pss_one (ps_set (i := 1) sc_law_root.nd rfl (Or.inl rfl) (pv 3))) (pss_one (ps_set (i := 2) sc_law_root.nd rfl (Or.inl rfl) (pv 3)))))))
    (pss_one (ps_ret (pv 1)))))), ?_⟩
    have hbits : Builtin.Int.intBits n ≤ 7000 := PyProof.Rows.intBits_le hw
    have hb : n < (2 : Int) ^ Builtin.Int.intBits n := by
      unfold Builtin.Int.intBits
      split
      · rename_i z
        have : n = 0 := by simpa using z
        subst this
        decide
      · have := Nat.lt_log2_self (n := n.natAbs)
        have e : ((2 ^ (n.natAbs.log2 + 1) : Nat) : Int) = 2 ^ (n.natAbs.log2 + 1) := by norm_cast
        omega
    refine ⟨_, rfl, _, rfl, _, _, rfl, rfl, ⟨by decide, by decide⟩, _, _, rfl, rfl, _, _, rfl, rfl, ⟨by omega, by omega, by decide⟩, ?_⟩
    have e0 : ((Builtin.Int.intBits n : Nat) : Int) / 2 + 1 = ((Builtin.Int.intBits n / 2 + 1 : Nat) : Int) := by omega
    have e1 : (1 : Int) * 2 ^ (((Builtin.Int.intBits n : Nat) : Int) / 2 + 1).toNat = 2 ^ (Builtin.Int.intBits n / 2 + 1) := by rw [e0, Int.toNat_natCast, Int.one_mul]
    show tSeq _ _ _ [some (V.int n), some (V.int 0), some (V.int ((1 : Int) * 2 ^ (((Builtin.Int.intBits n : Nat) : Int) / 2 + 1).toNat)), none] H
    rw [e1]
    generalize Builtin.Int.intBits n = m at *
    have hsq : n < (2 : Int) ^ (m / 2 + 1) * 2 ^ (m / 2 + 1) := by
      rw [← Int.pow_add]
      have z := Nat.pow_le_pow_right (n := 2) (by decide) (show m ≤ m / 2 + 1 + (m / 2 + 1) by omega)
      have z2 : (2 : Int) ^ m ≤ 2 ^ (m / 2 + 1 + (m / 2 + 1)) := by exact_mod_cast z
      omega
    have hpos : (0 : Int) < 2 ^ (m / 2 + 1) := Int.pow_pos (by decide)
    have hbig : (2 : Int) ^ (m / 2 + 1) < 2 ^ 4000 := Int.pow_lt_pow_of_lt (by decide) (by omega)
    generalize (2 : Int) ^ (m / 2 + 1) = hi at *
    refine while_by (fun σ H2 => ∃ (lo hi : Int) (v : Option V), σ = [some (.int n), some (.int lo), some (.int hi), v] ∧ 0 ≤ lo ∧ lo < hi ∧ hi < 2 ^ 4000 ∧ lo * lo ≤ n ∧ n < hi * hi ∧ H2 = H)
      (fun σ _ => match σ with | [_, some (.int lo), some (.int hi), _] => (hi - lo).toNat | _ => 0) ⟨0, hi, none, rfl, by decide, hpos, hbig, by omega, hsq, rfl⟩ ?_ ?_
    · rintro σ H2 ⟨lo, hi, v, rfl, l0, lh, hb2, l1, h1, rfl⟩
      refine ⟨_, rfl, _, rfl, _, _, rfl, rfl, _, _, rfl, rfl, _, rfl, ite2 (fun c => ?_) (fun c => ?_)⟩
      · have c' : 1 < hi - lo := of_decide_eq_true c
        have mid0 : 0 ≤ (lo + hi) / 2 := by omega
        have midb : (lo + hi) / 2 < 2 ^ 4000 := by omega
        have cm : CMulW ((lo + hi) / 2) ((lo + hi) / 2) := wide_mul (a := 4000) (b := 4000) (natAbs_lt_pow mid0 midb) (natAbs_lt_pow mid0 midb) (by decide) (by decide) (by decide)
        refine ⟨_, rfl, _, rfl, _, _, rfl, rfl, _, _, rfl, rfl, ⟨by decide, by decide⟩, ?_⟩
        refine ⟨_, rfl, _, rfl, _, _, rfl, rfl, cm, _, rfl, _, _, rfl, rfl, _, rfl, ite2 (fun c2 => ?_) (fun c2 => ?_)⟩
        · have c2' : (lo + hi) / 2 * ((lo + hi) / 2) ≤ n := of_decide_eq_true c2
          exact ⟨_, rfl, ⟨_, _, _, rfl, mid0, by omega, hb2, c2', h1, rfl⟩, by show (hi - (lo + hi) / 2).toNat < (hi - lo).toNat; omega⟩
        · have c2' : ¬ (lo + hi) / 2 * ((lo + hi) / 2) ≤ n := fun z => c2 (decide_eq_true z)
          exact ⟨_, rfl, ⟨_, _, _, rfl, l0, by omega, midb, l1, by omega, rfl⟩, by show ((lo + hi) / 2 - lo).toNat < (hi - lo).toNat; omega⟩
      · have c' : ¬ 1 < hi - lo := fun z => c (decide_eq_true z)
        have e : hi = lo + 1 := by omega
        subst e
        exact ⟨_, rfl, k lo ⟨l0, l1, h1⟩⟩
    · intro σ H2 Q1 Q2 im hq
      obtain ⟨x, e, y, e2, i, j, e3, e4, i2, j2, e5, e6, b, e7, z⟩ := hq
      exact ⟨x, e, y, e2, i, j, e3, e4, i2, j2, e5, e6, b, e7, im _ _ z⟩
def sp_law_made : Sp := fun vs H Q _ => ∃ a b c : Int, vs = [.int a, .int b, .int c] ∧ c ≠ 0 ∧ bd 7000 a ∧ bd 7000 b ∧ bd 7000 c ∧ MadeK a b c H Q
theorem ok_law_made (D : DT K mg A) (G_law_common : COk P w K mg base CX0 1 "_law_common" ["_law_one", "_law_other"] sp_law_common) : COk P w K mg base CX0 2 "_law_made" ["_law_a", "_law_b", "_law_c"] sp_law_made := by
  refine COk.by D.law_made fun f fd F => ?_
  refine F.ok sc_law_made (fun vs H Q E h => ?_) (fun cdv Ar outer s H vs Q E hr h => ?_)
  · obtain ⟨a, b, c, rfl, _⟩ := h
    rfl
  · obtain ⟨a, b, c, rfl, hc, ba, bb, bc, k⟩ := h
    refine ⟨_, (pss_cons (ps_set (i := 3) sc_law_made.nd rfl (Or.inl rfl) (pe_c G_law_common (hr.mono (by first | decide | omega)) (pa_cons (pe_c G_law_common (hr.mono (by first | decide | omega)) (pa_cons (pv 0) (pa_cons (pv 1) pa_nil))) (pa_cons (pv 2) pa_nil))))
    (C8.pss_cut (ps_if (pt_cmpR op_lt (pv 2) pe_int (nomark _))
      (pss_one (ps_set (i := 3) sc_law_made.nd rfl (Or.inl rfl) (pe_op op_sub pe_int (pv 3)))) pss_nil)
    (pss_one (ps_ret (pe_tup (pa_cons (pe_op op_fdivS (pv 0) (pv 3)) (pa_cons (pe_op op_fdivS (pv 1) (pv 3)) (pa_cons (pe_op op_fdivS (pv 2) (pv 3)) pa_nil)))))))), ?_⟩
    refine ⟨_, rfl, _, rfl, a, b, rfl, _, rfl, _, c, rfl, ?_⟩
    obtain ⟨G, hG⟩ : ∃ G : Nat, Int.gcd (Int.gcd a b : Nat) c = G := ⟨_, rfl⟩
    have hG0 : G ≠ 0 := fun z => by
      rw [z] at hG
      exact hc (Int.gcd_eq_zero_iff.mp hG).2
    have dc : (G : Int) ∣ c := by rw [← hG]; exact Int.gcd_dvd_right ..
    have dab : (G : Int) ∣ (Int.gcd a b : Nat) := by rw [← hG]; exact Int.gcd_dvd_left ..
    have da : (G : Int) ∣ a := Int.dvd_trans dab (Int.gcd_dvd_left ..)
    have db : (G : Int) ∣ b := Int.dvd_trans dab (Int.gcd_dvd_right ..)
    obtain ⟨g, hg⟩ : ∃ g : Int, g = if c < 0 then -(G : Int) else G := ⟨_, rfl⟩
    have g0 : g ≠ 0 := by rw [hg]; split <;> omega
    have hgd : ∀ {z : Int}, (G : Int) ∣ z → ∃ z', z = g * z' := fun {z} h => by
      obtain ⟨y, hy⟩ := h
      rw [hg]
      split
      · exact ⟨-y, by rw [hy]; grind⟩
      · exact ⟨y, hy⟩
    obtain ⟨a', ea⟩ := hgd da
    obtain ⟨b', eb⟩ := hgd db
    obtain ⟨c', ec⟩ := hgd dc
    have c0 : 0 < c' := by
      rcases Int.lt_or_le 0 c' with z | z
      · exact z
      · exfalso
        by_cases y : c < 0
        · rw [if_pos y] at hg
          have := Int.mul_nonneg_of_nonpos_of_nonpos (show g ≤ 0 by omega) z
          omega
        · rw [if_neg y] at hg
          have := Int.mul_nonneg (show 0 ≤ g by omega) (show 0 ≤ -c' by omega)
          have e : g * -c' = -(g * c') := by grind
          omega
    have hprim : Prim a' b' c' := by
      have h1 : G = g.natAbs := by rw [hg]; split <;> omega
      rw [ea, eb, ec, Int.gcd_mul_left] at hG
      have h2 : Int.gcd ((g.natAbs * Int.gcd a' b' : Nat) : Int) (g * c') = g.natAbs * Int.gcd (Int.gcd a' b' : Nat) c' := by
        have h3 : Int.gcd (g * (Int.gcd a' b' : Nat)) (g * c') = g.natAbs * Int.gcd (Int.gcd a' b' : Nat) c' := Int.gcd_mul_left ..
        rw [← h3]
        generalize Int.gcd a' b' = m
        unfold Int.gcd
        congr 1
        rw [Int.natAbs_mul, Int.natAbs_natCast, Int.natAbs_natCast]
      rw [h2, h1] at hG
      have : g.natAbs * Int.gcd (Int.gcd a' b' : Nat) c' = g.natAbs * 1 := by omega
      exact Nat.eq_of_mul_eq_mul_left (by omega) this
    have bg : CDivS a g ∧ CDivS b g ∧ CDivS c g := by
      have : g.natAbs < 2 ^ 8000 := by
        have z : bd 7000 g := bc.of_dvd (g := c') (by rw [ec, Int.mul_comm]) (by omega)
        exact Nat.lt_trans z (Nat.pow_lt_pow_right (by decide) (by decide))
      exact ⟨⟨g0, this⟩, ⟨g0, this⟩, ⟨g0, this⟩⟩
    refine ⟨fun σ H2 => σ = [some (.int a), some (.int b), some (.int c), some (.int g)] ∧ H2 = H, ?_, ?_⟩
    · refine ⟨_, rfl, _, _, rfl, rfl, _, rfl, ite2 (fun cc => ?_) (fun cc => ?_)⟩
      · have c' : c < 0 := of_decide_eq_true cc
        refine ⟨_, rfl, _, _, rfl, rfl, ?_, rfl⟩
        show [some (V.int a), some (V.int b), some (V.int c), some (V.int (0 - ((Int.gcd (Int.gcd a b : Nat) c : Nat) : Int)))] = _
        rw [hG, show (0 : Int) - (G : Int) = g by rw [hg, if_pos c']; omega]
      · have c' : ¬ c < 0 := fun z => cc (decide_eq_true z)
        refine ⟨?_, rfl⟩
        show [some (V.int a), some (V.int b), some (V.int c), some (V.int ((Int.gcd (Int.gcd a b : Nat) c : Nat) : Int))] = _
        rw [hG, show ((G : Nat) : Int) = g by rw [hg, if_neg c']]
    · rintro σ H2 ⟨rfl, rfl⟩
      refine ⟨_, rfl, _, rfl, _, _, rfl, rfl, bg.1, _, rfl, _, rfl, _, _, rfl, rfl, bg.2.1, _, rfl, _, rfl, _, _, rfl, rfl, bg.2.2, (by show 3 ≤ sizeLine; decide), fun p hp => ?_⟩
      show Q (.ref p) (upd H2 p (.tup [.int (a.fdiv g), .int (b.fdiv g), .int (c.fdiv g)]))
      have q1 : a.fdiv g = a' := by rw [ea]; exact Int.mul_fdiv_cancel_left _ g0
      have q2 : b.fdiv g = b' := by rw [eb]; exact Int.mul_fdiv_cancel_left _ g0
      have q3 : c.fdiv g = c' := by rw [ec]; exact Int.mul_fdiv_cancel_left _ g0
      rw [q1, q2, q3]
      exact k g a' b' c' p ea eb ec c0 g0 hprim hp
def T3 (K : PySem.W.Frag) (H : Hp) (p : Addr) (a b c : Int) : Prop := SqT K H p [.int a, .int b, .int c]
def sp_law_sum (K : PySem.W.Frag) : Sp := fun vs H Q _ => ∃ (p q : Addr) (a0 a1 a2 b0 b1 b2 z : Int), vs = [.ref p, .ref q, .int z] ∧ T3 K H p a0 a1 a2 ∧ T3 K H q b0 b1 b2 ∧ a2 * b2 ≠ 0 ∧ (bd 1500 a0 ∧ bd 1500 a1 ∧ bd 1500 a2) ∧ (bd 1500 b0 ∧ bd 1500 b1 ∧ bd 1500 b2) ∧ bd 1500 z ∧
  MadeK (a0 * b2 + z * b0 * a2) (a1 * b2 + z * b1 * a2) (a2 * b2) H Q
theorem ok_law_sum (D : DT K mg A) (G_law_made : COk P w K mg base CX0 2 "_law_made" ["_law_a", "_law_b", "_law_c"] sp_law_made) : COk P w K mg base CX0 3 "_law_sum" ["_law_one", "_law_other", "_law_by"] (sp_law_sum K) := by
  refine COk.by D.law_sum fun f fd F => ?_
  refine F.ok sc_law_sum (fun vs H Q E h => ?_) (fun cdv Ar outer s H vs Q E hr h => ?_)
  · obtain ⟨p, q, a0, a1, a2, b0, b1, b2, z, rfl, _⟩ := h
    rfl
  · obtain ⟨p, q, a0, a1, a2, b0, b1, b2, z, rfl, hp, hq, hc, ⟨x0, x1, x2⟩, ⟨y0, y1, y2⟩, hz, k⟩ := h
    refine ⟨_, (pss_cons (ps_set (i := 3) sc_law_sum.nd rfl (Or.inl rfl) (pe_op op_add (pe_op op_mulW (pe_ix ix_tup (pv 0) pe_int (fun _ _ => rfl)) (pe_ix ix_tup (pv 1) pe_int (fun _ _ => rfl))) (pe_op op_mulW (pe_op op_mulW (pv 2) (pe_ix ix_tup (pv 1) pe_int (fun _ _ => rfl))) (pe_ix ix_tup (pv 0) pe_int (fun _ _ => rfl)))))
    (pss_one (ps_ret (pe_c G_law_made (hr.mono (by first | decide | omega)) (pa_cons (pv 3) (pa_cons (pe_op op_add (pe_op op_mulW (pe_ix ix_tup (pv 0) pe_int (fun _ _ => rfl)) (pe_ix ix_tup (pv 1) pe_int (fun _ _ => rfl))) (pe_op op_mulW (pe_op op_mulW (pv 2) (pe_ix ix_tup (pv 1) pe_int (fun _ _ => rfl))) (pe_ix ix_tup (pv 0) pe_int (fun _ _ => rfl)))) (pa_cons (pe_op op_mulW (pe_ix ix_tup (pv 0) pe_int (fun _ _ => rfl)) (pe_ix ix_tup (pv 1) pe_int (fun _ _ => rfl))) pa_nil))))))), ?_⟩
    refine ⟨_, rfl, p, _, 0, _, rfl, rfl, hp, atI_nat (j := 0) rfl, _, rfl, q, _, 2, _, rfl, rfl, hq, atI_nat (j := 2) rfl, _, _, rfl, rfl, x0.cm y2 (by decide) (by decide) (by decide), ?_⟩
    refine ⟨_, rfl, _, rfl, q, _, 0, _, rfl, rfl, hq, atI_nat (j := 0) rfl, _, _, rfl, rfl, hz.cm y0 (by decide) (by decide) (by decide), _, rfl, p, _, 2, _, rfl, rfl, hp, atI_nat (j := 2) rfl, _, _, rfl, rfl, (hz.mul y0).cm x2 (by decide) (by decide) (by decide), _, _, rfl, rfl, ?_⟩
    refine ⟨_, rfl, _, rfl, p, _, 1, _, rfl, rfl, hp, atI_nat (j := 1) rfl, _, rfl, q, _, 2, _, rfl, rfl, hq, atI_nat (j := 2) rfl, _, _, rfl, rfl, x1.cm y2 (by decide) (by decide) (by decide), ?_⟩
    refine ⟨_, rfl, _, rfl, q, _, 1, _, rfl, rfl, hq, atI_nat (j := 1) rfl, _, _, rfl, rfl, hz.cm y1 (by decide) (by decide) (by decide), _, rfl, p, _, 2, _, rfl, rfl, hp, atI_nat (j := 2) rfl, _, _, rfl, rfl, (hz.mul y1).cm x2 (by decide) (by decide) (by decide), _, _, rfl, rfl, ?_⟩
    refine ⟨_, rfl, p, _, 2, _, rfl, rfl, hp, atI_nat (j := 2) rfl, _, rfl, q, _, 2, _, rfl, rfl, hq, atI_nat (j := 2) rfl, _, _, rfl, rfl, x2.cm y2 (by decide) (by decide) (by decide), ?_⟩
    exact ⟨_, _, _, rfl, hc, (((x0.mul y2).mono (show 3000 ≤ 4500 by decide)).add ((hz.mul y0).mul x2)).mono (by decide), (((x1.mul y2).mono (show 3000 ≤ 4500 by decide)).add ((hz.mul y1).mul x2)).mono (by decide), (x2.mul y2).mono (by decide), k⟩
def sp_law_product (K : PySem.W.Frag) : Sp := fun vs H Q _ => ∃ (p q : Addr) (a0 a1 a2 b0 b1 b2 d : Int), vs = [.ref p, .ref q, .int d] ∧ T3 K H p a0 a1 a2 ∧ T3 K H q b0 b1 b2 ∧ a2 * b2 ≠ 0 ∧ (bd 1500 a0 ∧ bd 1500 a1 ∧ bd 1500 a2) ∧ (bd 5000 b0 ∧ bd 5000 b1 ∧ bd 5000 b2) ∧ bd 100 d ∧
  MadeK (a0 * b0 + d * a1 * b1) (a0 * b1 + a1 * b0) (a2 * b2) H Q
theorem ok_law_product (D : DT K mg A) (G_law_made : COk P w K mg base CX0 2 "_law_made" ["_law_a", "_law_b", "_law_c"] sp_law_made) : COk P w K mg base CX0 3 "_law_product" ["_law_one", "_law_other", "_law_d"] (sp_law_product K) := by
  refine COk.by D.law_product fun f fd F => ?_
  refine F.ok sc_law_product (fun vs H Q E h => ?_) (fun cdv Ar outer s H vs Q E hr h => ?_)
  · obtain ⟨p, q, a0, a1, a2, b0, b1, b2, z, rfl, _⟩ := h
    rfl
  · obtain ⟨p, q, a0, a1, a2, b0, b1, b2, d, rfl, hp, hq, hc, ⟨x0, x1, x2⟩, ⟨y0, y1, y2⟩, hz, k⟩ := h
    refine ⟨_, (pss_cons (ps_set (i := 3) sc_law_product.nd rfl (Or.inl rfl) (pe_op op_add (pe_op op_mulW (pe_ix ix_tup (pv 0) pe_int (fun _ _ => rfl)) (pe_ix ix_tup (pv 1) pe_int (fun _ _ => rfl))) (pe_op op_mulW (pe_op op_mulW (pv 2) (pe_ix ix_tup (pv 0) pe_int (fun _ _ => rfl))) (pe_ix ix_tup (pv 1) pe_int (fun _ _ => rfl)))))
    (pss_one (ps_ret (pe_c G_law_made (hr.mono (by first | decide | omega)) (pa_cons (pv 3) (pa_cons (pe_op op_add (pe_op op_mulW (pe_ix ix_tup (pv 0) pe_int (fun _ _ => rfl)) (pe_ix ix_tup (pv 1) pe_int (fun _ _ => rfl))) (pe_op op_mulW (pe_ix ix_tup (pv 0) pe_int (fun _ _ => rfl)) (pe_ix ix_tup (pv 1) pe_int (fun _ _ => rfl)))) (pa_cons (pe_op op_mulW (pe_ix ix_tup (pv 0) pe_int (fun _ _ => rfl)) (pe_ix ix_tup (pv 1) pe_int (fun _ _ => rfl))) pa_nil))))))), ?_⟩
    refine ⟨_, rfl, p, _, 0, _, rfl, rfl, hp, atI_nat (j := 0) rfl, _, rfl, q, _, 0, _, rfl, rfl, hq, atI_nat (j := 0) rfl, _, _, rfl, rfl, x0.cm y0 (by decide) (by decide) (by decide), ?_⟩
    refine ⟨_, rfl, _, rfl, p, _, 1, _, rfl, rfl, hp, atI_nat (j := 1) rfl, _, _, rfl, rfl, hz.cm x1 (by decide) (by decide) (by decide), _, rfl, q, _, 1, _, rfl, rfl, hq, atI_nat (j := 1) rfl, _, _, rfl, rfl, (hz.mul x1).cm y1 (by decide) (by decide) (by decide), _, _, rfl, rfl, ?_⟩
    refine ⟨_, rfl, _, rfl, p, _, 0, _, rfl, rfl, hp, atI_nat (j := 0) rfl, _, rfl, q, _, 1, _, rfl, rfl, hq, atI_nat (j := 1) rfl, _, _, rfl, rfl, x0.cm y1 (by decide) (by decide) (by decide), ?_⟩
    refine ⟨_, rfl, p, _, 1, _, rfl, rfl, hp, atI_nat (j := 1) rfl, _, rfl, q, _, 0, _, rfl, rfl, hq, atI_nat (j := 0) rfl, _, _, rfl, rfl, x1.cm y0 (by decide) (by decide) (by decide), _, _, rfl, rfl, ?_⟩
    refine ⟨_, rfl, p, _, 2, _, rfl, rfl, hp, atI_nat (j := 2) rfl, _, rfl, q, _, 2, _, rfl, rfl, hq, atI_nat (j := 2) rfl, _, _, rfl, rfl, x2.cm y2 (by decide) (by decide) (by decide), ?_⟩
    exact ⟨_, _, _, rfl, hc, (((x0.mul y0).mono (show 6500 ≤ 6600 by decide)).add ((hz.mul x1).mul y1)).mono (by decide), ((x0.mul y1).add (x1.mul y0)).mono (by decide), (x2.mul y2).mono (by decide), k⟩
def sp_law_quotient (K : PySem.W.Frag) : Sp := fun vs H Q _ => ∃ (p q : Addr) (a0 a1 a2 b0 b1 b2 d : Int), vs = [.ref p, .ref q, .int d] ∧ T3 K H p a0 a1 a2 ∧ T3 K H q b0 b1 b2 ∧ a2 ≠ 0 ∧ (bd 1500 a0 ∧ bd 1500 a1 ∧ bd 1500 a2) ∧ (bd 2400 b0 ∧ bd 2400 b1 ∧ bd 2400 b2) ∧ bd 100 d ∧
  (b0 = 0 → b1 = 0 → Q .non H) ∧ (¬ (b0 = 0 ∧ b1 = 0) → b0 * b0 - d * b1 * b1 ≠ 0 ∧ ∀ g x y z H', b2 * b0 = g * x → 0 - b2 * b1 = g * y → b0 * b0 - d * b1 * b1 = g * z → 0 < z → g ≠ 0 → Same H H' → MadeK (a0 * x + d * a1 * y) (a0 * y + a1 * x) (a2 * z) H' Q)
theorem ok_law_quotient (D : DT K mg A) (G_law_made : COk P w K mg base CX0 2 "_law_made" ["_law_a", "_law_b", "_law_c"] sp_law_made) (G_law_product : COk P w K mg base CX0 3 "_law_product" ["_law_one", "_law_other", "_law_d"] (sp_law_product K)) : COk P w K mg base CX0 4 "_law_quotient" ["_law_one", "_law_other", "_law_d"] (sp_law_quotient K) := by
  refine COk.by D.law_quotient fun f fd F => ?_
  refine F.ok sc_law_quotient (fun vs H Q E h => ?_) (fun cdv Ar outer s H vs Q E hr h => ?_)
  · obtain ⟨p, q, a0, a1, a2, b0, b1, b2, z, rfl, _⟩ := h
    rfl
  · obtain ⟨p, q, a0, a1, a2, b0, b1, b2, d, rfl, hp, hq, hc, xx, ⟨y0, y1, y2⟩, hz, k1, k2⟩ := h
    refine ⟨_, (pss_cons (ps_if (PW.pt (pw_and (pt_cmpR op_eq (pe_ix ix_tup (pv 1) pe_int (fun _ _ => rfl)) pe_int (nomark _)) (pw_and1 (pt_cmpR op_eq (pe_ix ix_tup (pv 1) pe_int (fun _ _ => rfl)) pe_int (nomark _)))))
      (pss_one (ps_ret pe_non)) pss_nil)
    (pss_cons (ps_set (i := 3) sc_law_quotient.nd rfl (Or.inl rfl) (pe_op op_sub (pe_op op_mulW (pe_ix ix_tup (pv 1) pe_int (fun _ _ => rfl)) (pe_ix ix_tup (pv 1) pe_int (fun _ _ => rfl))) (pe_op op_mulW (pe_op op_mulW (pv 2) (pe_ix ix_tup (pv 1) pe_int (fun _ _ => rfl))) (pe_ix ix_tup (pv 1) pe_int (fun _ _ => rfl)))))
    (pss_one (ps_ret (pe_c G_law_product (hr.mono (by first | decide | omega)) (pa_cons (pv 0) (pa_cons (pe_c G_law_made (hr.mono (by first | decide | omega)) (pa_cons (pe_op op_mulW (pe_ix ix_tup (pv 1) pe_int (fun _ _ => rfl)) (pe_ix ix_tup (pv 1) pe_int (fun _ _ => rfl))) (pa_cons (pe_op op_sub pe_int (pe_op op_mulW (pe_ix ix_tup (pv 1) pe_int (fun _ _ => rfl)) (pe_ix ix_tup (pv 1) pe_int (fun _ _ => rfl)))) (pa_cons (pv 3) pa_nil)))) (pa_cons (pv 2) pa_nil)))))))), ?_⟩
    have go : ¬ (b0 = 0 ∧ b1 = 0) → ∀ {σ : St}, σ = [some (V.ref p), some (V.ref q), some (V.int d), none] → tSeq (tAsg (tOp (rI0 fun i j => V.int (i - j)) (tOp (rI CMulW fun i j => V.int (i * j)) (tOp (rIxT K) (tVar 1) (tC (V.int 0))) (tOp (rIxT K) (tVar 1) (tC (V.int 0)))) (tOp (rI CMulW fun i j => V.int (i * j)) (tOp (rI CMulW fun i j => V.int (i * j)) (tVar 2) (tOp (rIxT K) (tVar 1) (tC (V.int 1)))) (tOp (rIxT K) (tVar 1) (tC (V.int 1))))) (gName 3)) (tRet (tCall (sp_law_product K) [] E0 (tCons (tVar 0) (tCons (tCall sp_law_made [] E0 (tCons (tOp (rI CMulW fun i j => V.int (i * j)) (tOp (rIxT K) (tVar 1) (tC (V.int 2))) (tOp (rIxT K) (tVar 1) (tC (V.int 0)))) (tCons (tOp (rI0 fun i j => V.int (i - j)) (tC (V.int 0)) (tOp (rI CMulW fun i j => V.int (i * j)) (tOp (rIxT K) (tVar 1) (tC (V.int 2))) (tOp (rIxT K) (tVar 1) (tC (V.int 1))))) (tCons (tVar 3) tNil)))) (tCons (tVar 2) tNil))))) { nx := fun _ H' => Q .non H', rt := Q } σ H := fun hn {σ} eσ => by
      subst eσ
      obtain ⟨hs, kk⟩ := k2 hn
      refine ⟨_, rfl, q, _, 0, _, rfl, rfl, hq, atI_nat (j := 0) rfl, _, rfl, q, _, 0, _, rfl, rfl, hq, atI_nat (j := 0) rfl, _, _, rfl, rfl, y0.cm y0 (by decide) (by decide) (by decide), ?_⟩
      refine ⟨_, rfl, _, rfl, q, _, 1, _, rfl, rfl, hq, atI_nat (j := 1) rfl, _, _, rfl, rfl, hz.cm y1 (by decide) (by decide) (by decide), _, rfl, q, _, 1, _, rfl, rfl, hq, atI_nat (j := 1) rfl, _, _, rfl, rfl, (hz.mul y1).cm y1 (by decide) (by decide) (by decide), _, _, rfl, rfl, ?_⟩
      refine ⟨_, rfl, _, rfl, q, _, 2, _, rfl, rfl, hq, atI_nat (j := 2) rfl, _, rfl, q, _, 0, _, rfl, rfl, hq, atI_nat (j := 0) rfl, _, _, rfl, rfl, y2.cm y0 (by decide) (by decide) (by decide), ?_⟩
      refine ⟨_, rfl, q, _, 2, _, rfl, rfl, hq, atI_nat (j := 2) rfl, _, rfl, q, _, 1, _, rfl, rfl, hq, atI_nat (j := 1) rfl, _, _, rfl, rfl, y2.cm y1 (by decide) (by decide) (by decide), _, _, rfl, rfl, _, rfl, ?_⟩
      have s1 : bd 4901 (b0 * b0 - d * b1 * b1) := ((y0.mul y0).mono (show 4800 ≤ 4900 by decide)).sub ((hz.mul y1).mul y1)
      have s2 : bd 4801 (0 - b2 * b1) := bd0.sub (y2.mul y1)
      refine ⟨_, _, _, rfl, hs, (y2.mul y0).mono (by decide), s2.mono (by decide), s1.mono (by decide), fun g x y z pp e1 e2 e3 z0 g0 hprim npp => ?_⟩
      have sm := same_upd (o := .tup [V.int x, .int y, .int z]) npp
      refine ⟨_, rfl, p, pp, a0, a1, a2, x, y, z, d, rfl, sqT_same hp sm, SqT.of upd_same, ?_, xx, ⟨((y2.mul y0).of_dvd e1 g0).mono (by decide), (s2.of_dvd e2 g0).mono (by decide), (s1.of_dvd e3 g0).mono (by decide)⟩, hz, kk g x y z _ e1 e2 e3 z0 g0 sm⟩
      intro w
      rcases Int.mul_eq_zero.mp w with y | y <;> omega
    refine ⟨_, rfl, q, _, 0, _, rfl, rfl, hq, atI_nat (j := 0) rfl, rfl, _, rfl, ite2 (fun c => ?_) (fun c => ?_)⟩
    · have c' : b0 = 0 := V.int.inj (of_decide_eq_true c)
      refine ⟨_, rfl, q, _, 1, _, rfl, rfl, hq, atI_nat (j := 1) rfl, rfl, _, rfl, ite2 (fun c2 => ?_) (fun c2 => ?_)⟩
      · have c2' : b1 = 0 := V.int.inj (of_decide_eq_true c2)
        exact k1 c' c2'
      · exact go (fun z => c2 (decide_eq_true (congrArg V.int z.2))) rfl
    · exact iteF (go (fun z => c (decide_eq_true (congrArg V.int z.1))) rfl)
def sp_law_below (K : PySem.W.Frag) : Sp := fun vs H Q _ => ∃ (p : Addr) (a b c d : Int), vs = [.ref p, .int d] ∧ T3 K H p a b c ∧ c ≠ 0 ∧ 0 ≤ d ∧ (bd 1500 a ∧ bd 1500 b ∧ bd 1500 c) ∧ bd 100 d ∧ ∀ r', IsRoot (b * b * d) r' → Q (.int (qbelow a b c d r')) H
theorem ok_law_below (T : CT K mg A) (D : DT K mg A) : COk P w K mg base CX0 2 "_law_below" ["_law_one", "_law_d"] (sp_law_below K) := by
  have G_law_root := ok_law_root (P := P) (w := w) (base := base) D
  refine COk.by D.law_below fun f fd F => ?_
  refine F.ok sc_law_below (fun vs H Q E h => ?_) (fun cdv Ar outer s H vs Q E hr h => ?_)
  · obtain ⟨p, a, b, c, d, rfl, _⟩ := h
    rfl
  · obtain ⟨p, a, b, c, d, rfl, hp, hc, hd, ⟨x0, x1, x2⟩, hz, k⟩ := h
    refine ⟨_, (pss_cons (ps_set (i := 2) sc_law_below.nd rfl (Or.inl rfl) (pe_op op_mulW (pe_op op_mulW (pe_ix ix_tup (pv 0) pe_int (fun _ _ => rfl)) (pe_ix ix_tup (pv 0) pe_int (fun _ _ => rfl))) (pv 1)))
    (pss_cons (ps_set (i := 3) sc_law_below.nd rfl (Or.inl rfl) (pe_c G_law_root (hr.mono (by first | decide | omega)) (pa_cons (pv 2) pa_nil)))
    (C8.pss_cut (ps_if (pt_cmpR op_lt (pe_ix ix_tup (pv 0) pe_int (fun _ _ => rfl)) pe_int (nomark _))
      (pss_one (ps_set (i := 3) sc_law_below.nd rfl (Or.inl rfl) (pe_op op_sub (pe_op op_sub pe_int (pv 3)) (pe_callTy call_int1 (by rfl) T.b_int (by decide +kernel) (pa_cons (pe_cmpR op_lt (pe_op op_mulW (pv 3) (pv 3)) (pv 2) (nomark _)) pa_nil))))) pss_nil)
    (pss_one (ps_ret (pe_op op_fdivS (pe_op op_add (pe_ix ix_tup (pv 0) pe_int (fun _ _ => rfl)) (pv 3)) (pe_ix ix_tup (pv 0) pe_int (fun _ _ => rfl)))))))), ?_⟩
    have n0 : 0 ≤ b * b * d := Int.mul_nonneg (sq_nonneg b) hd
    have nb : bd 3100 (b * b * d) := (x1.mul x1).mul hz
    refine ⟨_, rfl, p, _, 1, _, rfl, rfl, hp, atI_nat (j := 1) rfl, _, rfl, p, _, 1, _, rfl, rfl, hp, atI_nat (j := 1) rfl, _, _, rfl, rfl, x1.cm x1 (by decide) (by decide) (by decide), _, rfl, _, _, rfl, rfl, (x1.mul x1).cm hz (by decide) (by decide) (by decide), ?_⟩
    refine ⟨_, rfl, _, rfl, n0, nb.mono (by decide), fun r' hr' => ?_⟩
    have br : bd 1550 r' := by
      have z : (b * b * d).natAbs < 2 ^ 3100 := nb
      have e : (b * b * d : Int) < 2 ^ (1550 + 1550) := by
        have e2 : ((2 ^ 3100 : Nat) : Int) = 2 ^ 3100 := by norm_cast
        show (b * b * d : Int) < 2 ^ 3100
        omega
      exact natAbs_lt_pow hr'.1 (lt_of_sq (k := 1550) hr'.1 hr'.2.1 e)
    have hk := k r' hr'
    refine ⟨fun σ H2 => σ = [some (.ref p), some (.int d), some (.int (b * b * d)), some (.int (qroot b d r'))] ∧ H2 = H, ?_, ?_⟩
    · refine ⟨_, rfl, p, _, 1, _, rfl, rfl, hp, atI_nat (j := 1) rfl, _, _, rfl, rfl, _, rfl, ite2 (fun cc => ?_) (fun cc => ?_)⟩
      · have c' : b < 0 := of_decide_eq_true cc
        refine ⟨_, rfl, _, _, rfl, rfl, _, rfl, _, rfl, _, _, rfl, rfl, br.cm br (by decide) (by decide) (by decide), _, rfl, _, _, rfl, rfl, .inr ⟨_, rfl, _, _, rfl, rfl, ?_, rfl⟩⟩
        show [some (V.ref p), some (V.int d), some (V.int (b * b * d)), some (V.int (0 - r' - (if decide (r' * r' < b * b * d) = true then 1 else 0)))] = _
        unfold qroot
        rw [if_pos c']
        by_cases y : r' * r' < b * b * d
        · rw [decide_eq_true y, if_pos rfl, if_pos y]
        · rw [decide_eq_false y, if_neg (by decide), if_neg y]
      · have c' : ¬ b < 0 := fun z => cc (decide_eq_true z)
        refine ⟨?_, rfl⟩
        unfold qroot
        rw [if_neg c']
        rfl
    · rintro σ H2 ⟨rfl, rfl⟩
      refine ⟨_, rfl, p, _, 0, _, rfl, rfl, hp, atI_nat (j := 0) rfl, _, rfl, _, _, rfl, rfl, _, rfl, p, _, 2, _, rfl, rfl, hp, atI_nat (j := 2) rfl, _, _, rfl, rfl, ⟨hc, Nat.lt_trans x2 (Nat.pow_lt_pow_right (by decide) (by decide))⟩, hk⟩
end
/-! ### the laws' numbers (a + b root of d) / c as functions -/
abbrev Tri := Int × Int × Int
def sgcd (a b c : Int) : Int := if c < 0 then 0 - ((Int.gcd (Int.gcd a b : Nat) c : Nat) : Int) else ((Int.gcd (Int.gcd a b : Nat) c : Nat) : Int)
def qmade (a b c : Int) : Tri := (a.fdiv (sgcd a b c), b.fdiv (sgcd a b c), c.fdiv (sgcd a b c))
theorem qmade_spec {a b c : Int} (hc : c ≠ 0) : ∃ g, g ≠ 0 ∧ sgcd a b c = g ∧ a = g * (qmade a b c).1 ∧ b = g * (qmade a b c).2.1 ∧ c = g * (qmade a b c).2.2 ∧ 0 < (qmade a b c).2.2 ∧ Prim (qmade a b c).1 (qmade a b c).2.1 (qmade a b c).2.2 := by
  obtain ⟨G, hG⟩ : ∃ G : Nat, Int.gcd (Int.gcd a b : Nat) c = G := ⟨_, rfl⟩
  have hG0 : G ≠ 0 := fun z => by
    rw [z] at hG
    exact hc (Int.gcd_eq_zero_iff.mp hG).2
  have dc : (G : Int) ∣ c := by rw [← hG]; exact Int.gcd_dvd_right ..
  have dab : (G : Int) ∣ (Int.gcd a b : Nat) := by rw [← hG]; exact Int.gcd_dvd_left ..
  have da : (G : Int) ∣ a := Int.dvd_trans dab (Int.gcd_dvd_left ..)
  have db : (G : Int) ∣ b := Int.dvd_trans dab (Int.gcd_dvd_right ..)
  obtain ⟨g, hg⟩ : ∃ g : Int, sgcd a b c = g := ⟨_, rfl⟩
  have hg2 : g = if c < 0 then -(G : Int) else G := by
    rw [← hg, sgcd, hG]
    split <;> omega
  have g0 : g ≠ 0 := by rw [hg2]; split <;> omega
  have hgd : ∀ {z : Int}, (G : Int) ∣ z → ∃ z', z = g * z' := fun {z} h => by
    obtain ⟨y, hy⟩ := h
    rw [hg2]
    split
    · exact ⟨-y, by rw [hy]; grind⟩
    · exact ⟨y, hy⟩
  obtain ⟨a', ea⟩ := hgd da
  obtain ⟨b', eb⟩ := hgd db
  obtain ⟨c', ec⟩ := hgd dc
  have q1 : a.fdiv g = a' := by rw [ea]; exact Int.mul_fdiv_cancel_left _ g0
  have q2 : b.fdiv g = b' := by rw [eb]; exact Int.mul_fdiv_cancel_left _ g0
  have q3 : c.fdiv g = c' := by rw [ec]; exact Int.mul_fdiv_cancel_left _ g0
  have c0 : 0 < c' := by
    rcases Int.lt_or_le 0 c' with z | z
    · exact z
    · exfalso
      by_cases y : c < 0
      · rw [if_pos y] at hg2
        have := Int.mul_nonneg_of_nonpos_of_nonpos (show g ≤ 0 by omega) z
        omega
      · rw [if_neg y] at hg2
        have := Int.mul_nonneg (show 0 ≤ g by omega) (show 0 ≤ -c' by omega)
        have e : g * -c' = -(g * c') := by grind
        omega
  have hprim : Prim a' b' c' := by
    have h1 : G = g.natAbs := by rw [hg2]; split <;> omega
    rw [ea, eb, ec, Int.gcd_mul_left] at hG
    have h2 : Int.gcd ((g.natAbs * Int.gcd a' b' : Nat) : Int) (g * c') = g.natAbs * Int.gcd (Int.gcd a' b' : Nat) c' := by
      have h3 : Int.gcd (g * (Int.gcd a' b' : Nat)) (g * c') = g.natAbs * Int.gcd (Int.gcd a' b' : Nat) c' := Int.gcd_mul_left ..
      rw [← h3]
      generalize Int.gcd a' b' = m
      unfold Int.gcd
      congr 1
      rw [Int.natAbs_mul, Int.natAbs_natCast, Int.natAbs_natCast]
    rw [h2, h1] at hG
    have : g.natAbs * Int.gcd (Int.gcd a' b' : Nat) c' = g.natAbs * 1 := by omega
    exact Nat.eq_of_mul_eq_mul_left (by omega) this
  refine ⟨g, g0, hg, ?_⟩
  unfold qmade
  dsimp only
  rw [hg, q1, q2, q3]
  exact ⟨ea, eb, ec, c0, hprim⟩
/-- bits of a number's three -/
def tb (n : Nat) (t : Tri) : Prop := bd n t.1 ∧ bd n t.2.1 ∧ bd n t.2.2 ∧ 0 < t.2.2
theorem tb.mono {m n : Nat} {t : Tri} (h : tb m t) (hn : m ≤ n) : tb n t := ⟨h.1.mono hn, h.2.1.mono hn, h.2.2.1.mono hn, h.2.2.2⟩
theorem tb_made {n : Nat} {a b c : Int} (hc : c ≠ 0) (ha : bd n a) (hb : bd n b) (hd : bd n c) : tb n (qmade a b c) := by
  obtain ⟨g, g0, _, ea, eb, ec, c0, _⟩ := qmade_spec (a := a) (b := b) hc
  exact ⟨ha.of_dvd ea g0, hb.of_dvd eb g0, hd.of_dvd ec g0, c0⟩
def qsum (x y : Tri) (z : Int) : Tri := qmade (x.1 * y.2.2 + z * y.1 * x.2.2) (x.2.1 * y.2.2 + z * y.2.1 * x.2.2) (x.2.2 * y.2.2)
def qprod (d : Int) (x y : Tri) : Tri := qmade (x.1 * y.1 + d * x.2.1 * y.2.1) (x.1 * y.2.1 + x.2.1 * y.1) (x.2.2 * y.2.2)
def qinv (d : Int) (y : Tri) : Tri := qmade (y.2.2 * y.1) (0 - y.2.2 * y.2.1) (y.1 * y.1 - d * y.2.1 * y.2.1)
def qquot (d : Int) (x y : Tri) : Option Tri := if y.1 = 0 ∧ y.2.1 = 0 then none else some (qprod d x (qinv d y))
theorem pos_ne {x y : Int} (hx : 0 < x) (hy : 0 < y) : x * y ≠ 0 := by have := Int.mul_pos hx hy; omega
theorem tb_sum {m n k : Nat} {x y : Tri} {z : Int} (hx : tb m x) (hy : tb n y) (hz : bd k z) : tb (m + n + k + 1) (qsum x y z) := by
  obtain ⟨x0, x1, x2, xp⟩ := hx
  obtain ⟨y0, y1, y2, yp⟩ := hy
  refine tb_made (pos_ne xp yp) (bd.add ((x0.mul y2).mono (by omega)) (((hz.mul y0).mul x2).mono (by omega))) (bd.add ((x1.mul y2).mono (by omega)) (((hz.mul y1).mul x2).mono (by omega))) ((x2.mul y2).mono (by omega))
theorem tb_prod {m n k : Nat} {x y : Tri} {d : Int} (hx : tb m x) (hy : tb n y) (hd : bd k d) : tb (m + n + k + 1) (qprod d x y) := by
  obtain ⟨x0, x1, x2, xp⟩ := hx
  obtain ⟨y0, y1, y2, yp⟩ := hy
  exact tb_made (pos_ne xp yp) (bd.add ((x0.mul y0).mono (by omega)) (((hd.mul x1).mul y1).mono (by omega))) (bd.add ((x0.mul y1).mono (by omega)) ((x1.mul y0).mono (by omega))) ((x2.mul y2).mono (by omega))
/-- no square, not even of a fraction -/
def NonSq (d : Int) : Prop := ∀ x y : Int, x * x - d * y * y = 0 → x = 0 ∧ y = 0
theorem tb_inv {n k : Nat} {y : Tri} {d : Int} (ns : NonSq d) (hy : tb n y) (hd : bd k d) (h0 : ¬ (y.1 = 0 ∧ y.2.1 = 0)) : tb (n + n + k + 1) (qinv d y) := by
  obtain ⟨y0, y1, y2, yp⟩ := hy
  refine tb_made (fun z => h0 (ns _ _ z)) ((y2.mul y0).mono (by omega)) ?_ (bd.sub ((y0.mul y0).mono (by omega)) (((hd.mul y1).mul y1).mono (by omega)))
  have := bd.sub (bd0 (n := n + n)) (y2.mul y1)
  exact this.mono (by omega)
theorem tb_quot {m n k : Nat} {x y t : Tri} {d : Int} (ns : NonSq d) (hx : tb m x) (hy : tb n y) (hd : bd k d) (h : qquot d x y = some t) : tb (m + (n + n + k + 1) + k + 1) t := by
  unfold qquot at h
  split at h
  · cases h
  · rename_i h0
    cases h
    exact tb_prod hx (tb_inv ns hy hd h0) hd
/-- the sum of numbers, each times a value -/
def qmixF : Tri → List (Int × Tri) → Tri
  | acc, [] => acc
  | acc, (n, v) :: r => qmixF (qsum acc v n) r
def qmix (ns : List Int) (vs : List Tri) : Tri := qmixF (0, 0, 1) (ns.zip vs)
theorem tb_mixF {m b : Nat} : ∀ {r : List (Int × Tri)} {acc : Tri} {k : Nat}, tb k acc → (∀ p ∈ r, bd b p.1 ∧ tb m p.2) → tb (k + r.length * (m + b + 1)) (qmixF acc r)
  | [], acc, k, h, _ => by
    rw [List.length_nil, Nat.zero_mul]
    exact h
  | p :: r, acc, k, h, hr => by
    obtain ⟨h1, h2⟩ := hr p List.mem_cons_self
    have z := tb_mixF (r := r) (tb_sum h h2 h1) fun q hq => hr q (List.mem_cons_of_mem _ hq)
    refine z.mono ?_
    rw [List.length_cons, Nat.succ_mul]
    omega
theorem tb0 : tb 1 ((0, 0, 1) : Tri) := ⟨bd0, bd0, bd1 (by decide), by decide⟩
theorem tb1 : tb 1 ((1, 0, 1) : Tri) := ⟨bd1 (by decide), bd0, bd1 (by decide), by decide⟩
def qboxed (d : Int) (ns : List Int) (vs : List Tri) : Option Tri := qquot d (qmix (ns.take vs.length) vs) (qmix (ns.drop vs.length) vs)
theorem tb_boxed {m b k : Nat} {d : Int} {ns : List Int} {vs : List Tri} {t : Tri} (sq : NonSq d) (hd : bd k d) (hn : ∀ z ∈ ns, bd b z) (hv : ∀ v ∈ vs, tb m v) (h : qboxed d ns vs = some t) : tb (3 * (1 + vs.length * (m + b + 1)) + 2 * k + 3) t := by
  have key : ∀ xs : List Int, (∀ z ∈ xs, bd b z) → tb (1 + vs.length * (m + b + 1)) (qmix xs vs) := fun xs hx => by
    have z := tb_mixF (m := m) (b := b) (r := xs.zip vs) tb0 fun p hp => ⟨hx _ (List.of_mem_zip hp).1, hv _ (List.of_mem_zip hp).2⟩
    refine z.mono ?_
    have : (xs.zip vs).length ≤ vs.length := by rw [List.length_zip]; exact Nat.min_le_right ..
    have := Nat.mul_le_mul_right (m + b + 1) this
    omega
  have z := tb_quot sq (key _ fun z hz => hn z (List.mem_of_mem_take hz)) (key _ fun z hz => hn z (List.mem_of_mem_drop hz)) hd h
  refine z.mono ?_
  omega
def qpow (d : Int) (x : Tri) : Nat → Tri
  | 0 => x
  | n + 1 => qprod d (qpow d x n) x
def N3 (K : PySem.W.Frag) (H : Hp) (p : Addr) (t : Tri) : Prop := SqT K H p [.int t.1, .int t.2.1, .int t.2.2]
/-- a number, or None -/
def VAt (K : PySem.W.Frag) (H : Hp) (v : V) : Option Tri → Prop
  | none => v = .non
  | some t => ∃ p, v = .ref p ∧ N3 K H p t
theorem VAt.same {K : PySem.W.Frag} {H H' : Hp} {v : V} {o : Option Tri} (h : VAt K H v o) (s : Same H H') : VAt K H' v o := by
  cases o with
  | none => exact h
  | some t => obtain ⟨p, e, hp⟩ := h; exact ⟨p, e, sqT_same hp s⟩
abbrev qL : Nat := 1000000
section
variable {P : Program} [NoTree P] {w : World} {K : PySem.W.Frag} {mg : Str → Option Value} {base : Heap} {A : Ad}
/-- a new tuple of three -/
def NewT (K : PySem.W.Frag) (t : Tri) (H : Hp) (Q : VK) : Prop := ∀ r H', Same H H' → H r = none → N3 K H' r t → Q (.ref r) H'
def sp_qmade (K : PySem.W.Frag) : Sp := fun vs H Q _ => ∃ a b c : Int, vs = [.int a, .int b, .int c] ∧ c ≠ 0 ∧ NewT K (qmade a b c) H Q
theorem ok_qmade (T : CT K mg A) (D : DT K mg A) (G_law_common : COk P w K mg base CX0 1 "_law_common" ["_law_one", "_law_other"] sp_law_common) : COk P w K mg base CX0 36 "_law_made" ["_law_a", "_law_b", "_law_c"] (sp_qmade K) := by
  refine COk.by D.law_made fun f fd F => ?_
  refine F.ok (k := 35) sc_law_made (fun vs H Q E h => ?_) (fun cdv Ar outer s H vs Q E hr h => ?_)
  · obtain ⟨a, b, c, rfl, _⟩ := h
    rfl
  · obtain ⟨a, b, c, rfl, hc, k⟩ := h
    refine ⟨_, (pss_cons (ps_set (i := 3) sc_law_made.nd rfl (Or.inl rfl) (pe_c G_law_common (hr.mono (by first | decide | omega)) (pa_cons (pe_c G_law_common (hr.mono (by first | decide | omega)) (pa_cons (pv 0) (pa_cons (pv 1) pa_nil))) (pa_cons (pv 2) pa_nil))))
    (C8.pss_cut (ps_if (pt_cmpR op_lt (pv 2) pe_int (nomark _))
      (pss_one (ps_set (i := 3) sc_law_made.nd rfl (Or.inl rfl) (pe_op op_sub pe_int (pv 3)))) pss_nil)
    (pss_one (ps_ret (pe_tup (pa_cons (pe_op (op_fdivM T.seer (NoTree.tree (P := P)) hr (by first | decide | omega) rfl rfl rfl) (pv 0) (pv 3)) (pa_cons (pe_op (op_fdivM T.seer (NoTree.tree (P := P)) hr (by first | decide | omega) rfl rfl rfl) (pv 1) (pv 3)) (pa_cons (pe_op (op_fdivM T.seer (NoTree.tree (P := P)) hr (by first | decide | omega) rfl rfl rfl) (pv 2) (pv 3)) pa_nil)))))))), ?_⟩
    refine ⟨_, rfl, _, rfl, a, b, rfl, _, rfl, _, c, rfl, ?_⟩
    obtain ⟨g, g0, hg, _⟩ := qmade_spec (a := a) (b := b) hc
    refine ⟨fun σ H2 => σ = [some (.int a), some (.int b), some (.int c), some (.int g)] ∧ H2 = H, ?_, ?_⟩
    · rw [← hg]
      unfold sgcd
      refine ⟨_, rfl, _, _, rfl, rfl, _, rfl, ite2 (fun cc => ?_) (fun cc => ?_)⟩
      · rw [if_pos (of_decide_eq_true cc)]
        exact ⟨_, rfl, _, _, rfl, rfl, rfl, rfl⟩
      · rw [if_neg (fun z => cc (decide_eq_true z))]
        exact ⟨rfl, rfl⟩
    · rintro σ H2 ⟨rfl, rfl⟩
      refine ⟨_, rfl, _, rfl, _, _, rfl, rfl, g0, _, rfl, _, rfl, _, _, rfl, rfl, g0, _, rfl, _, rfl, _, _, rfl, rfl, g0, (by show 3 ≤ sizeLine; decide), fun p hp => ?_⟩
      refine k p _ (same_upd hp) hp ?_
      unfold qmade
      rw [hg]
      exact SqT.of upd_same
def sp_qsum (K : PySem.W.Frag) : Sp := fun vs H Q _ => ∃ (p q : Addr) (x y : Tri) (z : Int), vs = [.ref p, .ref q, .int z] ∧ N3 K H p x ∧ N3 K H q y ∧ tb qL x ∧ tb qL y ∧ bd qL z ∧ NewT K (qsum x y z) H Q
theorem ok_qsum (D : DT K mg A) (G_law_made : COk P w K mg base CX0 36 "_law_made" ["_law_a", "_law_b", "_law_c"] (sp_qmade K)) : COk P w K mg base CX0 37 "_law_sum" ["_law_one", "_law_other", "_law_by"] (sp_qsum K) := by
  refine COk.by D.law_sum fun f fd F => ?_
  refine F.ok (k := 36) sc_law_sum (fun vs H Q E h => ?_) (fun cdv Ar outer s H vs Q E hr h => ?_)
  · obtain ⟨p, q, x, y, z, rfl, _⟩ := h
    rfl
  · obtain ⟨p, q, x, y, z, rfl, hp, hq, ⟨x0, x1, x2, xp⟩, ⟨y0, y1, y2, yp⟩, hz, k⟩ := h
    refine ⟨_, (pss_cons (ps_set (i := 3) sc_law_sum.nd rfl (Or.inl rfl) (pe_op op_add (pe_op op_mulW (pe_ix ix_tup (pv 0) pe_int (fun _ _ => rfl)) (pe_ix ix_tup (pv 1) pe_int (fun _ _ => rfl))) (pe_op op_mulW (pe_op op_mulW (pv 2) (pe_ix ix_tup (pv 1) pe_int (fun _ _ => rfl))) (pe_ix ix_tup (pv 0) pe_int (fun _ _ => rfl)))))
    (pss_one (ps_ret (pe_c G_law_made (hr.mono (by first | decide | omega)) (pa_cons (pv 3) (pa_cons (pe_op op_add (pe_op op_mulW (pe_ix ix_tup (pv 0) pe_int (fun _ _ => rfl)) (pe_ix ix_tup (pv 1) pe_int (fun _ _ => rfl))) (pe_op op_mulW (pe_op op_mulW (pv 2) (pe_ix ix_tup (pv 1) pe_int (fun _ _ => rfl))) (pe_ix ix_tup (pv 0) pe_int (fun _ _ => rfl)))) (pa_cons (pe_op op_mulW (pe_ix ix_tup (pv 0) pe_int (fun _ _ => rfl)) (pe_ix ix_tup (pv 1) pe_int (fun _ _ => rfl))) pa_nil))))))), ?_⟩
    have cm : ∀ {m n : Nat} {x y : Int}, bd m x → bd n y → 0 < m → 0 < n → m + n ≤ 100000000 → CMulW x y := fun h h' hm hn hs => wide_mul h h' hm hn hs
    refine ⟨_, rfl, p, _, 0, _, rfl, rfl, hp, atI_nat (j := 0) rfl, _, rfl, q, _, 2, _, rfl, rfl, hq, atI_nat (j := 2) rfl, _, _, rfl, rfl, cm x0 y2 (by decide) (by decide) (by decide), ?_⟩
    refine ⟨_, rfl, _, rfl, q, _, 0, _, rfl, rfl, hq, atI_nat (j := 0) rfl, _, _, rfl, rfl, cm hz y0 (by decide) (by decide) (by decide), _, rfl, p, _, 2, _, rfl, rfl, hp, atI_nat (j := 2) rfl, _, _, rfl, rfl, cm (hz.mul y0) x2 (by decide) (by decide) (by decide), _, _, rfl, rfl, ?_⟩
    refine ⟨_, rfl, _, rfl, p, _, 1, _, rfl, rfl, hp, atI_nat (j := 1) rfl, _, rfl, q, _, 2, _, rfl, rfl, hq, atI_nat (j := 2) rfl, _, _, rfl, rfl, cm x1 y2 (by decide) (by decide) (by decide), ?_⟩
    refine ⟨_, rfl, _, rfl, q, _, 1, _, rfl, rfl, hq, atI_nat (j := 1) rfl, _, _, rfl, rfl, cm hz y1 (by decide) (by decide) (by decide), _, rfl, p, _, 2, _, rfl, rfl, hp, atI_nat (j := 2) rfl, _, _, rfl, rfl, cm (hz.mul y1) x2 (by decide) (by decide) (by decide), _, _, rfl, rfl, ?_⟩
    refine ⟨_, rfl, p, _, 2, _, rfl, rfl, hp, atI_nat (j := 2) rfl, _, rfl, q, _, 2, _, rfl, rfl, hq, atI_nat (j := 2) rfl, _, _, rfl, rfl, cm x2 y2 (by decide) (by decide) (by decide), ?_⟩
    exact ⟨_, _, _, rfl, pos_ne xp yp, k⟩
def sp_qprod (K : PySem.W.Frag) : Sp := fun vs H Q _ => ∃ (p q : Addr) (x y : Tri) (d : Int), vs = [.ref p, .ref q, .int d] ∧ N3 K H p x ∧ N3 K H q y ∧ tb (2 * qL) x ∧ tb (4 * qL) y ∧ bd qL d ∧ NewT K (qprod d x y) H Q
theorem ok_qprod (D : DT K mg A) (G_law_made : COk P w K mg base CX0 36 "_law_made" ["_law_a", "_law_b", "_law_c"] (sp_qmade K)) : COk P w K mg base CX0 37 "_law_product" ["_law_one", "_law_other", "_law_d"] (sp_qprod K) := by
  refine COk.by D.law_product fun f fd F => ?_
  refine F.ok (k := 36) sc_law_product (fun vs H Q E h => ?_) (fun cdv Ar outer s H vs Q E hr h => ?_)
  · obtain ⟨p, q, x, y, d, rfl, _⟩ := h
    rfl
  · obtain ⟨p, q, x, y, d, rfl, hp, hq, ⟨x0, x1, x2, xp⟩, ⟨y0, y1, y2, yp⟩, hz, k⟩ := h
    refine ⟨_, (pss_cons (ps_set (i := 3) sc_law_product.nd rfl (Or.inl rfl) (pe_op op_add (pe_op op_mulW (pe_ix ix_tup (pv 0) pe_int (fun _ _ => rfl)) (pe_ix ix_tup (pv 1) pe_int (fun _ _ => rfl))) (pe_op op_mulW (pe_op op_mulW (pv 2) (pe_ix ix_tup (pv 0) pe_int (fun _ _ => rfl))) (pe_ix ix_tup (pv 1) pe_int (fun _ _ => rfl)))))
    (pss_one (ps_ret (pe_c G_law_made (hr.mono (by first | decide | omega)) (pa_cons (pv 3) (pa_cons (pe_op op_add (pe_op op_mulW (pe_ix ix_tup (pv 0) pe_int (fun _ _ => rfl)) (pe_ix ix_tup (pv 1) pe_int (fun _ _ => rfl))) (pe_op op_mulW (pe_ix ix_tup (pv 0) pe_int (fun _ _ => rfl)) (pe_ix ix_tup (pv 1) pe_int (fun _ _ => rfl)))) (pa_cons (pe_op op_mulW (pe_ix ix_tup (pv 0) pe_int (fun _ _ => rfl)) (pe_ix ix_tup (pv 1) pe_int (fun _ _ => rfl))) pa_nil))))))), ?_⟩
    have cm : ∀ {m n : Nat} {x y : Int}, bd m x → bd n y → 0 < m → 0 < n → m + n ≤ 100000000 → CMulW x y := fun h h' hm hn hs => wide_mul h h' hm hn hs
    refine ⟨_, rfl, p, _, 0, _, rfl, rfl, hp, atI_nat (j := 0) rfl, _, rfl, q, _, 0, _, rfl, rfl, hq, atI_nat (j := 0) rfl, _, _, rfl, rfl, cm x0 y0 (by decide) (by decide) (by decide), ?_⟩
    refine ⟨_, rfl, _, rfl, p, _, 1, _, rfl, rfl, hp, atI_nat (j := 1) rfl, _, _, rfl, rfl, cm hz x1 (by decide) (by decide) (by decide), _, rfl, q, _, 1, _, rfl, rfl, hq, atI_nat (j := 1) rfl, _, _, rfl, rfl, cm (hz.mul x1) y1 (by decide) (by decide) (by decide), _, _, rfl, rfl, ?_⟩
    refine ⟨_, rfl, _, rfl, p, _, 0, _, rfl, rfl, hp, atI_nat (j := 0) rfl, _, rfl, q, _, 1, _, rfl, rfl, hq, atI_nat (j := 1) rfl, _, _, rfl, rfl, cm x0 y1 (by decide) (by decide) (by decide), ?_⟩
    refine ⟨_, rfl, p, _, 1, _, rfl, rfl, hp, atI_nat (j := 1) rfl, _, rfl, q, _, 0, _, rfl, rfl, hq, atI_nat (j := 0) rfl, _, _, rfl, rfl, cm x1 y0 (by decide) (by decide) (by decide), _, _, rfl, rfl, ?_⟩
    refine ⟨_, rfl, p, _, 2, _, rfl, rfl, hp, atI_nat (j := 2) rfl, _, rfl, q, _, 2, _, rfl, rfl, hq, atI_nat (j := 2) rfl, _, _, rfl, rfl, cm x2 y2 (by decide) (by decide) (by decide), ?_⟩
    exact ⟨_, _, _, rfl, pos_ne xp yp, k⟩
/-- a quotient: a new tuple, or None -/
def NewQ (K : PySem.W.Frag) (o : Option Tri) (H : Hp) (Q : VK) : Prop := ∀ v H', Same H H' → VAt K H' v o → Q v H'
def sp_qquot (K : PySem.W.Frag) : Sp := fun vs H Q _ => ∃ (p q : Addr) (x y : Tri) (d : Int), vs = [.ref p, .ref q, .int d] ∧ N3 K H p x ∧ N3 K H q y ∧ tb (2 * qL) x ∧ tb (qL + 500000) y ∧ bd 100 d ∧ NonSq d ∧ NewQ K (qquot d x y) H Q
theorem ok_qquot (D : DT K mg A) (G_law_made : COk P w K mg base CX0 36 "_law_made" ["_law_a", "_law_b", "_law_c"] (sp_qmade K)) (G_law_product : COk P w K mg base CX0 37 "_law_product" ["_law_one", "_law_other", "_law_d"] (sp_qprod K)) : COk P w K mg base CX0 38 "_law_quotient" ["_law_one", "_law_other", "_law_d"] (sp_qquot K) := by
  refine COk.by D.law_quotient fun f fd F => ?_
  refine F.ok (k := 37) sc_law_quotient (fun vs H Q E h => ?_) (fun cdv Ar outer s H vs Q E hr h => ?_)
  · obtain ⟨p, q, x, y, d, rfl, _⟩ := h
    rfl
  · obtain ⟨p, q, x, y, d, rfl, hp, hq, hx, hy, hz, ns, k⟩ := h
    obtain ⟨y0, y1, y2, yp⟩ := id hy
    refine ⟨_, (pss_cons (ps_if (PW.pt (pw_and (pt_cmpR op_eq (pe_ix ix_tup (pv 1) pe_int (fun _ _ => rfl)) pe_int (nomark _)) (pw_and1 (pt_cmpR op_eq (pe_ix ix_tup (pv 1) pe_int (fun _ _ => rfl)) pe_int (nomark _)))))
      (pss_one (ps_ret pe_non)) pss_nil)
    (pss_cons (ps_set (i := 3) sc_law_quotient.nd rfl (Or.inl rfl) (pe_op op_sub (pe_op op_mulW (pe_ix ix_tup (pv 1) pe_int (fun _ _ => rfl)) (pe_ix ix_tup (pv 1) pe_int (fun _ _ => rfl))) (pe_op op_mulW (pe_op op_mulW (pv 2) (pe_ix ix_tup (pv 1) pe_int (fun _ _ => rfl))) (pe_ix ix_tup (pv 1) pe_int (fun _ _ => rfl)))))
    (pss_one (ps_ret (pe_c G_law_product (hr.mono (by first | decide | omega)) (pa_cons (pv 0) (pa_cons (pe_c G_law_made (hr.mono (by first | decide | omega)) (pa_cons (pe_op op_mulW (pe_ix ix_tup (pv 1) pe_int (fun _ _ => rfl)) (pe_ix ix_tup (pv 1) pe_int (fun _ _ => rfl))) (pa_cons (pe_op op_sub pe_int (pe_op op_mulW (pe_ix ix_tup (pv 1) pe_int (fun _ _ => rfl)) (pe_ix ix_tup (pv 1) pe_int (fun _ _ => rfl)))) (pa_cons (pv 3) pa_nil)))) (pa_cons (pv 2) pa_nil)))))))), ?_⟩
    have cm : ∀ {m n : Nat} {x y : Int}, bd m x → bd n y → 0 < m → 0 < n → m + n ≤ 100000000 → CMulW x y := fun h h' hm hn hs => wide_mul h h' hm hn hs
    have go : ¬ (y.1 = 0 ∧ y.2.1 = 0) → ∀ {σ : St}, σ = [some (V.ref p), some (V.ref q), some (V.int d), none] → tSeq (tAsg (tOp (rI0 fun i j => V.int (i - j)) (tOp (rI CMulW fun i j => V.int (i * j)) (tOp (rIxT K) (tVar 1) (tC (V.int 0))) (tOp (rIxT K) (tVar 1) (tC (V.int 0)))) (tOp (rI CMulW fun i j => V.int (i * j)) (tOp (rI CMulW fun i j => V.int (i * j)) (tVar 2) (tOp (rIxT K) (tVar 1) (tC (V.int 1)))) (tOp (rIxT K) (tVar 1) (tC (V.int 1))))) (gName 3)) (tRet (tCall (sp_qprod K) [] E0 (tCons (tVar 0) (tCons (tCall (sp_qmade K) [] E0 (tCons (tOp (rI CMulW fun i j => V.int (i * j)) (tOp (rIxT K) (tVar 1) (tC (V.int 2))) (tOp (rIxT K) (tVar 1) (tC (V.int 0)))) (tCons (tOp (rI0 fun i j => V.int (i - j)) (tC (V.int 0)) (tOp (rI CMulW fun i j => V.int (i * j)) (tOp (rIxT K) (tVar 1) (tC (V.int 2))) (tOp (rIxT K) (tVar 1) (tC (V.int 1))))) (tCons (tVar 3) tNil)))) (tCons (tVar 2) tNil))))) { nx := fun _ H' => Q .non H', rt := Q } σ H := fun hn {σ} eσ => by
      subst eσ
      have kk := k
      rw [show qquot d x y = some (qprod d x (qinv d y)) from if_neg hn] at kk
      refine ⟨_, rfl, q, _, 0, _, rfl, rfl, hq, atI_nat (j := 0) rfl, _, rfl, q, _, 0, _, rfl, rfl, hq, atI_nat (j := 0) rfl, _, _, rfl, rfl, cm y0 y0 (by decide) (by decide) (by decide), ?_⟩
      refine ⟨_, rfl, _, rfl, q, _, 1, _, rfl, rfl, hq, atI_nat (j := 1) rfl, _, _, rfl, rfl, cm hz y1 (by decide) (by decide) (by decide), _, rfl, q, _, 1, _, rfl, rfl, hq, atI_nat (j := 1) rfl, _, _, rfl, rfl, cm (hz.mul y1) y1 (by decide) (by decide) (by decide), _, _, rfl, rfl, ?_⟩
      refine ⟨_, rfl, _, rfl, q, _, 2, _, rfl, rfl, hq, atI_nat (j := 2) rfl, _, rfl, q, _, 0, _, rfl, rfl, hq, atI_nat (j := 0) rfl, _, _, rfl, rfl, cm y2 y0 (by decide) (by decide) (by decide), ?_⟩
      refine ⟨_, rfl, q, _, 2, _, rfl, rfl, hq, atI_nat (j := 2) rfl, _, rfl, q, _, 1, _, rfl, rfl, hq, atI_nat (j := 1) rfl, _, _, rfl, rfl, cm y2 y1 (by decide) (by decide) (by decide), _, _, rfl, rfl, _, rfl, ?_⟩
      refine ⟨_, _, _, rfl, fun z => hn (ns _ _ z), fun r H1 s1 n1 t1 => ?_⟩
      have ti := tb_inv ns hy hz hn
      exact ⟨_, rfl, p, r, x, qinv d y, d, rfl, sqT_same hp s1, t1, hx, ti.mono (by decide), hz.mono (by decide), fun r2 H2 s2 n2 t2 => kk _ H2 (s1.trans s2) ⟨r2, rfl, t2⟩⟩
    refine ⟨_, rfl, q, _, 0, _, rfl, rfl, hq, atI_nat (j := 0) rfl, rfl, _, rfl, ite2 (fun c => ?_) (fun c => ?_)⟩
    · have c' : y.1 = 0 := V.int.inj (of_decide_eq_true c)
      refine ⟨_, rfl, q, _, 1, _, rfl, rfl, hq, atI_nat (j := 1) rfl, rfl, _, rfl, ite2 (fun c2 => ?_) (fun c2 => ?_)⟩
      · have c2' : y.2.1 = 0 := V.int.inj (of_decide_eq_true c2)
        have kk := k
        rw [show qquot d x y = none from if_pos ⟨c', c2'⟩] at kk
        exact kk .non H (Same.refl H) rfl
      · exact go (fun z => c2 (decide_eq_true (congrArg V.int z.2))) rfl
    · exact iteF (go (fun z => c (decide_eq_true (congrArg V.int z.1))) rfl)
end
/-! ### the laws' makers of numbers -/
theorem hu65' {k : Nat} {A : Around} (r : Room k A) : A.units + 65 < cLine := by have := r.un; omega
theorem qmixF_snoc : ∀ (r : List (Int × Tri)) (acc : Tri) (p : Int × Tri), qmixF acc (r ++ [p]) = qsum (qmixF acc r) p.2 p.1
  | [], _, (_, _) => rfl
  | (n, v) :: r, acc, p => qmixF_snoc r (qsum acc v n) p
/-- the numbers that stand at these places -/
def AllN (K : PySem.W.Frag) (H : Hp) (ts : List Addr) (vs : List Tri) : Prop := ts.length = vs.length ∧ ∀ (i : Nat) (a : Addr) (t : Tri), ts[i]? = some a → vs[i]? = some t → N3 K H a t
theorem AllN.same {K : PySem.W.Frag} {H H' : Hp} {ts : List Addr} {vs : List Tri} (h : AllN K H ts vs) (s : Same H H') : AllN K H' ts vs := ⟨h.1, fun i a t e1 e2 => sqT_same (h.2 i a t e1 e2) s⟩
section
variable {P : Program} [NoTree P] {w : World} {K : PySem.W.Frag} {mg : Str → Option Value} {base : Heap} {A : Ad}
def sp_qmix (K : PySem.W.Frag) : Sp := fun vs H Q _ => ∃ (p l : Addr) (ns : List Int) (ts : List Addr) (xs : List Tri), vs = [.ref p, .ref l] ∧ SqT K H p (ns.map V.int) ∧ SqL K H l (ts.map V.ref) ∧ AllN K H ts xs ∧ ns.length = xs.length ∧ xs.length ≤ 4 ∧ (∀ z ∈ ns, bd 100 z) ∧ (∀ x ∈ xs, tb 200000 x) ∧ NewT K (qmix ns xs) H Q
theorem ok_qmix (T : CT K mg A) (D : DT K mg A) (G_law_sum : COk P w K mg base CX0 37 "_law_sum" ["_law_one", "_law_other", "_law_by"] (sp_qsum K)) : COk P w K mg base CX0 38 "_law_mix" ["_law_numbers", "_law_values"] (sp_qmix K) := by
  refine COk.by D.law_mix fun f fd F => ?_
  refine F.ok (k := 37) sc_law_mix (fun vs H Q E h => ?_) (fun cdv Ar outer s H vs Q E hr h => ?_)
  · obtain ⟨p, l, ns, ts, xs, rfl, _⟩ := h
    rfl
  · obtain ⟨p, l, ns, ts, xs, rfl, hp, hl, hN, hlen, h4, hb, hx, k⟩ := h
    refine ⟨_, (pss_cons (ps_set (i := 2) sc_law_mix.nd rfl (Or.inl rfl) (pe_tup (pa_cons pe_int (pa_cons pe_int (pa_cons pe_int pa_nil)))))
    (pss_cons (ps_for PassesOwn.never rfl (pi_zipM (by rfl) T.b_zip (pa_cons (pv 0) (pa_cons (pv 1) pa_nil))) (pg_tup rfl (pgs_cons (pg_name (i := 3) sc_law_mix.nd rfl (Or.inl rfl)) (pgs_cons (pg_name (i := 4) sc_law_mix.nd rfl (Or.inl rfl)) pgs_nil)))
      (pss_one (ps_set (i := 2) sc_law_mix.nd rfl (Or.inl rfl) (pe_c G_law_sum (hr.mono (by first | decide | omega)) (pa_cons (pv 2) (pa_cons (pv 4) (pa_cons (pv 3) pa_nil)))))))
    (pss_one (ps_ret (pv 2))))), ?_⟩
    refine ⟨(by show 3 ≤ sizeLine; decide), fun c nc => ?_⟩
    have s0 := same_upd (o := .tup [V.int 0, .int 0, .int 1]) nc
    have hc : N3 K (upd H c (.tup [V.int 0, .int 0, .int 1])) c (0, 0, 1) := SqT.of upd_same
    generalize upd H c (.tup [V.int 0, .int 0, .int 1]) = H0 at *
    have hzl : (ns.zip xs).length = ns.length := by rw [List.length_zip]; omega
    have tbi : ∀ i, i ≤ 4 → tb qL (qmixF (0, 0, 1) ((ns.zip xs).take i)) := fun i hi => by
      have z := tb_mixF (m := 200000) (b := 100) (r := (ns.zip xs).take i) tb0 fun q hq => ⟨hb _ (List.of_mem_zip (List.mem_of_mem_take hq)).1, hx _ (List.of_mem_zip (List.mem_of_mem_take hq)).2⟩
      refine z.mono ?_
      have : ((ns.zip xs).take i).length ≤ 4 := by rw [List.length_take]; omega
      have := Nat.mul_le_mul_right (200000 + 100 + 1) this
      show 1 + _ ≤ 1000000
      omega
    refine ⟨_, rfl, _, rfl, p, l, _, _, rfl, sqT_same hp s0, sqL_same hl s0, for_zipM (K := K) (xs := ns.map V.int) (ys := ts.map V.ref) (by rw [List.length_map, List.length_map, hlen]; exact hN.1.symm) (fun i σ H' => ∃ (c : Addr) (v3 v4 : Option V), σ = [some (.ref p), some (.ref l), some (.ref c), v3, v4] ∧ Same H H' ∧ H c = none ∧ N3 K H' c (qmixF (0, 0, 1) ((ns.zip xs).take i)))
      ⟨c, none, none, rfl, s0, nc, hc⟩ (fun i σ H' ⟨_, _, _, _, s1, _⟩ => ⟨sqT_same hp s1, sqL_same hl s1⟩) ?_ ?_⟩
    · rintro i x y T' σ H' ex ey ⟨c, v3, v4, rfl, s1, nc, hc⟩ nT
      rw [List.getElem?_map] at ex ey
      cases en : ns[i]? with
      | none => rw [en] at ex; cases ex
      | some z =>
        cases et : ts[i]? with
        | none => rw [et] at ey; cases ey
        | some a =>
          rw [en] at ex
          rw [et] at ey
          cases ex
          cases ey
          have hi : i < ns.length := (List.getElem?_eq_some_iff.mp en).1
          obtain ⟨t, et2⟩ : ∃ t, xs[i]? = some t := ⟨_, List.getElem?_eq_getElem (by omega)⟩
          have s2 := same_upd (o := .tup [V.int z, V.ref a]) nT
          refine ⟨T', _, rfl, SqT.of upd_same, rfl, _, _, rfl, _, _, rfl, rfl, ?_⟩
          refine ⟨_, rfl, _, rfl, _, rfl, c, a, _, t, z, rfl, sqT_same hc s2, sqT_same (hN.2 i a t et et2) (s1.trans s2), tbi i (by omega), (hx t (List.mem_of_getElem? et2)).mono (by decide), (hb z (List.mem_of_getElem? en)).mono (by decide), fun r H2 s3 n3 hr2 => ?_⟩
          refine ⟨r, _, _, rfl, (s1.trans s2).trans s3, ?_, ?_⟩
          · cases e : H r with
            | none => rfl
            | some o => rw [s2 _ _ (s1 _ _ e)] at n3; cases n3
          · have ez : (ns.zip xs)[i]? = some (z, t) := List.getElem?_zip_eq_some.mpr ⟨en, et2⟩
            rw [List.take_add_one, ez]
            show N3 K H2 r (qmixF (0, 0, 1) ((ns.zip xs).take i ++ [(z, t)]))
            rw [qmixF_snoc]
            exact hr2
    · rintro σ H' ⟨c, v3, v4, rfl, s1, nc, hc⟩
      rw [List.length_map, List.take_of_length_le (by omega)] at hc
      exact ⟨_, rfl, k c H' s1 nc hc⟩
/-- values of a list: numbers, or None -/
def dat : Option Tri → PyData
  | none => .none
  | some t => .tuple [.int t.1, .int t.2.1, .int t.2.2]
theorem VAt.dp {H : Hp} {v : V} {o : Option Tri} (h : VAt K H v o) : Dp K H v (dat o) := by
  cases o with
  | none =>
    have h : v = .non := h
    rw [h]
    exact .non
  | some t =>
    obtain ⟨p, rfl, hp⟩ := h
    exact .tup hp (.cons (.int _) (.cons (.int _) (.cons (.int _) .nil)))
theorem dat_shaped : ∀ os : List (Option Tri), SeqAt.shaped (.list (os.map dat)) = true := fun os => by
  have h1 : ∀ os : List (Option Tri), PyData.canLayAll0 (os.map dat) = true ∧ PyData.depthAll (os.map dat) ≤ 1 := by
    intro os
    induction os with
    | nil => exact ⟨rfl, Nat.zero_le _⟩
    | cons o r ih =>
      obtain ⟨i1, i2⟩ := ih
      cases o with
      | none => simp [dat, PyData.canLayAll0, PyData.canLay0, PyData.depthAll, PyData.depth, i1, i2]
      | some t => simp [dat, PyData.canLayAll0, PyData.canLay0, PyData.depthAll, PyData.depth, i1]; omega
  obtain ⟨a, b⟩ := h1 os
  simp [SeqAt.shaped, PyData.canLay0, PyData.depth, a]
  omega
/-- the list's values -/
def AllV (K : PySem.W.Frag) (H : Hp) : List V → List (Option Tri) → Prop
  | [], [] => True
  | v :: vs, o :: os => VAt K H v o ∧ AllV K H vs os
  | _, _ => False
theorem AllV.dp {H : Hp} : ∀ {vs : List V} {os : List (Option Tri)}, AllV K H vs os → DpAll K H vs (os.map dat)
  | [], [], _ => .nil
  | _ :: _, _ :: _, h => .cons h.1.dp (AllV.dp h.2)
  | [], _ :: _, h => h.elim
  | _ :: _, [], h => h.elim
def allS : List (Option Tri) → Option (List Tri)
  | [] => some []
  | none :: _ => none
  | some t :: r => (allS r).map (t :: ·)
theorem allS_none : ∀ {os : List (Option Tri)}, allS os = none → (os.map dat).any (fun z => PyData.eqv z .none) = true
  | [], h => by cases h
  | none :: r, _ => rfl
  | some t :: r, h => by
    unfold allS at h
    cases e : allS r with
    | none => rw [List.map_cons, List.any_cons, allS_none e, Bool.or_true]
    | some z => rw [e] at h; cases h
theorem allS_some : ∀ {os : List (Option Tri)} {xs : List Tri}, allS os = some xs → os = xs.map some ∧ (os.map dat).any (fun z => PyData.eqv z .none) = false
  | [], xs, h => by cases h; exact ⟨rfl, rfl⟩
  | none :: r, xs, h => by cases h
  | some t :: r, xs, h => by
    unfold allS at h
    cases e : allS r with
    | none => rw [e] at h; cases h
    | some z =>
      rw [e] at h
      cases h
      obtain ⟨h1, h2⟩ := allS_some e
      refine ⟨by rw [h1]; rfl, ?_⟩
      rw [List.map_cons, List.any_cons, h2, Bool.or_false]
      rfl
theorem AllV.refs {H : Hp} : ∀ {vs : List V} {xs : List Tri}, AllV K H vs (xs.map some) → ∃ ts : List Addr, vs = ts.map V.ref ∧ AllN K H ts xs
  | [], [], _ => ⟨[], rfl, rfl, fun i a t e => by simp at e⟩
  | v :: vs, x :: xs, h => by
    obtain ⟨⟨p, e, hp⟩, h2⟩ := h
    obtain ⟨ts, e2, h3, h4⟩ := AllV.refs h2
    refine ⟨p :: ts, by rw [e, e2]; rfl, by rw [List.length_cons, List.length_cons, h3], fun i a t e1 e2 => ?_⟩
    cases i with
    | zero =>
      cases e1
      cases e2
      exact hp
    | succ i => exact h4 i a t e1 e2
  | [], _ :: _, h => h.elim
  | _ :: _, [], h => h.elim
def qbox (d : Int) (ns : List Int) (os : List (Option Tri)) : Option Tri := (allS os).bind (qboxed d ns)
def sp_qboxed (K : PySem.W.Frag) : Sp := fun vs H Q _ => ∃ (p l : Addr) (ns : List Int) (us : List V) (os : List (Option Tri)) (d : Int), vs = [.ref p, .ref l, .int d] ∧ SqT K H p (ns.map V.int) ∧ SqL K H l us ∧ AllV K H us os ∧ us.length = os.length ∧ ns.length = 2 * os.length ∧ 0 < os.length ∧ os.length ≤ 4 ∧ (∀ z ∈ ns, bd 100 z) ∧ (∀ x, some x ∈ os → tb 200000 x) ∧ bd 100 d ∧ NonSq d ∧ NewQ K (qbox d ns os) H Q
theorem ok_qboxed (T : CT K mg A) (D : DT K mg A) (G_law_mix : COk P w K mg base CX0 38 "_law_mix" ["_law_numbers", "_law_values"] (sp_qmix K)) (G_law_quotient : COk P w K mg base CX0 38 "_law_quotient" ["_law_one", "_law_other", "_law_d"] (sp_qquot K)) : COk P w K mg base CX0 39 "_law_boxed" ["_law_numbers", "_law_values", "_law_d"] (sp_qboxed K) := by
  refine COk.by D.law_boxed fun f fd F => ?_
  refine F.ok (k := 38) sc_law_boxed (fun vs H Q E h => ?_) (fun cdv Ar outer s H vs Q E hr h => ?_)
  · obtain ⟨p, l, ns, us, os, d, rfl, _⟩ := h
    rfl
  · obtain ⟨p, l, ns, us, os, d, rfl, hp, hl, hV, hul, hnl, h0, h4, hb, hx, hd, sq, k⟩ := h
    refine ⟨_, (pss_cons (ps_set (i := 3) sc_law_boxed.nd rfl (Or.inl rfl) (pe_callB call_len_seq (by rfl) T.b_len (by decide +kernel) (pa_cons (pv 1) pa_nil)))
    (pss_cons (ps_if (pt_cmpR (op_inD (hu65' hr)) pe_non (pv 1) rfl)
      (pss_one (ps_ret pe_non)) pss_nil)
    (pss_one (ps_ret (pe_c G_law_quotient (hr.mono (by first | decide | omega)) (pa_cons (pe_c G_law_mix (hr.mono (by first | decide | omega)) (pa_cons (pe_slice sl_tupA (pv 0) po_none (po_some (pv 3))) (pa_cons (pv 1) pa_nil))) (pa_cons (pe_c G_law_mix (hr.mono (by first | decide | omega)) (pa_cons (pe_slice sl_tupA (pv 0) (po_some (pv 3)) po_none) (pa_cons (pv 1) pa_nil))) (pa_cons (pv 2) pa_nil)))))))), ?_⟩
    refine ⟨_, rfl, l, _, rfl, .inl hl, ?_⟩
    show tSeq _ _ _ [some (V.ref p), some (V.ref l), some (V.int d), some (V.int ((us.length : Nat) : Int))] H
    rw [hul]
    refine ⟨_, rfl, .none, _, .non, .lst hl hV.dp, rfl, dat_shaped os, _, rfl, ?_⟩
    unfold qbox at k
    cases eS : allS os with
    | none =>
      rw [eS] at k
      rw [allS_none eS]
      exact iteT (k .non H (Same.refl H) rfl)
    | some xs =>
      rw [eS] at k
      obtain ⟨e1, e2⟩ := allS_some eS
      rw [e2]
      rw [e1] at hV hul hnl h0 h4 hx ⊢
      rw [List.length_map] at hul hnl h0 h4 ⊢
      refine iteF ?_
      obtain ⟨ts, rfl, hN⟩ := hV.refs
      have hx : ∀ x ∈ xs, tb 200000 x := fun x hm => hx x (List.mem_map.mpr ⟨x, hm, rfl⟩)
      have hml : (ns.map V.int).length = ns.length := List.length_map _
      have nf : ¬ (HT.sIx (ns.map V.int).length 0 none = 0 ∧ HT.sIx (ns.map V.int).length (ns.map V.int).length (some (xs.length : Int)) = (ns.map V.int).length) := fun z => by
        have := z.2
        rw [HT.sIx_nat, hml] at this
        omega
      have c1 : cutV (ns.map V.int) none (some (xs.length : Int)) = (ns.take xs.length).map V.int := by rw [cut_takeB, List.map_take]
      have c2 : cutV (ns.map V.int) (some (xs.length : Int)) none = (ns.drop xs.length).map V.int := by rw [cut_dropB, List.map_drop]
      refine ⟨_, rfl, _, rfl, _, rfl, p, _, rfl, hp, fun z => absurd z nf, fun _ u nu => ?_⟩
      have s1 := same_upd (o := .tup (cutV (ns.map V.int) none (some (xs.length : Int)))) nu
      have hu : SqT K (upd H u (.tup (cutV (ns.map V.int) none (some (xs.length : Int))))) u ((ns.take xs.length).map V.int) := by rw [← c1]; exact SqT.of upd_same
      generalize upd H u (.tup (cutV (ns.map V.int) none (some (xs.length : Int)))) = H1 at *
      refine ⟨_, rfl, u, l, _, ts, xs, rfl, hu, sqL_same hl s1, hN.same s1, by rw [List.length_take]; omega, h4, fun z hz => hb z (List.mem_of_mem_take hz), hx, fun r1 H2 s2 n2 t1 => ?_⟩
      refine ⟨_, rfl, _, rfl, _, rfl, p, _, rfl, sqT_same hp (s1.trans s2), fun z => absurd z (not_whole h0 (by rw [hml]; omega)), fun _ v nv => ?_⟩
      have s3 := same_upd (o := .tup (cutV (ns.map V.int) (some (xs.length : Int)) none)) nv
      have hv : SqT K (upd H2 v (.tup (cutV (ns.map V.int) (some (xs.length : Int)) none))) v ((ns.drop xs.length).map V.int) := by rw [← c2]; exact SqT.of upd_same
      generalize upd H2 v (.tup (cutV (ns.map V.int) (some (xs.length : Int)) none)) = H3 at *
      refine ⟨_, rfl, v, l, _, ts, xs, rfl, hv, sqL_same hl ((s1.trans s2).trans s3), hN.same ((s1.trans s2).trans s3), by rw [List.length_drop]; omega, h4, fun z hz => hb z (List.mem_of_mem_drop hz), hx, fun r2 H4 s4 n4 t2 => ?_⟩
      have key : ∀ ms : List Int, (∀ z ∈ ms, bd 100 z) → tb qL (qmix ms xs) := fun ms hm => by
        have z := tb_mixF (m := 200000) (b := 100) (r := ms.zip xs) tb0 fun q hq => ⟨hm _ (List.of_mem_zip hq).1, hx _ (List.of_mem_zip hq).2⟩
        refine z.mono ?_
        have : (ms.zip xs).length ≤ 4 := by rw [List.length_zip]; omega
        have := Nat.mul_le_mul_right (200000 + 100 + 1) this
        show 1 + _ ≤ 1000000
        omega
      refine ⟨_, rfl, r1, r2, _, _, d, rfl, sqT_same t1 (s3.trans s4), t2, (key _ fun z hz => hb z (List.mem_of_mem_take hz)).mono (by decide), (key _ fun z hz => hb z (List.mem_of_mem_drop hz)).mono (by decide), hd, sq, fun v' H5 s5 hv5 => ?_⟩
      exact k v' H5 ((((s1.trans s2).trans s3).trans s4).trans s5) hv5
end
/-! ### drawn ruled chains, and their parts turn by turn -/
/-- all but the object at r stays -/
def Kp (r : Addr) (H H' : Hp) : Prop := ∀ b o, H b = some o → b ≠ r → H' b = some o
theorem Kp.trans {r : Addr} {H H1 H2 : Hp} (a : Kp r H H1) (b : Kp r H1 H2) : Kp r H H2 := fun c o e n => b c o (a c o e n) n
theorem Kp.same {r : Addr} {H H' : Hp} (s : Same H H') : Kp r H H' := fun c o e _ => s c o e
/-- a list that grows in a comprehension, new over H0 -/
theorem Kp.put {r d : Addr} {H0 H H' : Hp} {o : HO} (k : Kp r H0 H) (nd : H0 d = none) (e : H' = upd H d o) : Kp r H0 H' := fun c u z n => by
  rw [e, upd_ne (ne_of_none z nd)]
  exact k c u z n
theorem ixN_last' {n : Nat} (h : 0 < n) : ixN n (-1) = some (n - 1) := by
  unfold ixN
  rw [if_neg (by decide), if_pos (by omega)]
  congr 1
  omega
theorem menu36 {v : Int} (h0 : 0 ≤ v) (h1 : v < 2) : ∃ m : Int, atI [V.int 3, .int 60] v = some (.int m) ∧ 0 < m ∧ m ≤ 60 := by
  obtain e | e : v = 0 ∨ v = 1 := by omega
  all_goals subst e
  · exact ⟨3, rfl, by decide, by decide⟩
  · exact ⟨60, rfl, by decide, by decide⟩
section
variable {P : Program} {w : World} {K : PySem.W.Frag} {mg : Str → Option Value} {base : Heap} {A : Ad}
/-- a drawn ruled chain: all that the laws need of it -/
structure DrawnR (ps ring steps : List Int) : Prop extends RuledGood ps ring steps where
  f9 : ∀ z ∈ ps, -9 ≤ z ∧ z ≤ 60
  r5 : ∀ z ∈ ring, 1 ≤ z ∧ z ≤ 5
  s4 : ∀ z ∈ steps, 0 ≤ z ∧ z ≤ 4
def sp_law_ruled (K : PySem.W.Frag) : Sp := fun vs H Q _ => ∃ (r a : Addr) (ns : List Int), vs = [.ref r] ∧ RowAt K H r a ns ∧
  ∀ v ps ring steps H', Leaf.At K H' v (.ruled ps ring steps) → DrawnR ps ring steps → RowAt K H' r a ns → Kp r H H' → Q (.ref v) H'
end
/-! ### eight numbers, drawn -/
section
variable {P : Program} {w : World} {K : PySem.W.Frag} {mg : Str → Option Value} {base : Heap} {A : Ad}
def Drawn8 (es : List Int) : Prop := es.length = 8 ∧ (∀ z ∈ es, -2 ≤ z ∧ z ≤ 2) ∧ Crossed es
def KpR (r : Addr) (H H' : Hp) : Prop := ∀ b o, H b = some o → b ≠ r → H' b = some o
def sp_law_eight (K : PySem.W.Frag) : Sp := fun vs H Q _ => ∃ (r a : Addr) (ns : List Int), vs = [.ref r] ∧ RowAt K H r a ns ∧
  ∀ p es H', SqT K H' p (es.map V.int) → Drawn8 es → RowAt K H' r a ns → KpR r H H' → Q (.ref p) H'
theorem dr0 : Drawn8 [0, 1, 1, 0, 0, 0, 0, 1] := ⟨rfl, by decide, 3, 1, by decide, by decide, by decide⟩
theorem dr1 : Drawn8 [1, 0, 0, 0, 0, 0, 0, 1] := ⟨rfl, by decide, 3, 0, by decide, by decide, by decide⟩
theorem dr2 : Drawn8 [0, 1, -1, 0, 0, 0, 0, 1] := ⟨rfl, by decide, 3, 1, by decide, by decide, by decide⟩
theorem dr3 : Drawn8 [0, 1, 0, 0, 0, 0, 1, 0] := ⟨rfl, by decide, 2, 1, by decide, by decide, by decide⟩
theorem int_at {es : List Int} {i : Nat} (h : i < es.length) : (es.map V.int)[i]? = some (.int (es.getD i 0)) := by
  rw [List.getElem?_map, List.getElem?_eq_getElem h]
  simp [List.getD, h]
end
/-! ### ruled chains without end -/
theorem rowNo {K : PySem.W.Frag} {H0 : Hp} {r a : Addr} {ns : List Int} (R : RowAt K H0 r a ns) : ∀ b o, b = r → H0 b = some o → (∀ ys, o ≠ .tup ys) ∧ ∀ ob u, o ≠ .frz ob u := fun b o e z => by
  obtain ⟨x, xs, e2⟩ := R.at_
  subst e
  rw [e2] at z
  cases z
  exact ⟨fun _ q => (by cases q), fun _ _ q => (by cases q)⟩
theorem sqT_row {K : PySem.W.Frag} {H H' : Hp} {r a p : Addr} {ns : List Int} {xs : List V} (h : SqT K H p xs) (R : RowAt K H r a ns) (k : ∀ b o, H b = some o → b ≠ r → H' b = some o) : SqT K H' p xs :=
  sqT_but (N := fun b => b = r) h k (rowNo R)
theorem Leaf.At.row {K : PySem.W.Frag} {H H' : Hp} {r a v : Addr} {ns : List Int} {f : Leaf} (h : f.At K H v) (R : RowAt K H r a ns) (k : ∀ b o, H b = some o → b ≠ r → H' b = some o) : f.At K H' v := by
  cases f with
  | frac t b => exact sqT_row h R k
  | root t s b => exact sqT_row h R k
  | ruled ps ring steps =>
    obtain ⟨p, q, u, e, hp, hq, hu⟩ := h
    exact ⟨p, q, u, sqT_row e R k, sqT_row hp R k, sqT_row hq R k, sqT_row hu R k⟩
theorem DrawnR.endless {ps : List Int} (d : DrawnR ps [] []) : DrawnR ps [1, 2] [0, 1] := by
  obtain ⟨⟨⟨p1, p12, r12, sm, tp, tr, ts⟩, one, nn, last⟩, f9, r5, s4⟩ := d
  refine ⟨⟨⟨p1, p12, by decide, rfl, tp, ?_, ?_⟩, ?_, by decide, fun z => nomatch z⟩, f9, by decide, by decide⟩
  · intro z hz
    simp only [List.mem_cons, List.not_mem_nil, or_false] at hz
    rcases hz with rfl | rfl <;> exact ⟨by decide, by decide⟩
  · intro z hz
    simp only [List.mem_cons, List.not_mem_nil, or_false] at hz
    rcases hz with rfl | rfl <;> exact ⟨by decide, by decide⟩
  · intro z hz
    rw [List.append_nil] at one
    rcases List.mem_append.mp hz with h | h
    · exact one z h
    · simp only [List.mem_cons, List.not_mem_nil, or_false] at h
      rcases h with rfl | rfl <;> decide
theorem getD_mem' {xs : List Int} {i : Nat} (h : i < xs.length) : xs.getD i 0 ∈ xs := by
  have e : xs.getD i 0 = xs[i] := by simp [List.getD, h]
  rw [e]
  exact List.getElem_mem h
/-- how great a drawn chain's parts are -/
theorem DrawnR.bound {ps ring steps : List Int} (d : DrawnR ps ring steps) (hr : ring ≠ []) (i : Nat) : (ruledAt ps ring steps i).natAbs ≤ 60 + 4 * i := by
  unfold ruledAt
  split
  · rename_i h
    have := d.f9 _ (getD_mem' h)
    omega
  · have hl : 0 < ring.length := List.length_pos_iff.mpr hr
    have h1 := d.r5 _ (getD_mem' (xs := ring) (i := (i - ps.length) % ring.length) (Nat.mod_lt _ hl))
    have h2 := d.s4 _ (getD_mem' (xs := steps) (i := (i - ps.length) % ring.length) (by rw [d.same]; exact Nat.mod_lt _ hl))
    have hp : 0 < ps.length := List.length_pos_iff.mpr d.p1
    have h3 : (i - ps.length) / ring.length ≤ i - ps.length := Nat.div_le_self _ _
    generalize ring.getD ((i - ps.length) % ring.length) 0 = x at *
    generalize steps.getD ((i - ps.length) % ring.length) 0 = y at *
    generalize (i - ps.length) / ring.length = t at *
    have h4 : (t : Int) * y ≤ t * 4 := Int.mul_le_mul_of_nonneg_left h2.2 (by omega)
    have h5 : 0 ≤ (t : Int) * y := Int.mul_nonneg (by omega) h2.1
    generalize (t : Int) * y = z at *
    by_cases hi : i < ps.length
    · omega
    · omega
theorem ruled_go {ps ring steps : List Int} (hr : ring ≠ []) (i : Nat) : Chain.ended (.ruled ps ring steps i) = false := by
  show (decide (ring = []) && decide (ps.length ≤ i)) = false
  rw [decide_eq_false hr, Bool.false_and]
section
variable {P : Program} {w : World} {K : PySem.W.Frag} {mg : Str → Option Value} {base : Heap} {A : Ad}
end
/-! ### four numbers, drawn -/
section
variable {P : Program} {w : World} {K : PySem.W.Frag} {mg : Str → Option Value} {base : Heap} {A : Ad}
theorem KpR.trans {r : Addr} {H H1 H2 : Hp} (a : KpR r H H1) (b : KpR r H1 H2) : KpR r H H2 := fun c o e n => b c o (a c o e n) n
theorem KpR.same {r : Addr} {H H' : Hp} (s : Same H H') : KpR r H H' := fun c o e _ => s c o e
theorem KpR.put {r d : Addr} {H0 H H' : Hp} {o : HO} (k : KpR r H0 H) (nd : H0 d = none) (e : H' = upd H d o) : KpR r H0 H' := fun c u z n => by
  rw [e, upd_ne (ne_of_none z nd)]
  exact k c u z n
def Drawn4 (es : List Int) : Prop := es.length = 4 ∧ (∀ z ∈ es, -4 ≤ z ∧ z ≤ 4) ∧ Crossed es
def sp_law_four (K : PySem.W.Frag) : Sp := fun vs H Q _ => ∃ (r a : Addr) (ns : List Int), vs = [.ref r] ∧ RowAt K H r a ns ∧
  ∀ p es H', SqT K H' p (es.map V.int) → Drawn4 es → RowAt K H' r a ns → KpR r H H' → Q (.ref p) H'
theorem ok_law_four (T : CT K mg A) (D : DT K mg A) (G_law_signed : COk P w K mg base CX0 2 "_law_signed" ["_law_row_here", "_law_most"] (sp_law_signed K)) : COk P w K mg base CX0 3 "_law_four" ["_law_row_here"] (sp_law_four K) := by
  refine COk.by D.law_four fun f fd F => ?_
  refine F.ok sc_law_four (fun vs H Q E h => ?_) (fun cdv Ar outer s H vs Q E hr h => ?_)
  · obtain ⟨r, a, ns, rfl, _⟩ := h
    rfl
  · obtain ⟨r, a, ns, rfl, R, k⟩ := h
    refine ⟨_, (pss_cons (ps_set (i := 1) sc_law_four.nd rfl (Or.inl rfl) (pe_callTy call_tuple_of (by rfl) T.b_tuple (by decide +kernel) (pa_cons (pe_lc (own := [("_law_k", 2)]) (g := gName 2) (tt := tYes) rfl sc_law_four.nd (pi_range1 rfl T.b_range (pa_cons pe_int pa_nil)) (blkOk_by (own := [("_law_k", 2)]) (N := ["_law_row_here", "_law_numbers", "_law_k"]) (sc := defScope s_law_four) (by decide +kernel)) (fun _ _ _ _ _ => (pg_name (i := 2) sc_law_four.nd rfl (Or.inl rfl))) (fun _ _ _ _ _ => pts_nil) (fun _ _ _ _ _ => (pe_c G_law_signed (hr.mono (by first | decide | omega)) (pa_cons (pv 0) (pa_cons pe_int pa_nil))))) pa_nil)))
    (pss_cons (ps_if (pt_cmpR op_eq (pe_op op_mul (pe_ix ix_tup (pv 1) pe_int (fun _ _ => rfl)) (pe_ix ix_tup (pv 1) pe_int (fun _ _ => rfl))) (pe_op op_mul (pe_ix ix_tup (pv 1) pe_int (fun _ _ => rfl)) (pe_ix ix_tup (pv 1) pe_int (fun _ _ => rfl))) (nomark _))
      (pss_one (ps_ret (pe_tup (pa_cons pe_int (pa_cons pe_int (pa_cons pe_int (pa_cons pe_int pa_nil))))))) pss_nil)
    (pss_one (ps_ret (pv 1))))), ?_⟩
    refine ⟨4, rfl, by decide, by decide, fun D0 nD => lc_range (lo := 0) (n := 4) (fun i H' => ∃ zs : List Int, H' D0 = some (.lst (zs.map V.int)) ∧ zs.length = i ∧ (∀ z ∈ zs, -4 ≤ z ∧ z ≤ 4) ∧ RowAt K H' r a ns ∧ KpR r H H') ?_ ?_ ?_⟩
    · exact ⟨[], upd_same, rfl, (fun z hz => by cases hz), R.same (same_upd nD), KpR.same (same_upd nD)⟩
    · rintro i H' hi ⟨zs, hD, hz1, hz2, R', k'⟩
      have nDr : D0 ≠ r := by
        obtain ⟨x, xs, e⟩ := R'.at_
        exact ne_of hD e (by intro z; exact ref_ne zs (HO.lst.inj z).symm)
      refine ⟨rfl, _, rfl, r, a, ns, 4, rfl, R', by decide, by decide, fun t H'' t0 t1 R'' kp'' => ?_⟩
      have hD2 := kp'' D0 _ hD nDr
      refine ⟨_, hD2, ?_, zs ++ [t], ?_, ?_, ?_, R''.put hD2 nDr, KpR.put (k'.trans kp'') nD rfl⟩
      · rw [List.length_map]
        exact Nat.lt_of_lt_of_le (show zs.length < 20 by omega) (by decide)
      · rw [upd_same, List.map_append]
        rfl
      · rw [List.length_append, hz1]
        rfl
      · intro z hz
        rcases List.mem_append.mp hz with hz | hz
        · exact hz2 z hz
        · have e := List.mem_singleton.mp hz
          exact ⟨by omega, by omega⟩
    rintro H3 ⟨es, hD3, hz1, hz2, R3, kp3⟩
    refine ⟨D0, _, rfl, .inl ⟨SqL.of hD3, fun p np => ?_⟩⟩
    have s5 := same_upd (o := .tup (es.map V.int)) np
    have hp : SqT K (upd H3 p (.tup (es.map V.int))) p (es.map V.int) := SqT.of upd_same
    have R4 := R3.same s5
    have kp4 : KpR r H (upd H3 p (.tup (es.map V.int))) := kp3.trans (KpR.same s5)
    generalize upd H3 p (.tup (es.map V.int)) = H4 at *
    match es, hz1 with
    | [x0, x1, x2, x3], _ =>
    have b0 := hz2 x0 (by simp)
    have b1 := hz2 x1 (by simp)
    have cm : ∀ x y : Int, -4 ≤ x ∧ x ≤ 4 → CMul x y := fun x y h => .inl ⟨by omega, by omega⟩
    refine ⟨_, rfl, p, _, 0, _, rfl, rfl, hp, atI_nat (j := 0) rfl, _, rfl, p, _, 3, _, rfl, rfl, hp, atI_nat (j := 3) rfl, _, _, rfl, rfl, cm _ _ b0, ?_⟩
    refine ⟨_, rfl, p, _, 1, _, rfl, rfl, hp, atI_nat (j := 1) rfl, _, rfl, p, _, 2, _, rfl, rfl, hp, atI_nat (j := 2) rfl, _, _, rfl, rfl, cm _ _ b1, rfl, _, rfl, ite2 (fun c => ?_) (fun c => ?_)⟩
    · refine ⟨(by show 4 ≤ sizeLine; decide), fun q nq => ?_⟩
      exact k q [1, 2, 0, 1] _ (SqT.of upd_same) ⟨rfl, by decide, 1, 0, by decide, by decide, by decide⟩ (R4.same (same_upd nq)) (kp4.trans (KpR.same (same_upd nq)))
    · refine ⟨_, rfl, k p _ H4 hp ⟨rfl, hz2, 1, 0, by decide, by simp, fun z => c (decide_eq_true (congrArg V.int (by simpa using z.symm)))⟩ R4 kp4⟩
end
/-! ### parts put together, as the laws do it -/
def stepF (s : Int × Int) (p : Int) : Int × Int := (p * s.1 + s.2, s.1)
theorem fold_rev (ns : List Int) : fold ns = ns.reverse.foldl stepF (1, 0) := by
  rw [List.foldl_reverse]
  induction ns with
  | nil => rfl
  | cons p r ih => show (p * (fold r).1 + (fold r).2, (fold r).1) = _; rw [List.foldr_cons, ← ih]; rfl
theorem foldl_take {α β : Type} (f : β → α → β) {l : List α} {i : Nat} {x : α} (h : l[i]? = some x) (z : β) : (l.take (i + 1)).foldl f z = f ((l.take i).foldl f z) x := by
  rw [List.take_add_one, h, List.foldl_append]
  rfl
section
variable {P : Program} {w : World} {K : PySem.W.Frag} {mg : Str → Option Value} {base : Heap}
def few (ns : List Int) : Prop := ns.length ≤ 10000 ∧ ∀ p ∈ ns, -(2 ^ 64) < p ∧ p < 2 ^ 64
end
/-! ### the laws' makers of trees with their numbers -/
theorem nonsq_of {d : Int} (h : ∀ r : Int, r * r ≠ d) : NonSq d := fun x y e => by
  by_cases hy : y = 0
  · subst hy
    have : x * x = 0 := by
      have : d * 0 * 0 = 0 := by grind
      omega
    rcases Int.mul_eq_zero.mp this with z | z <;> exact ⟨z, rfl⟩
  · exfalso
    have e1 : x * x = d * (y * y) := by
      have : d * y * y = d * (y * y) := Int.mul_assoc _ _ _
      omega
    have dv : y ^ 2 ∣ x ^ 2 := ⟨d, by rw [Int.pow_succ, Int.pow_succ, Int.pow_zero, Int.one_mul, Int.pow_succ, Int.pow_succ, Int.pow_zero, Int.one_mul, e1, Int.mul_comm]⟩
    obtain ⟨k, hk⟩ := (Int.pow_dvd_pow_iff (by decide)).mp dv
    have e2 : k * k * (y * y) = d * (y * y) := by
      rw [← e1, hk]
      grind
    have y2 : y * y ≠ 0 := fun z => by rcases Int.mul_eq_zero.mp z with z | z <;> exact hy z
    exact h k (Int.eq_of_mul_eq_mul_right y2 e2)
theorem root_not {d r : Int} (h : IsRoot d r) (n : r * r ≠ d) : ∀ s : Int, s * s ≠ d := fun s e => by
  have u := (IsRoot.abs e).unique h
  have : (s.natAbs : Int) * s.natAbs = s * s := Int.natAbs_mul_self
  rw [u] at this
  omega
theorem next_not {r : Int} (h : 1 ≤ r) : ∀ s : Int, s * s ≠ r * r + 1 := fun s e => by
  have e1 : (s.natAbs : Int) * s.natAbs = s * s := Int.natAbs_mul_self
  obtain ⟨n, hn⟩ : ∃ n : Int, n = s.natAbs := ⟨_, rfl⟩
  have n0 : 0 ≤ n := by omega
  rw [← hn] at e1
  rcases Int.lt_or_le r n with z | z
  · have := Int.mul_le_mul (show r + 1 ≤ n by omega) (show r + 1 ≤ n by omega) (by omega) n0
    have e2 : (r + 1) * (r + 1) = r * r + 2 * r + 1 := by grind
    omega
  · have := Int.mul_le_mul z z n0 (by omega)
    omega
/-- a square that is none -/
structure DOk (d : Int) : Prop where
  lo : 2 ≤ d
  hi : d ≤ 402
  ns : NonSq d
theorem DOk.bd {d : Int} (h : DOk d) : Cp.bd 10 d := by
  have := h.lo
  have := h.hi
  show d.natAbs < 2 ^ 10
  have : (2 : Nat) ^ 10 = 1024 := by decide
  omega
theorem dok_of {d : Int} (h1 : 2 ≤ d) (h2 : d ≤ 402) {r : Int} (hr : IsRoot d r) (n : r * r ≠ d) : DOk d := ⟨h1, h2, nonsq_of (root_not hr n)⟩
theorem menuD {v : Int} (h0 : 0 ≤ v) (h1 : v < 8) : ∃ d : Int, atI [V.int 2, .int 3, .int 5, .int 7, .int 6, .int 13, .int 19, .int 2] v = some (.int d) ∧ DOk d := by
  have one : ∀ {d r : Int}, 0 ≤ r → r * r < d → d < (r + 1) * (r + 1) → 2 ≤ d → d ≤ 402 → DOk d := fun h1 h2 h3 h4 h5 => dok_of h4 h5 ⟨h1, by omega, h3⟩ (by omega)
  obtain e | e | e | e | e | e | e | e : v = 0 ∨ v = 1 ∨ v = 2 ∨ v = 3 ∨ v = 4 ∨ v = 5 ∨ v = 6 ∨ v = 7 := by omega
  all_goals subst e
  · exact ⟨2, rfl, one (r := 1) (by decide) (by decide) (by decide) (by decide) (by decide)⟩
  · exact ⟨3, rfl, one (r := 1) (by decide) (by decide) (by decide) (by decide) (by decide)⟩
  · exact ⟨5, rfl, one (r := 2) (by decide) (by decide) (by decide) (by decide) (by decide)⟩
  · exact ⟨7, rfl, one (r := 2) (by decide) (by decide) (by decide) (by decide) (by decide)⟩
  · exact ⟨6, rfl, one (r := 2) (by decide) (by decide) (by decide) (by decide) (by decide)⟩
  · exact ⟨13, rfl, one (r := 3) (by decide) (by decide) (by decide) (by decide) (by decide)⟩
  · exact ⟨19, rfl, one (r := 4) (by decide) (by decide) (by decide) (by decide) (by decide)⟩
  · exact ⟨2, rfl, one (r := 1) (by decide) (by decide) (by decide) (by decide) (by decide)⟩
/-- parts of a chain that ends, as the laws draw them -/
structure PsOk (ps : List Int) : Prop where
  ok : ∃ p r, ps = p :: r ∧ Tail r ∧ r.length ≤ 3 ∧ -4 ≤ p ∧ p ≤ 4 ∧ ∀ z ∈ r, z ≤ 7
/-- a drawn tree, and the number that the law reckons for it -/
inductive QT (d : Int) : Nat → Tree → Option Tri → Prop
  | frac {n : Nat} {t b : Int} : -9 ≤ t → t ≤ 9 → -9 ≤ b → b ≤ 9 → b ≠ 0 → QT d n (.leaf (.frac t b)) (some (qmade t 0 b))
  | root {n : Nat} {t m b : Int} : -5 ≤ t → t ≤ 5 → 1 ≤ m → m ≤ 3 → -2 ≤ b → b ≤ 3 → b ≠ 0 → QT d n (.leaf (.root t (d * m * m) b)) (some (qmade t m b))
  | ruled {n : Nat} {ps : List Int} : PsOk ps → QT d n (.leaf (.ruled ps [] [])) (some (qmade (fold ps).1 0 (fold ps).2))
  | four {n : Nat} {es : List Int} {x : Tree} {o : Option Tri} : Drawn4 es → QT d n x o → QT d (n + 1) (.four es x) (qbox d es [o, some (1, 0, 1)])
  | power {n k : Nat} {x : Tree} {o : Option Tri} : k ≤ 2 → QT d n x o → QT d (n + 1) (.power x (k + 1)) (o.map fun v => qpow d v k)
  | eight {n : Nat} {es : List Int} {x y : Tree} {o u : Option Tri} : Drawn8 es → QT d n x o → QT d n y u → QT d (n + 1) (.eight es x y) (o.bind fun v => u.bind fun z => qboxed d es [qprod d v z, v, z, (1, 0, 1)])
def qbits : Nat → Nat
  | 0 => 13
  | n + 1 => 24 * qbits n + 300
theorem qbits_lo (n : Nat) : 13 ≤ qbits n := by
  induction n with
  | zero => exact Nat.le_refl _
  | succ n ih =>
    show 13 ≤ 24 * qbits n + 300
    omega
theorem bd_small {z : Int} {n : Nat} (h1 : -15 ≤ z) (h2 : z ≤ 15) (hn : 4 ≤ n) : bd n z := by
  have : bd 4 z := by
    show z.natAbs < 2 ^ 4
    have : (2 : Nat) ^ 4 = 16 := by decide
    omega
  exact this.mono hn
theorem PsOk.bits {ps : List Int} (h : PsOk ps) : bd 13 (fold ps).1 ∧ bd 13 (fold ps).2 ∧ 0 < (fold ps).2 := by
  obtain ⟨p, r, rfl, ht, hl, p0, p1, h7⟩ := h.ok
  have e3 : (2 : Nat) ^ 3 = 8 := by decide
  obtain ⟨h1, h2⟩ := foldE (e := 3) (p :: r) fun q hq => by
    rw [e3]
    rcases List.mem_cons.mp hq with rfl | z
    · omega
    · have := ht.1 q z
      have := h7 q z
      omega
  have hp : (2 : Nat) ^ (3 * (p :: r).length) ≤ 2 ^ 12 := Nat.pow_le_pow_right (by decide) (by rw [List.length_cons]; omega)
  have h12 : (2 : Nat) ^ 12 < 2 ^ 13 := by decide
  exact ⟨Nat.lt_of_le_of_lt (Nat.le_trans h1 hp) h12, Nat.lt_of_le_of_lt (Nat.le_trans h2 hp) h12, (fold_pos r ht.1).1⟩
theorem QT.bits {d : Int} (hd : DOk d) : ∀ {n : Nat} {t : Tree} {o : Option Tri}, QT d n t o → ∀ v, o = some v → tb (qbits n) v := by
  intro n t o h
  have mono0 : ∀ (n : Nat) {v : Tri}, tb 13 v → tb (qbits n) v := fun n v h => h.mono (qbits_lo n)
  induction h with
  | frac h1 h2 h3 h4 h5 =>
    intro v e
    cases e
    exact mono0 _ (tb_made h5 (bd_small (by omega) (by omega) (by decide)) bd0 (bd_small (by omega) (by omega) (by decide)))
  | root h1 h2 h3 h4 h5 h6 h7 =>
    intro v e
    cases e
    exact mono0 _ (tb_made h7 (bd_small (by omega) (by omega) (by decide)) (bd_small (by omega) (by omega) (by decide)) (bd_small (by omega) (by omega) (by decide)))
  | ruled h =>
    intro v e
    cases e
    obtain ⟨b1, b2, b3⟩ := h.bits
    exact mono0 _ (tb_made (by omega) b1 bd0 b2)
  | @four n es x o h _ ih =>
    intro v e
    cases o with
    | none => cases e
    | some x =>
      have e : qboxed d es [x, (1, 0, 1)] = some v := e
      have z := tb_boxed (m := qbits n) (b := 4) hd.ns hd.bd (fun z hz => bd_small (by have := h.2.1 z hz; omega) (by have := h.2.1 z hz; omega) (by decide)) (fun y hy => by
        simp only [List.mem_cons, List.not_mem_nil, or_false] at hy
        rcases hy with rfl | rfl
        · exact ih _ rfl
        · exact tb1.mono (by have := qbits_lo n; omega)) e
      refine z.mono ?_
      show 3 * (1 + 2 * (qbits n + 4 + 1)) + 2 * 10 + 3 ≤ 24 * qbits n + 300
      omega
  | @power n k x o hk _ ih =>
    intro v e
    cases o with
    | none => cases e
    | some x =>
      have e : qpow d x k = v := Option.some.inj e
      subst e
      have hx := ih _ rfl
      have key : ∀ k, tb ((k + 1) * (qbits n + 11)) (qpow d x k) := by
        intro k
        induction k with
        | zero => exact hx.mono (by omega)
        | succ k ihk =>
          refine (tb_prod ihk hx hd.bd).mono ?_
          have : (k + 1 + 1) * (qbits n + 11) = (k + 1) * (qbits n + 11) + (qbits n + 11) := Nat.succ_mul ..
          omega
      refine (key k).mono ?_
      show (k + 1) * (qbits n + 11) ≤ 24 * qbits n + 300
      have : (k + 1) * (qbits n + 11) ≤ 3 * (qbits n + 11) := Nat.mul_le_mul_right _ (by omega)
      omega
  | @eight n es x y o u h _ _ ih1 ih2 =>
    intro v e
    cases o with
    | none => cases e
    | some a =>
      cases u with
      | none => cases e
      | some b =>
        have e : qboxed d es [qprod d a b, a, b, (1, 0, 1)] = some v := e
        have ha := ih1 _ rfl
        have hb := ih2 _ rfl
        have z := tb_boxed (m := 2 * qbits n + 11) (b := 4) hd.ns hd.bd (fun z hz => bd_small (by have := h.2.1 z hz; omega) (by have := h.2.1 z hz; omega) (by decide)) (fun y hy => by
          simp only [List.mem_cons, List.not_mem_nil, or_false] at hy
          rcases hy with rfl | rfl | rfl | rfl
          · exact (tb_prod ha hb hd.bd).mono (by omega)
          · exact ha.mono (by omega)
          · exact hb.mono (by omega)
          · exact tb1.mono (by omega)) e
        refine z.mono ?_
        show 3 * (1 + 4 * (2 * qbits n + 11 + 4 + 1)) + 2 * 10 + 3 ≤ 24 * qbits n + 300
        have := qbits_lo n
        omega
theorem tame_of {z : Int} (h1 : -100000 ≤ z) (h2 : z ≤ 100000) : tame z := ⟨by omega, by omega⟩
theorem PsOk.good {ps : List Int} (h : PsOk ps) : RuledGood ps [] [] := by
  obtain ⟨p, r, rfl, ht, hl, p0, p1, h7⟩ := h.ok
  have b : ∀ z ∈ p :: r, tame z := fun z hz => by
    rcases List.mem_cons.mp hz with rfl | y
    · exact tame_of (by omega) (by omega)
    · have := ht.1 z y
      have := h7 z y
      exact tame_of (by omega) (by omega)
  refine ⟨⟨List.cons_ne_nil _ _, by rw [List.length_cons]; omega, Nat.zero_le _, rfl, b, fun z hz => (by cases hz), fun z hz => (by cases hz)⟩, fun z hz => ?_, fun z hz => (by cases hz), fun _ => ?_⟩
  · rw [List.append_nil] at hz
    exact ht.1 z hz
  · cases r with
    | nil => exact .inl rfl
    | cons q s =>
      refine .inr ?_
      rw [List.getLast?_cons_cons]
      obtain ⟨x, hx⟩ : ∃ x, (q :: s).getLast? = some x := ⟨_, List.getLast?_eq_some_getLast (List.cons_ne_nil _ _)⟩
      exact ⟨x, hx, ht.2 x hx⟩
theorem QT.good {d : Int} (hd : DOk d) {n : Nat} {t : Tree} {o : Option Tri} (h : QT d n t o) : t.Good ∧ t.ht ≤ n := by
  induction h with
  | frac h1 h2 h3 h4 h5 => exact ⟨⟨tame_of (by omega) (by omega), tame_of (by omega) (by omega), h5⟩, Nat.zero_le _⟩
  | @root n t m b h1 h2 h3 h4 h5 h6 h7 =>
    have := hd.lo
    have := hd.hi
    have m1 : m * m ≤ 3 * 3 := Int.mul_le_mul h4 h4 (by omega) (by decide)
    have m0 : 1 * 1 ≤ m * m := Int.mul_le_mul h3 h3 (by decide) (by omega)
    have e : d * m * m = d * (m * m) := Int.mul_assoc _ _ _
    have s1 := Int.mul_le_mul (show d ≤ 402 by omega) (show m * m ≤ 9 by omega) (by omega) (by decide)
    have s0 := Int.mul_nonneg (show 0 ≤ d by omega) (show 0 ≤ m * m by omega)
    exact ⟨⟨tame_of (by omega) (by omega), tame_of (by omega) (by omega), by omega, tame_of (by omega) (by omega), h7⟩, Nat.zero_le _⟩
  | ruled h => exact ⟨h.good, Nat.zero_le _⟩
  | four h _ ih => exact ⟨⟨h.1, fun z hz => tame_of (by have := h.2.1 z hz; omega) (by have := h.2.1 z hz; omega), h.2.2, ih.1⟩, Nat.succ_le_succ ih.2⟩
  | power hk _ ih => exact ⟨⟨by omega, by omega, ih.1⟩, Nat.succ_le_succ ih.2⟩
  | @eight n es x y o u h _ _ ih1 ih2 =>
    refine ⟨⟨h.1, fun z hz => tame_of (by have := h.2.1 z hz; omega) (by have := h.2.1 z hz; omega), h.2.2, ih1.1, ih2.1⟩, ?_⟩
    show max x.ht y.ht + 1 ≤ n + 1
    have := ih1.2
    have := ih2.2
    omega
section
variable {P : Program} [NoTree P] {w : World} {K : PySem.W.Frag} {mg : Str → Option Value} {base : Heap} {A : Ad}
def sp_qsquare (K : PySem.W.Frag) : Sp := fun vs H Q _ => ∃ (r a : Addr) (ns : List Int), vs = [.ref r] ∧ RowAt K H r a ns ∧ ∀ d H', DOk d → RowAt K H' r a ns → KpR r H H' → Q (.int d) H'
theorem ok_qsquare (T : CT K mg A) (D : DT K mg A) (G_law_taken : COk P w K mg base CX0 1 "_law_taken" ["_law_row_here", "_law_many"] (sp_law_taken K)) : COk P w K mg base CX0 3 "_law_square" ["_law_row_here"] (sp_qsquare K) := by
  have G_law_root := ok_law_root (P := P) (w := w) (base := base) D
  refine COk.by D.law_square fun f fd F => ?_
  refine F.ok (k := 2) sc_law_square (fun vs H Q E h => ?_) (fun cdv Ar outer s H vs Q E hr h => ?_)
  · obtain ⟨r, a, ns, rfl, _⟩ := h
    rfl
  · obtain ⟨r, a, ns, rfl, R, k⟩ := h
    refine ⟨_, (pss_cons (ps_set (i := 1) sc_law_square.nd rfl (Or.inl rfl) (pe_ix ix_list (pe_lst (pa_cons pe_int (pa_cons pe_int (pa_cons pe_int (pa_cons pe_int (pa_cons pe_int (pa_cons pe_int (pa_cons pe_int (pa_cons pe_int pa_nil))))))))) (pe_c G_law_taken (hr.mono (by first | decide | omega)) (pa_cons (pv 0) (pa_cons pe_int pa_nil))) (fun _ _ => rfl)))
    (C8.pss_cut (ps_if (pt_cmpR op_eq (pe_c G_law_taken (hr.mono (by first | decide | omega)) (pa_cons (pv 0) (pa_cons pe_int pa_nil))) pe_int (nomark _))
      (pss_cons (ps_set (i := 1) sc_law_square.nd rfl (Or.inl rfl) (pe_op op_add pe_int (pe_c G_law_taken (hr.mono (by first | decide | omega)) (pa_cons (pv 0) (pa_cons pe_int pa_nil)))))
    (pss_one (ps_if (pt_cmpR op_eq (pe_op op_mul (pe_c G_law_root (hr.mono (by first | decide | omega)) (pa_cons (pv 1) pa_nil)) (pe_c G_law_root (hr.mono (by first | decide | omega)) (pa_cons (pv 1) pa_nil))) (pv 1) (nomark _))
      (pss_one (ps_set (i := 1) sc_law_square.nd rfl (Or.inl rfl) (pe_op op_add (pv 1) pe_int))) pss_nil))) pss_nil)
    (pss_one (ps_ret (pv 1))))), ?_⟩
    have wd : ∀ z : Int, z ≤ 1000 → z < 2 ^ 8000 := fun z hz => Int.lt_of_le_of_lt hz (by decide +kernel)
    refine ⟨(by show 8 ≤ sizeLine; decide), fun l nl => ?_⟩
    have s0 := same_upd (o := .lst [V.int 2, .int 3, .int 5, .int 7, .int 6, .int 13, .int 19, .int 2]) nl
    have nlr : l ≠ r := by
      obtain ⟨x, xs, e⟩ := R.at_
      exact (ne_of_none e nl).symm
    have hl := upd_at s0
    generalize upd H l (.lst [V.int 2, .int 3, .int 5, .int 7, .int 6, .int 13, .int 19, .int 2]) = H0 at *
    refine ⟨_, rfl, r, a, ns, _, rfl, R.same s0, by decide, wd _ (by decide), fun i H1 i0 i1 R1 kp1 => ?_⟩
    obtain ⟨d, ed, hd⟩ := menuD i0 i1
    refine ⟨l, _, i, _, rfl, rfl, SqL.of (kp1 l _ hl nlr), ed, ?_⟩
    refine ⟨fun σ H' => ∃ d, σ = [some (V.ref r), some (V.int d)] ∧ DOk d ∧ RowAt K H' r a ns ∧ KpR r H H', ?_, ?_⟩
    · refine ⟨_, rfl, r, a, ns, _, rfl, R1, by decide, wd _ (by decide), fun j H2 j0 j1 R2 kp2 => ?_⟩
      have kp02 : KpR r H H2 := (KpR.same s0).trans (KpR.trans kp1 kp2)
      refine ⟨rfl, _, rfl, ite2 (fun c => ?_) (fun c => ?_)⟩
      · refine ⟨_, rfl, r, a, ns, _, rfl, R2, by decide, wd _ (by decide), fun t H3 t0 t1 R3 kp3 => ?_⟩
        have kp03 : KpR r H H3 := kp02.trans kp3
        have b : bd 7000 (2 + t) := by
          show (2 + t).natAbs < 2 ^ 7000
          exact Nat.lt_trans (show (2 + t).natAbs < 2 ^ 10 by have : (2 : Nat) ^ 10 = 1024 := by decide
                                                              omega) (Nat.pow_lt_pow_right (by decide) (by decide))
        refine ⟨_, _, rfl, rfl, ?_⟩
        refine ⟨_, rfl, _, rfl, by omega, b, fun q hq => ⟨_, rfl, _, rfl, by omega, b, fun q' hq' => ?_⟩⟩
        obtain rfl := hq'.unique hq
        have q0 := hq.1
        have q1 := hq.2.1
        have q3 : q' ≤ 402 := by
          rcases Int.lt_or_le 402 q' with z | z
          · have := Int.mul_le_mul (show 403 ≤ q' by omega) (show 403 ≤ q' by omega) (by decide) q0
            omega
          · exact z
        refine ⟨_, _, rfl, rfl, .inl ⟨by omega, by omega⟩, _, rfl, rfl, _, rfl, ite2 (fun c2 => ?_) (fun c2 => ?_)⟩
        · have c2' : q' * q' = 2 + t := V.int.inj (of_decide_eq_true c2)
          refine ⟨_, rfl, _, _, rfl, rfl, _, rfl, ⟨by omega, by omega, ?_⟩, R3, kp03⟩
          rw [← c2']
          refine nonsq_of (next_not ?_)
          rcases Int.lt_or_le 0 q' with z | z
          · omega
          · have : q' = 0 := by omega
            rw [this] at c2'
            omega
        · have c2' : q' * q' ≠ 2 + t := fun z => c2 (decide_eq_true (congrArg V.int z))
          exact ⟨_, rfl, dok_of (by omega) (by omega) hq c2', R3, kp03⟩
      · exact ⟨_, rfl, hd, R2, kp02⟩
    · rintro σ H' ⟨d, rfl, hd, R', kp'⟩
      exact ⟨_, rfl, k d H' hd R' kp'⟩
/-- a tree and its number, in a new pair -/
def PairK (K : PySem.W.Frag) (d : Int) (n : Nat) (r a : Addr) (ns : List Int) (H : Hp) (Q : VK) : Prop := ∀ p v u t o H', SqT K H' p [.ref v, u] → t.At K H' v → VAt K H' u o → QT d n t o → RowAt K H' r a ns → KpR r H H' → Q (.ref p) H'
theorem VAt.row {H H' : Hp} {r a : Addr} {ns : List Int} {v : V} {o : Option Tri} (h : VAt K H v o) (R : RowAt K H r a ns) (k : KpR r H H') : VAt K H' v o := by
  cases o with
  | none => exact h
  | some t => obtain ⟨p, e, hp⟩ := h; exact ⟨p, e, sqT_row hp R k⟩
theorem Tree.At.but {H H' : Hp} {N : Addr → Prop} (k : ∀ b o, H b = some o → ¬ N b → H' b = some o) (hN : ∀ b o, N b → H b = some o → (∀ ys, o ≠ .tup ys) ∧ ∀ ob u, o ≠ .frz ob u) : ∀ {t : Tree} {v : Addr}, t.At K H v → t.At K H' v
  | .leaf (.frac _ _), v, h => sqT_but (N := N) h k hN
  | .leaf (.root _ _ _), v, h => sqT_but (N := N) h k hN
  | .leaf (.ruled _ _ _), v, h => by
    obtain ⟨p, q, u, h1, h2, h3, h4⟩ := h
    exact ⟨p, q, u, sqT_but (N := N) h1 k hN, sqT_but (N := N) h2 k hN, sqT_but (N := N) h3 k hN, sqT_but (N := N) h4 k hN⟩
  | .four ns x, v, h => by
    obtain ⟨p, tx, h1, h2, h3⟩ := h
    exact ⟨p, tx, sqT_but (N := N) h1 k hN, sqT_but (N := N) h2 k hN, Tree.At.but k hN h3⟩
  | .eight ns x y, v, h => by
    obtain ⟨p, tx, ty, h1, h2, h3, h4⟩ := h
    exact ⟨p, tx, ty, sqT_but (N := N) h1 k hN, sqT_but (N := N) h2 k hN, Tree.At.but k hN h3, Tree.At.but k hN h4⟩
  | .power x n, v, h => by
    obtain ⟨tx, h1, h2⟩ := h
    exact ⟨tx, sqT_but (N := N) h1 k hN, Tree.At.but k hN h2⟩
theorem Tree.At.row {H H' : Hp} {r a : Addr} {ns : List Int} {t : Tree} {v : Addr} (h : t.At K H v) (R : RowAt K H r a ns) (k : KpR r H H') : t.At K H' v := Tree.At.but (N := fun b => b = r) k (rowNo R) h
def sp_qleaf (K : PySem.W.Frag) (n : Nat) : Sp := fun vs H Q _ => ∃ (r a : Addr) (ns : List Int) (d : Int), vs = [.ref r, .int d] ∧ RowAt K H r a ns ∧ DOk d ∧ PairK K d n r a ns H Q
def sp_qtree (K : PySem.W.Frag) (n : Nat) : Sp := fun vs H Q _ => ∃ (r a : Addr) (ns : List Int) (d : Int), vs = [.ref r, .int d, .int n] ∧ RowAt K H r a ns ∧ DOk d ∧ PairK K d n r a ns H Q
end
/-! ### drawn leaves -/
section
variable {P : Program} [NoTree P] {w : World} {K : PySem.W.Frag} {mg : Str → Option Value} {base : Heap} {A : Ad}
theorem menuB {v : Int} (h0 : 0 ≤ v) (h1 : v < 5) : ∃ b : Int, atI [V.int 1, .int 2, .int (-1), .int 3, .int (-2)] v = some (.int b) ∧ -2 ≤ b ∧ b ≤ 3 ∧ b ≠ 0 := by
  obtain e | e | e | e | e : v = 0 ∨ v = 1 ∨ v = 2 ∨ v = 3 ∨ v = 4 := by omega
  all_goals subst e
  · exact ⟨1, rfl, by decide, by decide, by decide⟩
  · exact ⟨2, rfl, by decide, by decide, by decide⟩
  · exact ⟨-1, rfl, by decide, by decide, by decide⟩
  · exact ⟨3, rfl, by decide, by decide, by decide⟩
  · exact ⟨-2, rfl, by decide, by decide, by decide⟩
end
/-! ### drawn trees -/
section
variable {P : Program} [NoTree P] {w : World} {K : PySem.W.Frag} {mg : Str → Option Value} {base : Heap} {A : Ad}
theorem qbits_hi {n : Nat} (h : n ≤ 2) : qbits n ≤ 15000 := by
  match n, h with
  | 0, _ => decide
  | 1, _ => decide
  | 2, _ => decide
def sp_qtreeP (K : PySem.W.Frag) (n : Nat) : Sp := fun vs H Q E => n ≠ 0 ∧ sp_qtree K (n - 1) vs H Q E
theorem VAt.non {H : Hp} {v : V} {o : Option Tri} (h : VAt K H v o) : v = .non ↔ o = none := by
  cases o with
  | none => exact ⟨fun _ => rfl, fun _ => h⟩
  | some t =>
    obtain ⟨p, rfl, _⟩ := h
    exact ⟨fun z => (by cases z), fun z => (by cases z)⟩
end
/-! ### whole numbers with a root beside, and their order -/
structure Sq where
  d : Int
  ok : DOk d
structure Zd (D : Sq) where
  re : Int
  im : Int
namespace Zd
variable {D : Sq}
theorem ext' {x y : Zd D} (h1 : x.re = y.re) (h2 : x.im = y.im) : x = y := by
  cases x
  cases y
  cases h1
  cases h2
  rfl
instance : Add (Zd D) := ⟨fun x y => ⟨x.re + y.re, x.im + y.im⟩⟩
instance : Mul (Zd D) := ⟨fun x y => ⟨x.re * y.re + D.d * x.im * y.im, x.re * y.im + x.im * y.re⟩⟩
instance : Neg (Zd D) := ⟨fun x => ⟨-x.re, -x.im⟩⟩
instance : Sub (Zd D) := ⟨fun x y => ⟨x.re - y.re, x.im - y.im⟩⟩
instance : NatCast (Zd D) := ⟨fun n => ⟨n, 0⟩⟩
instance (n : Nat) : OfNat (Zd D) n := ⟨⟨n, 0⟩⟩
instance : IntCast (Zd D) := ⟨fun n => ⟨n, 0⟩⟩
instance : SMul Nat (Zd D) := ⟨fun n x => (Nat.cast n : Zd D) * x⟩
instance : SMul Int (Zd D) := ⟨fun n x => ⟨n * x.re, n * x.im⟩⟩
def pw (x : Zd D) : Nat → Zd D
  | 0 => 1
  | n + 1 => pw x n * x
instance : HPow (Zd D) Nat (Zd D) := ⟨pw⟩
theorem add_re (x y : Zd D) : (x + y).re = x.re + y.re := rfl
theorem add_im (x y : Zd D) : (x + y).im = x.im + y.im := rfl
theorem mul_re (x y : Zd D) : (x * y).re = x.re * y.re + D.d * x.im * y.im := rfl
theorem mul_im (x y : Zd D) : (x * y).im = x.re * y.im + x.im * y.re := rfl
theorem neg_re (x : Zd D) : (-x).re = -x.re := rfl
theorem neg_im (x : Zd D) : (-x).im = -x.im := rfl
theorem sub_re (x y : Zd D) : (x - y).re = x.re - y.re := rfl
theorem sub_im (x y : Zd D) : (x - y).im = x.im - y.im := rfl
theorem zero_re : (0 : Zd D).re = 0 := rfl
theorem zero_im : (0 : Zd D).im = 0 := rfl
theorem one_re : (1 : Zd D).re = 1 := rfl
theorem one_im : (1 : Zd D).im = 0 := rfl
theorem int_re (n : Int) : ((n : Int) : Zd D).re = n := rfl
theorem int_im (n : Int) : ((n : Int) : Zd D).im = 0 := rfl
theorem mulA (x y z : Zd D) : x * y * z = x * (y * z) := by
  refine ext' ?_ ?_
  · simp only [mul_re, mul_im]; grind
  · simp only [mul_re, mul_im]; grind
theorem mulC (x y : Zd D) : x * y = y * x := by
  refine ext' ?_ ?_
  · simp only [mul_re]; grind
  · simp only [mul_im]; grind
theorem mul1 (x : Zd D) : x * 1 = x := by
  refine ext' ?_ ?_
  · simp only [mul_re, one_re, one_im]; grind
  · simp only [mul_im, one_re, one_im]; grind
theorem mulD (x y z : Zd D) : x * (y + z) = x * y + x * z := by
  refine ext' ?_ ?_
  · simp only [mul_re, add_re, add_im]; grind
  · simp only [mul_im, add_re, add_im]; grind
theorem mul0 (x : Zd D) : 0 * x = 0 := by
  refine ext' ?_ ?_
  · simp only [mul_re, zero_re, zero_im]; grind
  · simp only [mul_im, zero_re, zero_im]; grind
instance : Lean.Grind.CommRing (Zd D) where
  add_zero x := ext' (Int.add_zero _) (Int.add_zero _)
  add_comm x y := ext' (Int.add_comm _ _) (Int.add_comm _ _)
  add_assoc x y z := ext' (Int.add_assoc _ _ _) (Int.add_assoc _ _ _)
  mul_assoc := mulA
  mul_comm := mulC
  mul_one := mul1
  one_mul x := by rw [mulC]; exact mul1 x
  left_distrib := mulD
  right_distrib x y z := by rw [mulC, mulD, mulC z x, mulC z y]
  zero_mul := mul0
  mul_zero x := by rw [mulC]; exact mul0 x
  pow_zero x := rfl
  pow_succ x n := rfl
  ofNat_succ n := by
    refine ext' ?_ ?_
    · show ((n + 1 : Nat) : Int) = (n : Int) + ((1 : Nat) : Int)
      omega
    · rfl
  neg_add_cancel x := ext' (Int.add_left_neg _) (Int.add_left_neg _)
  sub_eq_add_neg x y := ext' Int.sub_eq_add_neg Int.sub_eq_add_neg
  neg_zsmul n x := ext' (Int.neg_mul _ _) (Int.neg_mul _ _)
  zsmul_natCast_eq_nsmul n x := by
    refine ext' ?_ ?_
    · show (n : Int) * x.re = (n : Int) * x.re + D.d * 0 * x.im
      grind
    · show (n : Int) * x.im = (n : Int) * x.im + 0 * x.re
      grind
  intCast_ofNat n := rfl
  intCast_neg n := ext' rfl rfl
def norm (x : Zd D) : Int := x.re * x.re - D.d * x.im * x.im
def Pos (x : Zd D) : Prop := (0 < x.norm ∧ 0 < x.re) ∨ (x.norm < 0 ∧ 0 < x.im)
theorem norm_mul (x y : Zd D) : (x * y).norm = x.norm * y.norm := by
  unfold norm
  rw [mul_re, mul_im]
  grind
theorem norm_neg (x : Zd D) : (-x).norm = x.norm := by
  unfold norm
  rw [neg_re, neg_im]
  grind
theorem d0 : 0 < D.d := by have := D.ok.lo; omega
theorem tri (x : Zd D) : x = 0 ∨ Pos x ∨ Pos (-x) := by
  rcases Int.lt_trichotomy x.norm 0 with h | h | h
  · rcases Int.lt_trichotomy x.im 0 with z | z | z
    · exact .inr (.inr (.inr ⟨by rw [norm_neg]; exact h, by rw [neg_im]; omega⟩))
    · exfalso
      unfold norm at h
      rw [z, Int.mul_zero] at h
      have := sq_nonneg x.re
      omega
    · exact .inr (.inl (.inr ⟨h, z⟩))
  · obtain ⟨h1, h2⟩ := D.ok.ns _ _ h
    exact .inl (ext' h1 h2)
  · rcases Int.lt_trichotomy x.re 0 with z | z | z
    · exact .inr (.inr (.inl ⟨by rw [norm_neg]; exact h, by rw [neg_re]; omega⟩))
    · exfalso
      unfold norm at h
      rw [z, Int.mul_zero] at h
      have := Int.mul_nonneg (Int.le_of_lt (d0 (D := D))) (sq_nonneg x.im)
      have e : D.d * (x.im * x.im) = D.d * x.im * x.im := (Int.mul_assoc _ _ _).symm
      omega
    · exact .inr (.inl (.inl ⟨h, z⟩))
theorem not_pos_zero : ¬ Pos (0 : Zd D) := fun h => by
  have e : (0 : Zd D).norm = 0 := by unfold norm; rw [zero_re, zero_im]; grind
  rcases h with ⟨h, _⟩ | ⟨h, _⟩ <;> rw [e] at h <;> omega
theorem not_both {x : Zd D} (h : Pos x) (h' : Pos (-x)) : False := by
  unfold Pos at h'
  rw [norm_neg, neg_re, neg_im] at h'
  rcases h with ⟨a, b⟩ | ⟨a, b⟩ <;> rcases h' with ⟨c, e⟩ | ⟨c, e⟩ <;> omega
theorem big_sum {p q : Int} (hp : 0 < p) (h : q * q < p * p) : 0 < p + q ∧ 0 < p - q := by
  refine ⟨?_, ?_⟩
  · rcases Int.lt_or_le 0 (p + q) with z | z
    · exact z
    · have := Int.mul_le_mul (show p ≤ -q by omega) (show p ≤ -q by omega) (by omega) (by omega)
      have e : -q * -q = q * q := by grind
      omega
  · rcases Int.lt_or_le 0 (p - q) with z | z
    · exact z
    · have := Int.mul_le_mul (show p ≤ q by omega) (show p ≤ q by omega) (by omega) (by omega)
      omega
theorem mul_lt2 {a b c e : Int} (h1 : a < b) (h2 : c < e) (ha : 0 ≤ a) (hc : 0 ≤ c) : a * c < b * e := by
  have k1 := Int.mul_le_mul_of_nonneg_right (show a ≤ b by omega) hc
  have k2 := Int.mul_lt_mul_of_pos_left h2 (show 0 < b by omega)
  omega
section
variable {x y : Zd D}
theorem dbb (x : Zd D) : 0 ≤ D.d * x.im * x.im := by
  rw [Int.mul_assoc]
  exact Int.mul_nonneg (Int.le_of_lt d0) (sq_nonneg _)
/-- both ruled by their whole numbers -/
theorem rr (h1 : 0 < x.norm) (h2 : 0 < x.re) (h3 : 0 < y.norm) (h4 : 0 < y.re) : 0 < x.re * y.re + D.d * x.im * y.im ∧ 0 < x.re * y.re - D.d * x.im * y.im := by
  refine big_sum (Int.mul_pos h2 h4) ?_
  unfold norm at h1 h3
  have k := mul_lt2 (show D.d * x.im * x.im < x.re * x.re by omega) (show D.d * y.im * y.im < y.re * y.re by omega) (dbb x) (dbb y)
  have e1 : D.d * x.im * x.im * (D.d * y.im * y.im) = D.d * x.im * y.im * (D.d * x.im * y.im) := by grind
  have e2 : x.re * x.re * (y.re * y.re) = x.re * y.re * (x.re * y.re) := by grind
  omega
theorem ii (h1 : x.norm < 0) (h2 : 0 < x.im) (h3 : y.norm < 0) (h4 : 0 < y.im) : 0 < D.d * x.im * y.im + x.re * y.re ∧ 0 < D.d * x.im * y.im - x.re * y.re := by
  refine big_sum (Int.mul_pos (Int.mul_pos d0 h2) h4) ?_
  unfold norm at h1 h3
  have k := mul_lt2 (show x.re * x.re < D.d * x.im * x.im by omega) (show y.re * y.re < D.d * y.im * y.im by omega) (sq_nonneg _) (sq_nonneg _)
  have e1 : D.d * x.im * x.im * (D.d * y.im * y.im) = D.d * x.im * y.im * (D.d * x.im * y.im) := by grind
  have e2 : x.re * x.re * (y.re * y.re) = x.re * y.re * (x.re * y.re) := by grind
  omega
theorem ri (h1 : 0 < x.norm) (h2 : 0 < x.re) (h3 : y.norm < 0) (h4 : 0 < y.im) : 0 < x.re * y.im + x.im * y.re := by
  refine (big_sum (Int.mul_pos h2 h4) ?_).1
  unfold norm at h1 h3
  have k := mul_lt2 (show D.d * x.im * x.im < x.re * x.re by omega) (show y.re * y.re < D.d * y.im * y.im by omega) (dbb x) (sq_nonneg _)
  have e1 : D.d * x.im * x.im * (y.re * y.re) = D.d * (x.im * y.re * (x.im * y.re)) := by grind
  have e2 : x.re * x.re * (D.d * y.im * y.im) = D.d * (x.re * y.im * (x.re * y.im)) := by grind
  rw [e1, e2] at k
  exact Int.lt_of_mul_lt_mul_left k (Int.le_of_lt d0)
theorem Pos.mul (hx : Pos x) (hy : Pos y) : Pos (x * y) := by
  unfold Pos
  rw [norm_mul, mul_re, mul_im]
  rcases hx with ⟨h1, h2⟩ | ⟨h1, h2⟩ <;> rcases hy with ⟨h3, h4⟩ | ⟨h3, h4⟩
  · exact .inl ⟨Int.mul_pos h1 h3, (rr h1 h2 h3 h4).1⟩
  · exact .inr ⟨Int.mul_neg_of_pos_of_neg h1 h3, ri h1 h2 h3 h4⟩
  · refine .inr ⟨Int.mul_neg_of_neg_of_pos h1 h3, ?_⟩
    have := ri h3 h4 h1 h2
    have e : y.re * x.im + y.im * x.re = x.re * y.im + x.im * y.re := by grind
    omega
  · refine .inl ⟨Int.mul_pos_of_neg_of_neg h1 h3, ?_⟩
    have := (ii h1 h2 h3 h4).1
    omega
theorem norm_add (x y : Zd D) : (x + y).norm = x.norm + y.norm + 2 * (x.re * y.re - D.d * x.im * y.im) := by
  unfold norm
  rw [add_re, add_im]
  grind
theorem addR (h1 : 0 < x.norm) (h2 : 0 < x.re) (h3 : 0 < y.norm) (h4 : 0 < y.re) : 0 < (x + y).norm ∧ 0 < (x + y).re := by
  have := (rr h1 h2 h3 h4).2
  rw [norm_add, add_re]
  omega
theorem addI (h1 : x.norm < 0) (h2 : 0 < x.im) (h3 : y.norm < 0) (h4 : 0 < y.im) : (x + y).norm < 0 ∧ 0 < (x + y).im := by
  have := (ii h1 h2 h3 h4).2
  rw [norm_add, add_im]
  omega
end
theorem addM {x y : Zd D} (h1 : 0 < x.norm) (h2 : 0 < x.re) (h3 : y.norm < 0) (h4 : 0 < y.im) : Pos (x + y) := by
  rcases tri (x + y) with z | z | z
  · exfalso
    have e : y = -x := by
      have h5 := congrArg Zd.re z
      have h6 := congrArg Zd.im z
      rw [add_re, zero_re] at h5
      rw [add_im, zero_im] at h6
      exact ext' (by rw [neg_re]; omega) (by rw [neg_im]; omega)
    rw [e, norm_neg] at h3
    omega
  · exact z
  · exfalso
    rcases z with ⟨z1, z2⟩ | ⟨z1, z2⟩
    · have := (addR h1 h2 z1 z2).1
      have e : x + -(x + y) = -y := ext' (by rw [add_re, neg_re, add_re, neg_re]; omega) (by rw [add_im, neg_im, add_im, neg_im]; omega)
      rw [e, norm_neg] at this
      omega
    · have := (addI h3 h4 z1 z2).1
      have e : y + -(x + y) = -x := ext' (by rw [add_re, neg_re, add_re, neg_re]; omega) (by rw [add_im, neg_im, add_im, neg_im]; omega)
      rw [e, norm_neg] at this
      omega
theorem Pos.add {x y : Zd D} (hx : Pos x) (hy : Pos y) : Pos (x + y) := by
  rcases hx with ⟨h1, h2⟩ | ⟨h1, h2⟩ <;> rcases hy with ⟨h3, h4⟩ | ⟨h3, h4⟩
  · exact .inl (addR h1 h2 h3 h4)
  · exact addM h1 h2 h3 h4
  · have z := addM h3 h4 h1 h2
    rw [show y + x = x + y from ext' (Int.add_comm _ _) (Int.add_comm _ _)] at z
    exact z
  · exact .inr (addI h1 h2 h3 h4)
instance : LE (Zd D) := ⟨fun x y => x = y ∨ Pos (y - x)⟩
instance : LT (Zd D) := ⟨fun x y => Pos (y - x)⟩
theorem lt_def {x y : Zd D} : x < y ↔ Pos (y - x) := Iff.rfl
theorem le_def {x y : Zd D} : x ≤ y ↔ x = y ∨ Pos (y - x) := Iff.rfl
theorem sub_self' (x : Zd D) : x - x = 0 := by grind
instance : Std.IsLinearOrder (Zd D) where
  le_refl x := .inl rfl
  le_trans x y z h1 h2 := by
    rcases h1 with rfl | h1
    · exact h2
    · rcases h2 with rfl | h2
      · exact .inr h1
      · have := h1.add h2
        rw [show y - x + (z - y) = z - x by grind] at this
        exact .inr this
  le_antisymm x y h1 h2 := by
    rcases h1 with h1 | h1
    · exact h1
    · rcases h2 with h2 | h2
      · exact h2.symm
      · exfalso
        rw [show x - y = -(y - x) by grind] at h2
        exact not_both h1 h2
  le_total x y := by
    rcases tri (y - x) with z | z | z
    · exact .inl (.inl (by grind))
    · exact .inl (.inr z)
    · rw [show -(y - x) = x - y by grind] at z
      exact .inr (.inr z)
instance : Std.LawfulOrderLT (Zd D) where
  lt_iff x y := by
    constructor
    · intro h
      refine ⟨.inr h, fun z => ?_⟩
      have h : Pos (y - x) := h
      rcases z with z | z
      · rw [z, sub_self'] at h
        exact not_pos_zero h
      · rw [show x - y = -(y - x) by grind] at z
        exact not_both h z
    · rintro ⟨h1, h2⟩
      rcases h1 with h1 | h1
      · exact absurd (.inl h1.symm) h2
      · exact h1
instance : Lean.Grind.OrderedRing (Zd D) where
  add_le_left_iff {x y} z := by
    rw [le_def, le_def, show y + z - (x + z) = y - x by grind]
    constructor
    · rintro (h | h)
      · exact .inl (by rw [h])
      · exact .inr h
    · rintro (h | h)
      · exact .inl (by grind)
      · exact .inr h
  zero_lt_one := by
    refine .inl ⟨?_, ?_⟩
    · show 0 < (1 - 0 : Zd D).norm
      unfold norm
      rw [sub_re, sub_im, one_re, one_im, zero_re, zero_im]
      grind
    · show (0 : Int) < 1 - 0
      decide
  mul_lt_mul_of_pos_left {x y z} h hz := by
    have hz : Pos (z - 0) := hz
    have k := Pos.mul hz h
    rw [show (z - 0) * (y - x) = z * y - z * x by grind] at k
    exact k
  mul_lt_mul_of_pos_right {x y z} h hz := by
    have hz : Pos (z - 0) := hz
    have k := Pos.mul h hz
    rw [show (y - x) * (z - 0) = y * z - x * z by grind] at k
    exact k
theorem mul_pos {x y : Zd D} (h1 : 0 < x) (h2 : 0 < y) : 0 < x * y := by
  have := Lean.Grind.OrderedRing.mul_lt_mul_of_pos_left h2 h1
  grind
theorem mul_nonneg {x y : Zd D} (h1 : 0 ≤ x) (h2 : 0 ≤ y) : 0 ≤ x * y := by
  rcases h1 with rfl | h1
  · grind
  · rcases h2 with rfl | h2
    · grind
    · have := mul_pos (show (0 : Zd D) < x from h1) (show (0 : Zd D) < y from h2)
      grind
theorem mul_zero_or {x y : Zd D} (h : x * y = 0) : x = 0 ∨ y = 0 := by
  have e := norm_mul x y
  rw [h] at e
  have e0 : (0 : Zd D).norm = 0 := by unfold norm; rw [zero_re, zero_im]; grind
  rw [e0] at e
  rcases Int.mul_eq_zero.mp e.symm with z | z
  · obtain ⟨h1, h2⟩ := D.ok.ns _ _ z
    exact .inl (ext' h1 h2)
  · obtain ⟨h1, h2⟩ := D.ok.ns _ _ z
    exact .inr (ext' h1 h2)
theorem int_pos {n : Int} (h : 0 < n) : (0 : Zd D) < (n : Zd D) := by
  refine .inl ⟨?_, ?_⟩
  · show 0 < ((n : Zd D) - 0).norm
    unfold norm
    rw [sub_re, sub_im, int_re, int_im, zero_re, zero_im]
    have := Int.mul_pos h h
    grind
  · show 0 < n - 0
    omega
theorem int_add (m n : Int) : ((m + n : Int) : Zd D) = (m : Zd D) + (n : Zd D) := ext' rfl rfl
theorem int_sub (m n : Int) : ((m - n : Int) : Zd D) = (m : Zd D) - (n : Zd D) := ext' rfl rfl
theorem int_mul (m n : Int) : ((m * n : Int) : Zd D) = (m : Zd D) * (n : Zd D) := by
  refine ext' ?_ ?_
  · rw [mul_re, int_re, int_re, int_re, int_im, int_im]; grind
  · rw [mul_im, int_re, int_re, int_im, int_im, int_im]; grind
theorem int_neg (m : Int) : ((-m : Int) : Zd D) = -(m : Zd D) := ext' rfl rfl
theorem int_one : ((1 : Int) : Zd D) = 1 := rfl
theorem int_zero : ((0 : Int) : Zd D) = 0 := rfl
theorem int_le {m n : Int} (h : m ≤ n) : (m : Zd D) ≤ (n : Zd D) := by
  rcases Int.lt_or_eq_of_le h with z | z
  · have := int_pos (D := D) (show 0 < n - m by omega)
    rw [int_sub] at this
    grind
  · rw [z]
    grind
theorem int_lt {m n : Int} (h : m < n) : (m : Zd D) < (n : Zd D) := by
  have := int_pos (D := D) (show 0 < n - m by omega)
  rw [int_sub] at this
  grind
theorem int_inj {m n : Int} (h : (m : Zd D) = (n : Zd D)) : m = n := congrArg Zd.re h
end Zd
/-! ### each part that is told is that of the number -/
section
variable {D : Sq}
/-- the same point -/
def Pr (x v : Zd D × Zd D) : Prop := x.1 * v.2 = x.2 * v.1 ∧ (x.1 ≠ 0 ∨ x.2 ≠ 0) ∧ (v.1 ≠ 0 ∨ v.2 ≠ 0)
/-- above 1, or without bound -/
def NT (v : Zd D × Zd D) : Prop := 0 ≤ v.2 ∧ v.2 < v.1
/-- a pair of whole numbers -/
def iz (t b : Int) : Zd D × Zd D := ((t : Zd D), (b : Zd D))
/-- q is the greatest whole number that is no greater, told by the sign e of what is below -/
def Fl (e q : Int) (v : Zd D × Zd D) : Prop := (e = 1 ∨ e = -1) ∧ 0 < (e : Zd D) * v.2 ∧ (q : Zd D) * ((e : Zd D) * v.2) ≤ (e : Zd D) * v.1 ∧ (e : Zd D) * v.1 < ((q : Zd D) + 1) * ((e : Zd D) * v.2)
/-- one over what is left -/
def nx (e q : Int) (v : Zd D × Zd D) : Zd D × Zd D := ((e : Zd D) * v.2, (e : Zd D) * v.1 - (q : Zd D) * ((e : Zd D) * v.2))
theorem sgn {e : Int} (h : e = 1 ∨ e = -1) : (e : Zd D) = 1 ∨ (e : Zd D) = -1 := by
  rcases h with rfl | rfl
  · exact .inl rfl
  · exact .inr (Zd.int_neg 1)
theorem sgn_of {x : Zd D} (h : x ≠ 0) : ∃ e : Int, (e = 1 ∨ e = -1) ∧ 0 < (e : Zd D) * x := by
  rcases Zd.tri x with z | z | z
  · exact absurd z h
  · refine ⟨1, .inl rfl, ?_⟩
    show Zd.Pos ((1 : Zd D) * x - 0)
    rw [show (1 : Zd D) * x - 0 = x by grind]
    exact z
  · refine ⟨-1, .inr rfl, ?_⟩
    rw [Zd.int_neg]
    show Zd.Pos (-(1 : Zd D) * x - 0)
    rw [show -(1 : Zd D) * x - 0 = -x by grind]
    exact z
theorem cancel {x y z : Zd D} (hz : 0 < z) (h : z * x ≤ z * y) : x ≤ y := by
  rcases Std.IsLinearPreorder.le_total x y with c | c
  · exact c
  · rcases c with c | c
    · exact .inl c.symm
    · have := Zd.mul_pos hz (show (0 : Zd D) < x - y by
        show Zd.Pos (x - y - 0)
        rw [show x - y - 0 = x - y by grind]
        exact c)
      grind
theorem cancel_lt {x y z : Zd D} (hz : 0 < z) (h : z * x < z * y) : x < y := by
  have h1 := cancel hz (show z * x ≤ z * y by grind)
  rcases h1 with rfl | h1
  · exfalso
    grind
  · exact h1
theorem NT.next {e q : Int} {v : Zd D × Zd D} (h : Fl e q v) : NT (nx e q v) := by
  obtain ⟨_, h1, h2, h3⟩ := h
  refine ⟨?_, ?_⟩
  · show (0 : Zd D) ≤ (e : Zd D) * v.1 - (q : Zd D) * ((e : Zd D) * v.2)
    grind
  · show (e : Zd D) * v.1 - (q : Zd D) * ((e : Zd D) * v.2) < (e : Zd D) * v.2
    grind
theorem Pr.ne2 {x v : Zd D × Zd D} (h : Pr x v) (hx : x.2 ≠ 0) : v.2 ≠ 0 := fun z => by
  obtain ⟨h1, _, h3⟩ := h
  rw [z] at h1
  rcases Zd.mul_zero_or (show x.2 * v.1 = 0 by grind) with y | y
  · exact hx y
  · exact h3.elim (fun k => k y) fun k => k z
theorem Pr.z2 {x v : Zd D × Zd D} (h : Pr x v) (hx : x.2 = 0) : v.2 = 0 := by
  obtain ⟨h1, h2, _⟩ := h
  rw [hx] at h1
  rcases Zd.mul_zero_or (show x.1 * v.2 = 0 by grind) with y | y
  · exact h2.elim (fun k => absurd y k) fun k => absurd hx k
  · exact y
/-- the whole part of a point, and what is left, by any numbers that tell it -/
theorem Fl.of {x v : Zd D × Zd D} {e q : Int} (p : Pr x v) (f : Fl e q x) : ∃ e', Fl e' q v ∧ Pr (nx e q x) (nx e' q v) := by
  obtain ⟨he, f1, f2, f3⟩ := f
  have x2 : x.2 ≠ 0 := fun z => by
    rw [z] at f1
    have : (e : Zd D) * 0 = 0 := by grind
    rw [this] at f1
    grind
  obtain ⟨e', he', v2⟩ := sgn_of (p.ne2 x2)
  have c := p.1
  generalize hE : (e : Zd D) = E at *
  generalize hE' : (e' : Zd D) = E' at *
  have cc : (E * x.1) * (E' * v.2) = (E * x.2) * (E' * v.1) := by grind
  have k1 : (q : Zd D) * (E' * v.2) ≤ E' * v.1 := by
    refine cancel f1 ?_
    have := Zd.mul_nonneg (show (0 : Zd D) ≤ E * x.1 - (q : Zd D) * (E * x.2) by grind) (show (0 : Zd D) ≤ E' * v.2 by grind)
    grind
  have k2 : E' * v.1 < ((q : Zd D) + 1) * (E' * v.2) := by
    refine cancel_lt f1 ?_
    have := Zd.mul_pos (show (0 : Zd D) < ((q : Zd D) + 1) * (E * x.2) - E * x.1 by grind) v2
    grind
  refine ⟨e', ⟨he', by rw [hE']; exact v2, by rw [hE']; exact k1, by rw [hE']; exact k2⟩, ?_, .inl ?_, .inl ?_⟩
  · show (e : Zd D) * x.2 * ((e' : Zd D) * v.1 - (q : Zd D) * ((e' : Zd D) * v.2)) = ((e : Zd D) * x.1 - (q : Zd D) * ((e : Zd D) * x.2)) * ((e' : Zd D) * v.2)
    rw [hE, hE']
    grind
  · show (e : Zd D) * x.2 ≠ 0
    rw [hE]
    grind
  · show (e' : Zd D) * v.2 ≠ 0
    rw [hE']
    grind
theorem Pr.trans {x y z : Zd D × Zd D} (h1 : Pr x y) (h2 : Pr y z) : Pr x z := by
  obtain ⟨a1, a2, a3⟩ := h1
  obtain ⟨b1, b2, b3⟩ := h2
  refine ⟨?_, a2, b3⟩
  rcases a3 with y0 | y0
  · have : y.1 * (x.1 * z.2 - x.2 * z.1) = 0 := by grind
    rcases Zd.mul_zero_or this with k | k
    · exact absurd k y0
    · grind
  · have : y.2 * (x.1 * z.2 - x.2 * z.1) = 0 := by grind
    rcases Zd.mul_zero_or this with k | k
    · exact absurd k y0
    · grind
theorem fl_int {t b q : Int} (hb : b ≠ 0) (hq : t.fdiv b = q) : ∃ e, Fl (D := D) e q (iz t b) ∧ nx (D := D) e q (iz t b) = iz (e * b) (e * (t - q * b)) := by
  have key : ∀ e : Int, (e = 1 ∨ e = -1) → 0 < e * b → Fl (D := D) e q (iz t b) ∧ nx (D := D) e q (iz t b) = iz (e * b) (e * (t - q * b)) := fun e he hp => by
    have eq : (e * t).fdiv (e * b) = q := by
      rw [fdiv_k (by rcases he with rfl | rfl <;> decide)]
      exact hq
    obtain ⟨k1, k2⟩ := fdiv_bounds (a := e * t) hp
    rw [eq] at k1 k2
    have j1 := Zd.int_le (D := D) k1
    have j2 := Zd.int_lt (D := D) k2
    have j3 := Zd.int_pos (D := D) hp
    simp only [Zd.int_mul, Zd.int_add, Zd.int_one] at j1 j2 j3
    refine ⟨⟨he, j3, j1, j2⟩, ?_⟩
    unfold nx iz
    simp only [Zd.int_mul, Zd.int_sub]
    refine Prod.ext rfl ?_
    show (e : Zd D) * (t : Zd D) - (q : Zd D) * ((e : Zd D) * (b : Zd D)) = (e : Zd D) * ((t : Zd D) - (q : Zd D) * (b : Zd D))
    grind
  rcases Int.lt_or_gt_of_ne hb with z | z
  · exact ⟨-1, key (-1) (.inr rfl) (by omega)⟩
  · exact ⟨1, key 1 (.inl rfl) (by omega)⟩
theorem int_ne {n : Int} (h : n ≠ 0) : ((n : Int) : Zd D) ≠ 0 := fun z => h (Zd.int_inj z)
/-- whole numbers' pairs, by a sign -/
theorem pr_sign {t b e : Int} {v : Zd D × Zd D} (he : e = 1 ∨ e = -1) (h : Pr (iz (e * t) (e * b)) v) : Pr (iz t b) v := by
  obtain ⟨h1, h2, h3⟩ := h
  have h1 : ((e * t : Int) : Zd D) * v.2 = ((e * b : Int) : Zd D) * v.1 := h1
  rw [Zd.int_mul, Zd.int_mul] at h1
  have h2 : ((e * t : Int) : Zd D) ≠ 0 ∨ ((e * b : Int) : Zd D) ≠ 0 := h2
  rw [Zd.int_mul, Zd.int_mul] at h2
  refine ⟨?_, ?_, h3⟩
  · show (t : Zd D) * v.2 = (b : Zd D) * v.1
    rcases sgn (D := D) he with s | s <;> rw [s] at h1 <;> grind
  · show (t : Zd D) ≠ 0 ∨ (b : Zd D) ≠ 0
    rcases h2 with h2 | h2
    · exact .inl fun z => h2 (by rw [z]; grind)
    · exact .inr fun z => h2 (by rw [z]; grind)
/-- a fraction box's numbers: one over nought where nothing is left -/
def PrF (t b : Int) (v : Zd D × Zd D) : Prop := Pr (iz t b) v ∨ (b = 0 ∧ v.2 = 0)
/-- what a chain tells is this number -/
def CV (c : Chain) (v : Zd D × Zd D) : Prop := match c with
  | .frac t b => Pr (iz t b) v
  | .root t s b r => RootOk t s b r ∧ ∃ g : Int, 0 < g ∧ s = D.d * g * g ∧ Pr (⟨t, g⟩, (b : Zd D)) v
  | .ruled ps ring steps i => ring = [] ∧ RuledGood ps ring steps ∧ Pr (iz (fold (ps.drop i)).1 (fold (ps.drop i)).2) v
def Tru : Box → Bool → Zd D × Zd D → Prop
  | .leaf c, s, v => CV c v ∧ (s = true → NT v) ∧ (s = false → v.2 ≠ 0)
  | .fb t b told, s, v => told = s ∧ PrF t b v ∧ (s = true → NT v) ∧ (s = false → v.2 ≠ 0)
  | .fourR t b told, s, v => told = s ∧ PrF t b v ∧ (s = true → NT v) ∧ (s = false → v.2 ≠ 0)
  | .four ns st told x, s, v => told = s ∧ (∃ (a b c d : Int) (u : Zd D × Zd D), ns = [a, b, c, d] ∧ Tru x st u ∧ Pr ((a : Zd D) * u.1 + (b : Zd D) * u.2, (c : Zd D) * u.1 + (d : Zd D) * u.2) v) ∧ (s = true → NT v) ∧ (s = false → v.2 ≠ 0)
  | .eight ns i j told x y, s, v => told = s ∧ (∃ (a b c d e f g h : Int) (u w : Zd D × Zd D), ns = [a, b, c, d, e, f, g, h] ∧ Tru x (decide (0 < i)) u ∧ Tru y (decide (0 < j)) w ∧ 0 ≤ i ∧ 0 ≤ j ∧
      Pr ((a : Zd D) * u.1 * w.1 + (b : Zd D) * u.1 * w.2 + (c : Zd D) * u.2 * w.1 + (d : Zd D) * u.2 * w.2, (e : Zd D) * u.1 * w.1 + (f : Zd D) * u.1 * w.2 + (g : Zd D) * u.2 * w.1 + (h : Zd D) * u.2 * w.2) v) ∧ (s = true → NT v) ∧ (s = false → v.2 ≠ 0)
  | .eightR r, s, v => Tru r s v
theorem Tru.nt : ∀ {B : Box} {v : Zd D × Zd D}, Tru B true v → NT v
  | .leaf _, _, h => h.2.1 rfl
  | .fb _ _ _, _, h => h.2.2.1 rfl
  | .fourR _ _ _, _, h => h.2.2.1 rfl
  | .four _ _ _ _, _, h => h.2.2.1 rfl
  | .eight _ _ _ _ _ _, _, h => h.2.2.1 rfl
  | .eightR r, _, h => Tru.nt (B := r) h
theorem Tru.nz : ∀ {B : Box} {v : Zd D × Zd D}, Tru B false v → v.2 ≠ 0
  | .leaf _, _, h => h.2.2 rfl
  | .fb _ _ _, _, h => h.2.2.2 rfl
  | .fourR _ _ _, _, h => h.2.2.2 rfl
  | .four _ _ _ _, _, h => h.2.2.2 rfl
  | .eight _ _ _ _ _ _, _, h => h.2.2.2 rfl
  | .eightR r, _, h => Tru.nz (B := r) h
/-- what an asking tells of the number -/
def OutT (o : Option Ans) (B' : Box) (s : Bool) (v : Zd D × Zd D) : Prop := match o with
  | none => False
  | some .waits => Tru B' s v
  | some .fin => s = true ∧ v.2 = 0 ∧ Tru B' true v
  | some (.part q) => ∃ e, Fl e q v ∧ Tru B' true (nx e q v)
/-- a fraction's parts -/
theorem frac_out {t b : Int} {s : Bool} {v : Zd D × Zd D} (p : PrF t b v) (h0 : s = false → v.2 ≠ 0) : (b = 0 → s = true ∧ v.2 = 0) ∧ (b ≠ 0 → ∃ e, Fl e (t.fdiv b) v ∧ Pr (iz b (t - t.fdiv b * b)) (nx e (t.fdiv b) v)) := by
  refine ⟨fun hb => ?_, fun hb => ?_⟩
  · subst hb
    have z : v.2 = 0 := p.elim (fun p => p.z2 rfl) fun p => p.2
    cases s with
    | true => exact ⟨rfl, z⟩
    | false => exact absurd z (h0 rfl)
  · obtain ⟨e, f, en⟩ := fl_int (D := D) hb (show t.fdiv b = t.fdiv b from rfl)
    obtain ⟨e', f', p'⟩ := Fl.of (p.elim id fun p => absurd p.1 hb) f
    rw [en] at p'
    exact ⟨e', f', pr_sign f.1 p'⟩
theorem fold_fl {p : Int} {r : List Int} (ht : Tail r) : Fl (D := D) 1 p (iz (fold (p :: r)).1 (fold (p :: r)).2) ∧ nx (D := D) 1 p (iz (fold (p :: r)).1 (fold (p :: r)).2) = iz (fold r).1 (fold r).2 := by
  obtain ⟨f1, f2, _⟩ := fold_pos r ht.1
  have f3 : (fold r).2 < (fold r).1 := by
    cases r with
    | nil => show (0 : Int) < 1; decide
    | cons q s => exact fold_tail _ (List.cons_ne_nil _ _) ht
  show Fl (D := D) 1 p (iz (p * (fold r).1 + (fold r).2) (fold r).1) ∧ nx (D := D) 1 p (iz (p * (fold r).1 + (fold r).2) (fold r).1) = _
  generalize (fold r).1 = x at *
  generalize (fold r).2 = y at *
  have j1 := Zd.int_pos (D := D) (show 0 < x by omega)
  have j2 := Zd.int_le (D := D) f2
  have j3 := Zd.int_lt (D := D) f3
  rw [Zd.int_zero] at j2
  refine ⟨⟨.inl rfl, ?_, ?_, ?_⟩, Prod.ext ?_ ?_⟩
  · show 0 < ((1 : Int) : Zd D) * (x : Zd D)
    rw [Zd.int_one]; grind
  · show (p : Zd D) * (((1 : Int) : Zd D) * (x : Zd D)) ≤ ((1 : Int) : Zd D) * ((p * x + y : Int) : Zd D)
    rw [Zd.int_one, Zd.int_add, Zd.int_mul]; grind
  · show ((1 : Int) : Zd D) * ((p * x + y : Int) : Zd D) < ((p : Zd D) + 1) * (((1 : Int) : Zd D) * (x : Zd D))
    rw [Zd.int_one, Zd.int_add, Zd.int_mul]; grind
  · show ((1 : Int) : Zd D) * (x : Zd D) = (x : Zd D)
    rw [Zd.int_one]; grind
  · show ((1 : Int) : Zd D) * ((p * x + y : Int) : Zd D) - (p : Zd D) * (((1 : Int) : Zd D) * (x : Zd D)) = (y : Zd D)
    rw [Zd.int_one, Zd.int_add, Zd.int_mul]; grind
end
/-! ### truth: leaves, sure parts, askings -/
section
variable {D : Sq}
theorem root_between {s r g : Int} (hr : IsRoot s r) (ns : r * r ≠ s) (hg : 0 < g) (e : s = D.d * g * g) : ((r : Int) : Zd D) < ⟨0, g⟩ ∧ (⟨0, g⟩ : Zd D) < ((r + 1 : Int) : Zd D) := by
  obtain ⟨r0, r1, r2⟩ := hr
  refine ⟨.inr ⟨?_, ?_⟩, .inl ⟨?_, ?_⟩⟩
  · show (0 - r) * (0 - r) - D.d * (g - 0) * (g - 0) < 0
    have e1 : (0 - r) * (0 - r) = r * r := by grind
    have e2 : D.d * (g - 0) * (g - 0) = D.d * g * g := by grind
    omega
  · show 0 < g - 0
    omega
  · show 0 < (r + 1 - 0) * (r + 1 - 0) - D.d * (0 - g) * (0 - g)
    have e1 : (r + 1 - 0) * (r + 1 - 0) = (r + 1) * (r + 1) := by grind
    have e2 : D.d * (0 - g) * (0 - g) = D.d * g * g := by grind
    omega
  · show 0 < r + 1 - 0
    omega
theorem root_fl {t s b r g : Int} (h : RootOk t s b r) (hg : 0 < g) (e : s = D.d * g * g) : ∃ ε, Fl (D := D) ε (rootPart t b r) ((⟨t, g⟩ : Zd D), (b : Zd D)) ∧
    Pr ((⟨rootPart t b r * b - t, g⟩ : Zd D), (((s - (rootPart t b r * b - t) * (rootPart t b r * b - t)).fdiv b : Int) : Zd D)) (nx ε (rootPart t b r) ((⟨t, g⟩ : Zd D), (b : Zd D))) := by
  obtain ⟨sp, sn⟩ := root_step h rfl
  have nxt := root_next h
  obtain ⟨lo, hi⟩ := root_between (D := D) h.rt h.ns hg e
  obtain ⟨_, _, nz, ⟨q, hq⟩, _⟩ := h
  generalize rootPart t b r = a at *
  have hd : s - (a * b - t) * (a * b - t) = (q - a * (a * b - 2 * t)) * b := by
    have e : s - (a * b - t) * (a * b - t) = (s - t * t) - (a * (a * b - 2 * t)) * b := by grind
    rw [e, hq]
    grind
  have e2 : (s - (a * b - t) * (a * b - t)).fdiv b = q - a * (a * b - 2 * t) := by
    rw [hd]
    exact Int.mul_fdiv_cancel _ nz
  rw [e2] at nxt ⊢
  have cz := nxt.nz
  generalize q - a * (a * b - 2 * t) = c at *
  -- the root, as a number ρ
  obtain ⟨ρ, hρ⟩ : ∃ ρ : Zd D, ρ = ⟨0, g⟩ := ⟨_, rfl⟩
  have sq : ρ * ρ = ((s : Int) : Zd D) := by
    rw [hρ]
    refine Zd.ext' ?_ ?_
    · show 0 * 0 + D.d * g * g = s
      omega
    · show 0 * g + g * 0 = 0
      omega
  have tg : ∀ n : Int, (⟨n, g⟩ : Zd D) = (n : Zd D) + ρ := fun n => by
    rw [hρ]
    exact Zd.ext' (by rw [Zd.add_re, Zd.int_re]; show n = n + 0; omega) (by rw [Zd.add_im, Zd.int_im]; show g = 0 + g; omega)
  rw [← hρ] at lo hi
  rw [tg, tg]
  rw [Zd.int_add, Zd.int_one] at hi
  have hdZ := congrArg (fun n : Int => (n : Zd D)) hd
  simp only [Zd.int_sub, Zd.int_mul] at hdZ
  have cross : ∀ ε : Int, (ε = 1 ∨ ε = -1) → 0 < (ε : Zd D) * (b : Zd D) → Pr (((a * b - t : Int) : Zd D) + ρ, (c : Zd D)) (nx ε a ((t : Zd D) + ρ, (b : Zd D))) := fun ε hε hb => by
    refine ⟨?_, .inr (int_ne cz), .inl (fun z => ?_)⟩
    · show (((a * b - t : Int) : Zd D) + ρ) * ((ε : Zd D) * ((t : Zd D) + ρ) - (a : Zd D) * ((ε : Zd D) * (b : Zd D))) = (c : Zd D) * ((ε : Zd D) * (b : Zd D))
      rw [Zd.int_sub, Zd.int_mul]
      have : (ε : Zd D) * ((ρ + ((a : Zd D) * (b : Zd D) - (t : Zd D))) * (ρ - ((a : Zd D) * (b : Zd D) - (t : Zd D)))) = (ε : Zd D) * ((c : Zd D) * (b : Zd D)) := by
        rw [← hdZ, ← sq]
        grind
      grind
    · have z : (ε : Zd D) * (b : Zd D) = 0 := z
      rw [z] at hb
      grind
  rcases Int.lt_or_gt_of_ne nz with hb | hb
  · obtain ⟨u1, u2⟩ := sn hb
    have b0 := Zd.int_lt (D := D) hb
    have k1 := Zd.int_le (D := D) u1
    have k2 := Zd.int_le (D := D) u2
    simp only [Zd.int_add, Zd.int_sub, Zd.int_mul, Zd.int_one, Zd.int_zero] at k1 k2 b0
    have pos : 0 < ((-1 : Int) : Zd D) * (b : Zd D) := by rw [Zd.int_neg, Zd.int_one]; grind
    refine ⟨-1, ⟨.inr rfl, pos, ?_, ?_⟩, cross (-1) (.inr rfl) pos⟩
    · show (a : Zd D) * (((-1 : Int) : Zd D) * (b : Zd D)) ≤ ((-1 : Int) : Zd D) * ((t : Zd D) + ρ)
      rw [Zd.int_neg, Zd.int_one]
      grind
    · show ((-1 : Int) : Zd D) * ((t : Zd D) + ρ) < ((a : Zd D) + 1) * (((-1 : Int) : Zd D) * (b : Zd D))
      rw [Zd.int_neg, Zd.int_one]
      grind
  · obtain ⟨u1, u2⟩ := sp hb
    have b0 := Zd.int_lt (D := D) hb
    have k1 := Zd.int_le (D := D) u1
    have k2 := Zd.int_le (D := D) u2
    simp only [Zd.int_add, Zd.int_sub, Zd.int_mul, Zd.int_one, Zd.int_zero] at k1 k2 b0
    have pos : 0 < ((1 : Int) : Zd D) * (b : Zd D) := by rw [Zd.int_one]; grind
    refine ⟨1, ⟨.inl rfl, pos, ?_, ?_⟩, cross 1 (.inl rfl) pos⟩
    · show (a : Zd D) * (((1 : Int) : Zd D) * (b : Zd D)) ≤ ((1 : Int) : Zd D) * ((t : Zd D) + ρ)
      rw [Zd.int_one]
      grind
    · show ((1 : Int) : Zd D) * ((t : Zd D) + ρ) < ((a : Zd D) + 1) * (((1 : Int) : Zd D) * (b : Zd D))
      rw [Zd.int_one]
      grind
theorem tail_drop {ps : List Int} (g : RuledGood ps [] []) {i : Nat} : Tail (ps.drop (i + 1)) := by
  have one := g.one
  rw [List.append_nil] at one
  refine ⟨fun p hp => one p ?_, fun x hx => ?_⟩
  · rw [← List.drop_one]
    rw [Nat.add_comm, ← List.drop_drop] at hp
    exact List.mem_of_mem_drop hp
  · have hne : ps.drop (i + 1) ≠ [] := fun z => by rw [z] at hx; cases hx
    have hl : i + 1 < ps.length := by
      rcases Nat.lt_or_ge (i + 1) ps.length with z | z
      · exact z
      · exact absurd (List.drop_of_length_le z) hne
    have e : ps.getLast? = some x := by
      rw [← hx, List.getLast?_drop, if_neg (by omega)]
    rcases g.last rfl with z | ⟨z, h1, h2⟩
    · omega
    · rw [e] at h1
      cases h1
      exact h2
/-- a leaf's parts are true -/
theorem leaf_true {c : Chain} {s : Bool} {v : Zd D × Zd D} (h : CV c v) (h0 : s = false → v.2 ≠ 0) : (c.ended = true → s = true ∧ v.2 = 0) ∧ (c.ended = false → ∃ e, Fl e c.part v ∧ CV c.next (nx e c.part v)) := by
  cases c with
  | frac t b =>
    obtain ⟨h1, h2⟩ := frac_out (.inl h) h0
    refine ⟨fun z => h1 (of_decide_eq_true z), fun z => ?_⟩
    obtain ⟨e, f, p⟩ := h2 (of_decide_eq_false z)
    refine ⟨e, f, ?_⟩
    rw [fmod_eq] at p
    exact p
  | root t sq b r =>
    obtain ⟨ok, g, hg, eg, p⟩ := h
    refine ⟨fun z => (by cases z), fun _ => ?_⟩
    obtain ⟨e, f, p1⟩ := root_fl ok hg eg
    obtain ⟨e', f', p2⟩ := Fl.of p f
    exact ⟨e', f', root_next ok, g, hg, eg, p1.trans p2⟩
  | ruled ps ring steps i =>
    obtain ⟨rfl, g, p⟩ := h
    refine ⟨fun z => ?_, fun z => ?_⟩
    · have hl : ps.length ≤ i := by
        have z : (decide (([] : List Int) = []) && decide (ps.length ≤ i)) = true := z
        rw [Bool.and_eq_true] at z
        exact of_decide_eq_true z.2
      rw [List.drop_of_length_le hl] at p
      have k := p.z2 rfl
      cases s with
      | true => exact ⟨rfl, k⟩
      | false => exact absurd k (h0 rfl)
    · have hl : i < ps.length := by
        rcases Nat.lt_or_ge i ps.length with y | y
        · exact y
        · have z : (decide (([] : List Int) = []) && decide (ps.length ≤ i)) = false := z
          rw [decide_eq_true rfl, decide_eq_true y] at z
          cases z
      have ep : Chain.part (.ruled ps [] steps i) = ps[i] := by
        show ruledAt ps [] steps i = _
        unfold ruledAt
        rw [if_pos hl, List.getD_eq_getElem?_getD, List.getElem?_eq_getElem hl, Option.getD_some]
      rw [List.drop_eq_getElem_cons hl] at p
      obtain rfl : steps = [] := List.length_eq_zero_iff.mp g.same
      have gg : RuledGood ps [] [] := g
      obtain ⟨f, en⟩ := fold_fl (D := D) (p := ps[i]) (tail_drop gg (i := i))
      obtain ⟨e', f', p'⟩ := Fl.of p f
      rw [en] at p'
      rw [ep]
      exact ⟨e', f', rfl, g, p'⟩
theorem four_sureZ {a b c d q : Int} {u : Zd D × Zd D} (hs : surePart (fourCorners [a, b, c, d]) = some q) (hu : NT u) : ∃ e, Fl e q ((a : Zd D) * u.1 + (b : Zd D) * u.2, (c : Zd D) * u.1 + (d : Zd D) * u.2) := by
  obtain ⟨e, he, h1, h2, h3, h4, h5, h6, _⟩ := four_sure hs (u := (1, 0)) ⟨by decide, by decide, by decide⟩
  obtain ⟨u0, u1⟩ := hu
  have j1 := Zd.int_lt (D := D) h1
  have j2 := Zd.int_lt (D := D) h2
  have j3 := Zd.int_le (D := D) h3
  have j4 := Zd.int_lt (D := D) h4
  have j5 := Zd.int_le (D := D) h5
  have j6 := Zd.int_le (D := D) h6
  simp only [Zd.int_mul, Zd.int_add, Zd.int_one, Zd.int_zero] at j1 j2 j3 j4 j5 j6
  have w0 : (0 : Zd D) < u.1 - u.2 := by grind
  refine ⟨e, he, ?_, ?_, ?_⟩
  · show 0 < (e : Zd D) * ((c : Zd D) * u.1 + (d : Zd D) * u.2)
    have k1 := Zd.mul_pos j1 w0
    have k2 := Zd.mul_nonneg (show (0 : Zd D) ≤ (e : Zd D) * ((c : Zd D) + (d : Zd D)) by grind) u0
    grind
  · show (q : Zd D) * ((e : Zd D) * ((c : Zd D) * u.1 + (d : Zd D) * u.2)) ≤ (e : Zd D) * ((a : Zd D) * u.1 + (b : Zd D) * u.2)
    have k1 := Zd.mul_nonneg (show (0 : Zd D) ≤ (e : Zd D) * (a : Zd D) - (q : Zd D) * ((e : Zd D) * (c : Zd D)) by grind) (show (0 : Zd D) ≤ u.1 - u.2 by grind)
    have k2 := Zd.mul_nonneg (show (0 : Zd D) ≤ (e : Zd D) * ((a : Zd D) + (b : Zd D)) - (q : Zd D) * ((e : Zd D) * ((c : Zd D) + (d : Zd D))) by grind) u0
    grind
  · show (e : Zd D) * ((a : Zd D) * u.1 + (b : Zd D) * u.2) < ((q : Zd D) + 1) * ((e : Zd D) * ((c : Zd D) * u.1 + (d : Zd D) * u.2))
    have k1 := Zd.mul_pos (show (0 : Zd D) < ((q : Zd D) + 1) * ((e : Zd D) * (c : Zd D)) - (e : Zd D) * (a : Zd D) by grind) w0
    have k2 := Zd.mul_nonneg (show (0 : Zd D) ≤ ((q : Zd D) + 1) * ((e : Zd D) * ((c : Zd D) + (d : Zd D))) - (e : Zd D) * ((a : Zd D) + (b : Zd D)) by grind) u0
    grind
theorem eight_sureZ {a b c d e f g h q : Int} {u w : Zd D × Zd D} (hs : surePart (eightCorners [a, b, c, d, e, f, g, h]) = some q) (hu : NT u) (hw : NT w) :
    ∃ k, Fl k q ((a : Zd D) * u.1 * w.1 + (b : Zd D) * u.1 * w.2 + (c : Zd D) * u.2 * w.1 + (d : Zd D) * u.2 * w.2, (e : Zd D) * u.1 * w.1 + (f : Zd D) * u.1 * w.2 + (g : Zd D) * u.2 * w.1 + (h : Zd D) * u.2 * w.2) := by
  obtain ⟨k, hk, ⟨p1, p2, p3⟩, ⟨q1, q2, q3⟩, ⟨r1, r2, r3⟩, ⟨s1, s2, s3⟩, _⟩ := eight_sure hs (u := (1, 0)) (y := (1, 0)) ⟨by decide, by decide, by decide⟩ ⟨by decide, by decide, by decide⟩
  obtain ⟨u0, u1⟩ := hu
  obtain ⟨y0, y1⟩ := hw
  have A1 := Zd.int_lt (D := D) p1
  have A2 := Zd.int_le (D := D) p2
  have A3 := Zd.int_lt (D := D) p3
  have B1 := Zd.int_lt (D := D) q1
  have B2 := Zd.int_le (D := D) q2
  have B3 := Zd.int_le (D := D) q3
  have C1 := Zd.int_lt (D := D) r1
  have C2 := Zd.int_le (D := D) r2
  have C3 := Zd.int_le (D := D) r3
  have E1 := Zd.int_lt (D := D) s1
  have E2 := Zd.int_le (D := D) s2
  have E3 := Zd.int_le (D := D) s3
  simp only [Zd.int_mul, Zd.int_add, Zd.int_one, Zd.int_zero] at A1 A2 A3 B1 B2 B3 C1 C2 C3 E1 E2 E3
  have W0 := Zd.mul_pos (show (0 : Zd D) < u.1 - u.2 by grind) (show (0 : Zd D) < w.1 - w.2 by grind)
  have W1 := Zd.mul_nonneg (show (0 : Zd D) ≤ u.1 - u.2 by grind) y0
  have W2 := Zd.mul_nonneg u0 (show (0 : Zd D) ≤ w.1 - w.2 by grind)
  have W3 := Zd.mul_nonneg u0 y0
  obtain ⟨x0, hx0⟩ : ∃ x, x = (u.1 - u.2) * (w.1 - w.2) := ⟨_, rfl⟩
  obtain ⟨x1, hx1⟩ : ∃ x, x = (u.1 - u.2) * w.2 := ⟨_, rfl⟩
  obtain ⟨x2, hx2⟩ : ∃ x, x = u.2 * (w.1 - w.2) := ⟨_, rfl⟩
  obtain ⟨x3, hx3⟩ : ∃ x, x = u.2 * w.2 := ⟨_, rfl⟩
  have split : ∀ a b c d : Zd D, a * u.1 * w.1 + b * u.1 * w.2 + c * u.2 * w.1 + d * u.2 * w.2 = a * x0 + (a + b) * x1 + (a + c) * x2 + (a + b + c + d) * x3 := fun a b c d => by
    rw [hx0, hx1, hx2, hx3]
    grind
  rw [← hx0] at W0
  rw [← hx1] at W1
  rw [← hx2] at W2
  rw [← hx3] at W3
  rw [split, split]
  clear hx0 hx1 hx2 hx3 split
  refine ⟨k, hk, ?_, ?_, ?_⟩
  · show 0 < (k : Zd D) * ((e : Zd D) * x0 + ((e : Zd D) + (f : Zd D)) * x1 + ((e : Zd D) + (g : Zd D)) * x2 + ((e : Zd D) + (f : Zd D) + (g : Zd D) + (h : Zd D)) * x3)
    have k0 := Zd.mul_pos A1 W0
    have k1 := Zd.mul_nonneg (show (0 : Zd D) ≤ (k : Zd D) * ((e : Zd D) + (f : Zd D)) by grind) W1
    have k2 := Zd.mul_nonneg (show (0 : Zd D) ≤ (k : Zd D) * ((e : Zd D) + (g : Zd D)) by grind) W2
    have k3 := Zd.mul_nonneg (show (0 : Zd D) ≤ (k : Zd D) * ((e : Zd D) + (f : Zd D) + (g : Zd D) + (h : Zd D)) by grind) W3
    grind
  · show (q : Zd D) * ((k : Zd D) * ((e : Zd D) * x0 + ((e : Zd D) + (f : Zd D)) * x1 + ((e : Zd D) + (g : Zd D)) * x2 + ((e : Zd D) + (f : Zd D) + (g : Zd D) + (h : Zd D)) * x3)) ≤ (k : Zd D) * ((a : Zd D) * x0 + ((a : Zd D) + (b : Zd D)) * x1 + ((a : Zd D) + (c : Zd D)) * x2 + ((a : Zd D) + (b : Zd D) + (c : Zd D) + (d : Zd D)) * x3)
    have k0 := Zd.mul_nonneg (show (0 : Zd D) ≤ (k : Zd D) * (a : Zd D) - (q : Zd D) * ((k : Zd D) * (e : Zd D)) by grind) (show (0 : Zd D) ≤ x0 by grind)
    have k1 := Zd.mul_nonneg (show (0 : Zd D) ≤ (k : Zd D) * ((a : Zd D) + (b : Zd D)) - (q : Zd D) * ((k : Zd D) * ((e : Zd D) + (f : Zd D))) by grind) W1
    have k2 := Zd.mul_nonneg (show (0 : Zd D) ≤ (k : Zd D) * ((a : Zd D) + (c : Zd D)) - (q : Zd D) * ((k : Zd D) * ((e : Zd D) + (g : Zd D))) by grind) W2
    have k3 := Zd.mul_nonneg (show (0 : Zd D) ≤ (k : Zd D) * ((a : Zd D) + (b : Zd D) + (c : Zd D) + (d : Zd D)) - (q : Zd D) * ((k : Zd D) * ((e : Zd D) + (f : Zd D) + (g : Zd D) + (h : Zd D))) by grind) W3
    grind
  · show (k : Zd D) * ((a : Zd D) * x0 + ((a : Zd D) + (b : Zd D)) * x1 + ((a : Zd D) + (c : Zd D)) * x2 + ((a : Zd D) + (b : Zd D) + (c : Zd D) + (d : Zd D)) * x3) < ((q : Zd D) + 1) * ((k : Zd D) * ((e : Zd D) * x0 + ((e : Zd D) + (f : Zd D)) * x1 + ((e : Zd D) + (g : Zd D)) * x2 + ((e : Zd D) + (f : Zd D) + (g : Zd D) + (h : Zd D)) * x3))
    have k0 := Zd.mul_pos (show (0 : Zd D) < ((q : Zd D) + 1) * ((k : Zd D) * (e : Zd D)) - (k : Zd D) * (a : Zd D) by grind) W0
    have k1 := Zd.mul_nonneg (show (0 : Zd D) ≤ ((q : Zd D) + 1) * ((k : Zd D) * ((e : Zd D) + (f : Zd D))) - (k : Zd D) * ((a : Zd D) + (b : Zd D)) by grind) W1
    have k2 := Zd.mul_nonneg (show (0 : Zd D) ≤ ((q : Zd D) + 1) * ((k : Zd D) * ((e : Zd D) + (g : Zd D))) - (k : Zd D) * ((a : Zd D) + (c : Zd D)) by grind) W2
    have k3 := Zd.mul_nonneg (show (0 : Zd D) ≤ ((q : Zd D) + 1) * ((k : Zd D) * ((e : Zd D) + (f : Zd D) + (g : Zd D) + (h : Zd D))) - (k : Zd D) * ((a : Zd D) + (b : Zd D) + (c : Zd D) + (d : Zd D)) by grind) W3
    grind
end
/-! ### truth of all askings -/
section
variable {D : Sq}
theorem prW {x y v : Zd D × Zd D} (h : Pr x v) (e1 : y.1 = x.1) (e2 : y.2 = x.2) : Pr y v := by
  obtain ⟨a, b, c⟩ := h
  exact ⟨by rw [e1, e2]; exact a, by rw [e1, e2]; exact b, c⟩
/-- the same point, by a sign -/
theorem prE {x y v : Zd D × Zd D} {e : Int} (he : e = 1 ∨ e = -1) (h : Pr x v) (e1 : y.1 = (e : Zd D) * x.1) (e2 : y.2 = (e : Zd D) * x.2) : Pr y v := by
  obtain ⟨a, b, c⟩ := h
  rcases sgn (D := D) he with s | s
  · exact prW ⟨a, b, c⟩ (by rw [e1, s]; grind) (by rw [e2, s]; grind)
  · rw [s] at e1 e2
    refine ⟨by rw [e1, e2]; grind, ?_, c⟩
    rcases b with b | b
    · exact .inl fun z => b (by rw [e1] at z; grind)
    · exact .inr fun z => b (by rw [e2] at z; grind)
theorem one_tru {a b e f : Int} {s : Bool} {y : Box} {w v : Zd D × Zd D} (hy : Tru y true w) (p : Pr ((a : Zd D) * w.1 + (b : Zd D) * w.2, (e : Zd D) * w.1 + (f : Zd D) * w.2) v) (h1 : s = true → NT v) (h0 : s = false → v.2 ≠ 0) : Tru (oneBox [a, b, e, f] s y) s v := by
  show Tru (if a * f ≠ b * e then .four [a, b, e, f] true s y else if e ≠ 0 then .fb a e s else .fb b f s) s v
  by_cases hd : a * f ≠ b * e
  · rw [if_pos hd]
    exact ⟨rfl, ⟨a, b, e, f, w, rfl, hy, p⟩, h1, h0⟩
  · rw [if_neg hd]
    have hd : a * f = b * e := Classical.not_not.mp hd
    have hdZ := congrArg (fun n : Int => (n : Zd D)) hd
    simp only [Zd.int_mul] at hdZ
    obtain ⟨p1, p2, p3⟩ := id p
    have p1 : ((a : Zd D) * w.1 + (b : Zd D) * w.2) * v.2 = ((e : Zd D) * w.1 + (f : Zd D) * w.2) * v.1 := p1
    by_cases he : e ≠ 0
    · rw [if_pos he]
      have eZ := int_ne (D := D) he
      refine ⟨rfl, .inl ?_, h1, h0⟩
      refine Pr.trans (y := ((a : Zd D) * w.1 + (b : Zd D) * w.2, (e : Zd D) * w.1 + (f : Zd D) * w.2)) ⟨?_, .inr eZ, p2⟩ p
      show (a : Zd D) * ((e : Zd D) * w.1 + (f : Zd D) * w.2) = (e : Zd D) * ((a : Zd D) * w.1 + (b : Zd D) * w.2)
      grind
    · rw [if_neg he]
      have he : e = 0 := Classical.not_not.mp he
      subst he
      rw [Int.mul_zero] at hd
      rw [Zd.int_zero] at p1 p2 p hdZ
      by_cases hf : f = 0
      · refine ⟨rfl, .inr ⟨hf, p.z2 ?_⟩, h1, h0⟩
        show (0 : Zd D) * w.1 + (f : Zd D) * w.2 = 0
        rw [hf, Zd.int_zero]
        grind
      · refine ⟨rfl, .inl ?_, h1, h0⟩
        refine Pr.trans (y := ((a : Zd D) * w.1 + (b : Zd D) * w.2, (0 : Zd D) * w.1 + (f : Zd D) * w.2)) ⟨?_, .inr (int_ne hf), p2⟩ p
        show (b : Zd D) * ((0 : Zd D) * w.1 + (f : Zd D) * w.2) = (f : Zd D) * ((a : Zd D) * w.1 + (b : Zd D) * w.2)
        grind
theorem fb_out {t b : Int} {told s : Bool} {v : Zd D × Zd D} {r : Option Ans × Int × Int × Bool} (e : fbAsk t b told = some r) (ht : told = s) (p : PrF t b v) (h1 : s = true → NT v) (h0 : s = false → v.2 ≠ 0) :
    (match r.1 with | none => False | some .waits => False | some .fin => s = true ∧ v.2 = 0 ∧ r.2.2.2 = true ∧ PrF r.2.1 r.2.2.1 v | some (.part q) => ∃ e, Fl e q v ∧ r.2.2.2 = true ∧ PrF r.2.1 r.2.2.1 (nx e q v)) := by
  subst ht
  obtain ⟨o1, o2⟩ := frac_out p h0
  unfold fbAsk at e
  split at e
  · by_cases hb : b = 0
    · rw [if_pos hb] at e
      obtain ⟨k1, k2⟩ := o1 hb
      rw [if_pos k1] at e
      cases e
      exact ⟨k1, k2, k1, p⟩
    · rw [if_neg hb] at e
      cases e
      obtain ⟨ε, f, p'⟩ := o2 hb
      exact ⟨ε, f, rfl, .inl p'⟩
  · cases e
/-- whatever is told is true -/
theorem tru_asks {B B' : Box} {l l' : Int} {o : Option Ans} (h : Asks B l o B' l') : ∀ (s : Bool) (v : Zd D × Zd D), Tru B s v → OutT o B' s v := by
  induction h with
  | @leaf c l =>
    rintro s v ⟨h, h1, h0⟩
    obtain ⟨k1, k2⟩ := leaf_true h h0
    rcases c.leaf_cases l with ⟨he, e1, e2, e3⟩ | ⟨he, hl, e1, e2, e3⟩ | ⟨he, hl, e1, e2, e3⟩
    · rw [e1, e2]
      obtain ⟨s1, v2⟩ := k1 he
      exact ⟨s1, v2, h, fun _ => h1 s1, fun z => (by cases z)⟩
    · rw [e1, e2]
      exact ⟨h, h1, h0⟩
    · rw [e1, e2]
      obtain ⟨e, f, cv⟩ := k2 he
      exact ⟨e, f, cv, fun _ => NT.next f, fun z => (by cases z)⟩
  | @fb t b told l r e =>
    rintro s v ⟨ht, p, h1, h0⟩
    have z := fb_out e ht p h1 h0
    obtain ⟨o, t', b', told'⟩ := r
    match o, z with
    | some .fin, ⟨s1, v2, t1, p'⟩ => exact ⟨s1, v2, t1, p', fun _ => h1 s1, fun z => (by cases z)⟩
    | some (.part q), ⟨e, f, t1, p'⟩ => exact ⟨e, f, t1, p', fun _ => NT.next f, fun z => (by cases z)⟩
  | @fourR t b told l r e =>
    rintro s v ⟨ht, p, h1, h0⟩
    have z := fb_out e ht p h1 h0
    obtain ⟨o, t', b', told'⟩ := r
    match o, z with
    | some .fin, ⟨s1, v2, t1, p'⟩ => exact ⟨s1, v2, t1, p', fun _ => h1 s1, fun z => (by cases z)⟩
    | some (.part q), ⟨e, f, t1, p'⟩ => exact ⟨e, f, t1, p', fun _ => NT.next f, fun z => (by cases z)⟩
  | @tell4 ns st told x l q hf hs =>
    rintro s v ⟨ht, ⟨a, b, c, d, u, rfl, hx, p⟩, h1, h0⟩
    cases st with
    | false => cases hs
    | true =>
      obtain ⟨e, f⟩ := four_sureZ (D := D) hs hx.nt
      obtain ⟨e', f', p'⟩ := Fl.of p f
      refine ⟨e', f', rfl, ⟨c, d, a - q * c, b - q * d, u, turned4 .., hx, ?_⟩, fun _ => NT.next f', fun z => (by cases z)⟩
      have z := prE (y := ((c : Zd D) * u.1 + (d : Zd D) * u.2, ((a - q * c : Int) : Zd D) * u.1 + ((b - q * d : Int) : Zd D) * u.2)) f.1 p' (by
        show (c : Zd D) * u.1 + (d : Zd D) * u.2 = (e : Zd D) * ((e : Zd D) * ((c : Zd D) * u.1 + (d : Zd D) * u.2))
        rcases sgn (D := D) f.1 with s | s <;> rw [s] <;> grind) (by
        show ((a - q * c : Int) : Zd D) * u.1 + ((b - q * d : Int) : Zd D) * u.2 = (e : Zd D) * ((e : Zd D) * ((a : Zd D) * u.1 + (b : Zd D) * u.2) - (q : Zd D) * ((e : Zd D) * ((c : Zd D) * u.1 + (d : Zd D) * u.2)))
        simp only [Zd.int_sub, Zd.int_mul]
        rcases sgn (D := D) f.1 with s | s <;> rw [s] <;> grind)
      exact z
  | none4 hf hs hx ih =>
    rintro s v ⟨ht, ⟨a, b, c, d, u, rfl, tx, p⟩, h1, h0⟩
    exact ih _ u tx
  | wait4 hf hs hx ih =>
    rintro s v ⟨ht, ⟨a, b, c, d, u, rfl, tx, p⟩, h1, h0⟩
    exact ⟨ht, ⟨a, b, c, d, u, rfl, ih _ u tx, p⟩, h1, h0⟩
  | @fin4 ns st told x x' l l1 o B' l' hf hs hx hr ih1 ih2 =>
    rintro s v ⟨ht, ⟨a, b, c, d, u, rfl, tx, p⟩, h1, h0⟩
    obtain ⟨s1, u2, tx'⟩ := ih1 _ u tx
    refine ih2 s v ⟨ht, .inl ?_, h1, h0⟩
    have nt := tx'.nt
    have u1 : u.1 ≠ 0 := fun z => by
      have := nt.2
      rw [z, u2] at this
      grind
    show Pr (iz a c) v
    refine Pr.trans (y := ((a : Zd D) * u.1 + (b : Zd D) * u.2, (c : Zd D) * u.1 + (d : Zd D) * u.2)) ⟨?_, ?_, p.2.1⟩ p
    · show (a : Zd D) * ((c : Zd D) * u.1 + (d : Zd D) * u.2) = (c : Zd D) * ((a : Zd D) * u.1 + (b : Zd D) * u.2)
      rw [u2]
      grind
    · show (a : Zd D) ≠ 0 ∨ (c : Zd D) ≠ 0
      rcases p.2.1 with k | k
      · exact .inl fun z => k (by show (a : Zd D) * u.1 + (b : Zd D) * u.2 = 0; rw [z, u2]; grind)
      · exact .inr fun z => k (by show (c : Zd D) * u.1 + (d : Zd D) * u.2 = 0; rw [z, u2]; grind)
  | @part4 ns st told x x' l l1 q o B' l' hf hs hx hq hr ih1 ih2 =>
    rintro s v ⟨ht, ⟨a, b, c, d, u, rfl, tx, p⟩, h1, h0⟩
    obtain ⟨e, f, tx'⟩ := ih1 _ u tx
    refine ih2 s v ⟨ht, ⟨a * q + b, a, c * q + d, c, nx e q u, rfl, tx', ?_⟩, h1, h0⟩
    refine prE f.1 p ?_ ?_
    · show ((a * q + b : Int) : Zd D) * ((e : Zd D) * u.2) + (a : Zd D) * ((e : Zd D) * u.1 - (q : Zd D) * ((e : Zd D) * u.2)) = (e : Zd D) * ((a : Zd D) * u.1 + (b : Zd D) * u.2)
      simp only [Zd.int_add, Zd.int_mul]
      grind
    · show ((c * q + d : Int) : Zd D) * ((e : Zd D) * u.2) + (c : Zd D) * ((e : Zd D) * u.1 - (q : Zd D) * ((e : Zd D) * u.2)) = (e : Zd D) * ((c : Zd D) * u.1 + (d : Zd D) * u.2)
      simp only [Zd.int_add, Zd.int_mul]
      grind
  | @tell8 ns i j told x y l q hf hs =>
    rintro s v ⟨ht, ⟨a, b, c, d, e, f, g, h, u, w, rfl, hx, hy, i0, j0, p⟩, h1, h0⟩
    by_cases hij : 0 < i ∧ 0 < j
    · have hs' : surePart (eightCorners [a, b, c, d, e, f, g, h]) = some q := by
        rw [← hs]
        exact (if_pos hij).symm
      have hx' := hx
      have hy' := hy
      rw [decide_eq_true hij.1] at hx'
      rw [decide_eq_true hij.2] at hy'
      obtain ⟨k, fl⟩ := eight_sureZ (D := D) hs' hx'.nt hy'.nt
      obtain ⟨k', fl', p'⟩ := Fl.of p fl
      refine ⟨k', fl', rfl, ⟨e, f, g, h, a - q * e, b - q * f, c - q * g, d - q * h, u, w, turned8 .., hx, hy, i0, j0, ?_⟩, fun _ => NT.next fl', fun z => (by cases z)⟩
      refine prE fl.1 p' ?_ ?_
      · show (e : Zd D) * u.1 * w.1 + (f : Zd D) * u.1 * w.2 + (g : Zd D) * u.2 * w.1 + (h : Zd D) * u.2 * w.2 = (k : Zd D) * ((k : Zd D) * ((e : Zd D) * u.1 * w.1 + (f : Zd D) * u.1 * w.2 + (g : Zd D) * u.2 * w.1 + (h : Zd D) * u.2 * w.2))
        rcases sgn (D := D) fl.1 with s | s <;> rw [s] <;> grind
      · show ((a - q * e : Int) : Zd D) * u.1 * w.1 + ((b - q * f : Int) : Zd D) * u.1 * w.2 + ((c - q * g : Int) : Zd D) * u.2 * w.1 + ((d - q * h : Int) : Zd D) * u.2 * w.2 = (k : Zd D) * ((k : Zd D) * ((a : Zd D) * u.1 * w.1 + (b : Zd D) * u.1 * w.2 + (c : Zd D) * u.2 * w.1 + (d : Zd D) * u.2 * w.2) - (q : Zd D) * ((k : Zd D) * ((e : Zd D) * u.1 * w.1 + (f : Zd D) * u.1 * w.2 + (g : Zd D) * u.2 * w.1 + (h : Zd D) * u.2 * w.2)))
        simp only [Zd.int_sub, Zd.int_mul]
        rcases sgn (D := D) fl.1 with s | s <;> rw [s] <;> grind
    · rw [show sureE [a, b, c, d, e, f, g, h] i j = none from if_neg hij] at hs
      cases hs
  | none0 hf hs hle hx ih =>
    rintro s v ⟨ht, ⟨a, b, c, d, e, f, g, h, u, w, rfl, tx, ty, i0, j0, p⟩, h1, h0⟩
    exact ih _ u tx
  | wait0 hf hs hle hx ih =>
    rintro s v ⟨ht, ⟨a, b, c, d, e, f, g, h, u, w, rfl, tx, ty, i0, j0, p⟩, h1, h0⟩
    exact ⟨ht, ⟨a, b, c, d, e, f, g, h, u, w, rfl, ih _ u tx, ty, i0, j0, p⟩, h1, h0⟩
  | @fin0 ns i j told x y x' l l1 o B' l' hf hs hle hx hr ih1 ih2 =>
    rintro s v ⟨ht, ⟨a, b, c, d, e, f, g, h, u, w, rfl, tx, ty, i0, j0, p⟩, h1, h0⟩
    obtain ⟨s1, u2, tx'⟩ := ih1 _ u tx
    have i1 : 0 < i := of_decide_eq_true s1
    rw [decide_eq_true (show 0 < j by omega)] at ty
    have u1 : u.1 ≠ 0 := fun z => by
      have := tx'.nt.2
      rw [z, u2] at this
      grind
    subst ht
    refine ih2 told v (one_tru (a := a) (b := b) (e := e) (f := f) ty ?_ h1 h0)
    refine Pr.trans (y := (_, _)) ⟨?_, ?_, p.2.1⟩ p
    · show ((a : Zd D) * w.1 + (b : Zd D) * w.2) * ((e : Zd D) * u.1 * w.1 + (f : Zd D) * u.1 * w.2 + (g : Zd D) * u.2 * w.1 + (h : Zd D) * u.2 * w.2) = ((e : Zd D) * w.1 + (f : Zd D) * w.2) * ((a : Zd D) * u.1 * w.1 + (b : Zd D) * u.1 * w.2 + (c : Zd D) * u.2 * w.1 + (d : Zd D) * u.2 * w.2)
      rw [u2]
      grind
    · rcases p.2.1 with k | k
      · exact .inl fun z => k (by
          have z : (a : Zd D) * w.1 + (b : Zd D) * w.2 = 0 := z
          show (a : Zd D) * u.1 * w.1 + (b : Zd D) * u.1 * w.2 + (c : Zd D) * u.2 * w.1 + (d : Zd D) * u.2 * w.2 = 0
          rw [u2]
          grind)
      · exact .inr fun z => k (by
          have z : (e : Zd D) * w.1 + (f : Zd D) * w.2 = 0 := z
          show (e : Zd D) * u.1 * w.1 + (f : Zd D) * u.1 * w.2 + (g : Zd D) * u.2 * w.1 + (h : Zd D) * u.2 * w.2 = 0
          rw [u2]
          grind)
  | @part0 ns i j told x y x' l l1 q o B' l' hf hs hle hx hq hr ih1 ih2 =>
    rintro s v ⟨ht, ⟨a, b, c, d, e, f, g, h, u, w, rfl, tx, ty, i0, j0, p⟩, h1, h0⟩
    obtain ⟨k, fl, tx'⟩ := ih1 _ u tx
    refine ih2 s v ⟨ht, ⟨a * q + c, b * q + d, a, b, e * q + g, f * q + h, e, f, nx k q u, w, rfl, ?_, ty, by omega, j0, ?_⟩, h1, h0⟩
    · rw [decide_eq_true (show 0 < i + 1 by omega)]
      exact tx'
    · refine prE fl.1 p ?_ ?_
      · show ((a * q + c : Int) : Zd D) * ((k : Zd D) * u.2) * w.1 + ((b * q + d : Int) : Zd D) * ((k : Zd D) * u.2) * w.2 + (a : Zd D) * ((k : Zd D) * u.1 - (q : Zd D) * ((k : Zd D) * u.2)) * w.1 + (b : Zd D) * ((k : Zd D) * u.1 - (q : Zd D) * ((k : Zd D) * u.2)) * w.2 = (k : Zd D) * ((a : Zd D) * u.1 * w.1 + (b : Zd D) * u.1 * w.2 + (c : Zd D) * u.2 * w.1 + (d : Zd D) * u.2 * w.2)
        simp only [Zd.int_add, Zd.int_mul]
        grind
      · show ((e * q + g : Int) : Zd D) * ((k : Zd D) * u.2) * w.1 + ((f * q + h : Int) : Zd D) * ((k : Zd D) * u.2) * w.2 + (e : Zd D) * ((k : Zd D) * u.1 - (q : Zd D) * ((k : Zd D) * u.2)) * w.1 + (f : Zd D) * ((k : Zd D) * u.1 - (q : Zd D) * ((k : Zd D) * u.2)) * w.2 = (k : Zd D) * ((e : Zd D) * u.1 * w.1 + (f : Zd D) * u.1 * w.2 + (g : Zd D) * u.2 * w.1 + (h : Zd D) * u.2 * w.2)
        simp only [Zd.int_add, Zd.int_mul]
        grind
  | none1 hf hs hle hx ih =>
    rintro s v ⟨ht, ⟨a, b, c, d, e, f, g, h, u, w, rfl, tx, ty, i0, j0, p⟩, h1, h0⟩
    exact ih _ w ty
  | wait1 hf hs hle hx ih =>
    rintro s v ⟨ht, ⟨a, b, c, d, e, f, g, h, u, w, rfl, tx, ty, i0, j0, p⟩, h1, h0⟩
    exact ⟨ht, ⟨a, b, c, d, e, f, g, h, u, w, rfl, tx, ih _ w ty, i0, j0, p⟩, h1, h0⟩
  | @fin1 ns i j told x y y' l l1 o B' l' hf hs hle hx hr ih1 ih2 =>
    rintro s v ⟨ht, ⟨a, b, c, d, e, f, g, h, u, w, rfl, tx, ty, i0, j0, p⟩, h1, h0⟩
    obtain ⟨s1, w2, ty'⟩ := ih1 _ w ty
    have j1 : 0 < j := of_decide_eq_true s1
    rw [decide_eq_true (show 0 < i by omega)] at tx
    have w1 : w.1 ≠ 0 := fun z => by
      have := ty'.nt.2
      rw [z, w2] at this
      grind
    subst ht
    refine ih2 told v (one_tru (a := a) (b := c) (e := e) (f := g) tx ?_ h1 h0)
    refine Pr.trans (y := (_, _)) ⟨?_, ?_, p.2.1⟩ p
    · show ((a : Zd D) * u.1 + (c : Zd D) * u.2) * ((e : Zd D) * u.1 * w.1 + (f : Zd D) * u.1 * w.2 + (g : Zd D) * u.2 * w.1 + (h : Zd D) * u.2 * w.2) = ((e : Zd D) * u.1 + (g : Zd D) * u.2) * ((a : Zd D) * u.1 * w.1 + (b : Zd D) * u.1 * w.2 + (c : Zd D) * u.2 * w.1 + (d : Zd D) * u.2 * w.2)
      rw [w2]
      grind
    · rcases p.2.1 with k | k
      · exact .inl fun z => k (by
          have z : (a : Zd D) * u.1 + (c : Zd D) * u.2 = 0 := z
          show (a : Zd D) * u.1 * w.1 + (b : Zd D) * u.1 * w.2 + (c : Zd D) * u.2 * w.1 + (d : Zd D) * u.2 * w.2 = 0
          rw [w2]
          grind)
      · exact .inr fun z => k (by
          have z : (e : Zd D) * u.1 + (g : Zd D) * u.2 = 0 := z
          show (e : Zd D) * u.1 * w.1 + (f : Zd D) * u.1 * w.2 + (g : Zd D) * u.2 * w.1 + (h : Zd D) * u.2 * w.2 = 0
          rw [w2]
          grind)
  | @part1 ns i j told x y y' l l1 q o B' l' hf hs hle hx hq hr ih1 ih2 =>
    rintro s v ⟨ht, ⟨a, b, c, d, e, f, g, h, u, w, rfl, tx, ty, i0, j0, p⟩, h1, h0⟩
    obtain ⟨k, fl, ty'⟩ := ih1 _ w ty
    refine ih2 s v ⟨ht, ⟨a * q + b, a, c * q + d, c, e * q + f, e, g * q + h, g, u, nx k q w, rfl, tx, ?_, i0, by omega, ?_⟩, h1, h0⟩
    · rw [decide_eq_true (show 0 < j + 1 by omega)]
      exact ty'
    · refine prE fl.1 p ?_ ?_
      · show ((a * q + b : Int) : Zd D) * u.1 * ((k : Zd D) * w.2) + (a : Zd D) * u.1 * ((k : Zd D) * w.1 - (q : Zd D) * ((k : Zd D) * w.2)) + ((c * q + d : Int) : Zd D) * u.2 * ((k : Zd D) * w.2) + (c : Zd D) * u.2 * ((k : Zd D) * w.1 - (q : Zd D) * ((k : Zd D) * w.2)) = (k : Zd D) * ((a : Zd D) * u.1 * w.1 + (b : Zd D) * u.1 * w.2 + (c : Zd D) * u.2 * w.1 + (d : Zd D) * u.2 * w.2)
        simp only [Zd.int_add, Zd.int_mul]
        grind
      · show ((e * q + f : Int) : Zd D) * u.1 * ((k : Zd D) * w.2) + (e : Zd D) * u.1 * ((k : Zd D) * w.1 - (q : Zd D) * ((k : Zd D) * w.2)) + ((g * q + h : Int) : Zd D) * u.2 * ((k : Zd D) * w.2) + (g : Zd D) * u.2 * ((k : Zd D) * w.1 - (q : Zd D) * ((k : Zd D) * w.2)) = (k : Zd D) * ((e : Zd D) * u.1 * w.1 + (f : Zd D) * u.1 * w.2 + (g : Zd D) * u.2 * w.1 + (h : Zd D) * u.2 * w.2)
        simp only [Zd.int_add, Zd.int_mul]
        grind
  | @rest r r' l l' o h ih =>
    intro s v t
    have z := ih s v t
    cases o with
    | none => exact z
    | some a => cases a <;> exact z
end
/-! ### the number of a drawn tree is that of its box -/
section
variable {D : Sq}
/-- a law's number as a point -/
def zv (t : Tri) : Zd D × Zd D := (⟨t.1, t.2.1⟩, (t.2.2 : Zd D))
/-- n over m is the law's number -/
structure Val (n m : Zd D) (t : Tri) : Prop where
  eq : n * (zv t).2 = m * (zv t).1
  nz : m ≠ 0
  pos : 0 < t.2.2
theorem Val.ne {n m : Zd D} {t : Tri} (h : Val n m t) : (zv (D := D) t).2 ≠ 0 := int_ne (by have := h.pos; omega)
theorem zd_mk (a b : Int) : (⟨a, b⟩ : Zd D) = (a : Zd D) + (b : Zd D) * ⟨0, 1⟩ := by
  refine Zd.ext' ?_ ?_
  · show a = a + (b * 0 + D.d * 0 * 1)
    grind
  · show b = 0 + (b * 1 + 0 * 0)
    grind
theorem root_sq : (⟨0, 1⟩ : Zd D) * ⟨0, 1⟩ = (D.d : Zd D) := by
  refine Zd.ext' ?_ ?_
  · show 0 * 0 + D.d * 1 * 1 = D.d
    grind
  · show (0 : Int) * 1 + 1 * 0 = 0
    decide
theorem val_made {a b c : Int} (hc : c ≠ 0) : Val (D := D) ⟨a, b⟩ (c : Zd D) (qmade a b c) := by
  obtain ⟨g, g0, _, ea, eb, ec, c0, _⟩ := qmade_spec (a := a) (b := b) hc
  refine ⟨?_, int_ne hc, c0⟩
  show (⟨a, b⟩ : Zd D) * ((qmade a b c).2.2 : Zd D) = (c : Zd D) * ⟨(qmade a b c).1, (qmade a b c).2.1⟩
  generalize qmade a b c = t at *
  rw [ea, eb, ec]
  refine Zd.ext' ?_ ?_
  · show g * t.1 * t.2.2 + D.d * (g * t.2.1) * 0 = g * t.2.2 * t.1 + D.d * 0 * t.2.1
    grind
  · show g * t.1 * 0 + g * t.2.1 * t.2.2 = g * t.2.2 * t.2.1 + 0 * t.1
    grind
theorem mulne {x y : Zd D} (hx : x ≠ 0) (hy : y ≠ 0) : x * y ≠ 0 := fun z => (Zd.mul_zero_or z).elim hx hy
theorem cancelL {x y z : Zd D} (hz : z ≠ 0) (h : z * x = z * y) : x = y := by
  rcases Zd.mul_zero_or (show z * (x - y) = 0 by grind) with k | k
  · exact absurd k hz
  · grind
/-- the same number by other points -/
theorem Val.of {n m n' m' : Zd D} {t : Tri} (h : Val n m t) (h0 : m' ≠ 0) (e : n * m' = n' * m) : Val n' m' t := by
  refine ⟨?_, h0, h.pos⟩
  have := h.eq
  refine cancelL h.nz ?_
  generalize (zv (D := D) t).1 = x at *
  generalize (zv (D := D) t).2 = y at *
  grind
theorem val_sum {n m n' m' : Zd D} {x y : Tri} (z : Int) (hx : Val n m x) (hy : Val n' m' y) : Val (n * m' + (z : Zd D) * n' * m) (m * m') (qsum x y z) := by
  have v := val_made (D := D) (a := x.1 * y.2.2 + z * y.1 * x.2.2) (b := x.2.1 * y.2.2 + z * y.2.1 * x.2.2) (pos_ne hx.pos hy.pos)
  refine Val.of v (mulne hx.nz hy.nz) ?_
  have e1 := hx.eq
  have e2 := hy.eq
  unfold zv at e1 e2
  dsimp only at e1 e2
  rw [zd_mk] at e1 e2
  rw [zd_mk]
  simp only [Zd.int_add, Zd.int_mul]
  generalize (⟨0, 1⟩ : Zd D) = R at *
  generalize (x.1 : Zd D) = x0 at *
  generalize (x.2.1 : Zd D) = x1 at *
  generalize (x.2.2 : Zd D) = x2 at *
  generalize (y.1 : Zd D) = y0 at *
  generalize (y.2.1 : Zd D) = y1 at *
  generalize (y.2.2 : Zd D) = y2 at *
  grind
theorem val_prod {n m n' m' : Zd D} {x y : Tri} (hx : Val n m x) (hy : Val n' m' y) : Val (n * n') (m * m') (qprod D.d x y) := by
  have v := val_made (D := D) (a := x.1 * y.1 + D.d * x.2.1 * y.2.1) (b := x.1 * y.2.1 + x.2.1 * y.1) (pos_ne hx.pos hy.pos)
  refine Val.of v (mulne hx.nz hy.nz) ?_
  have e1 := hx.eq
  have e2 := hy.eq
  have rs := root_sq (D := D)
  unfold zv at e1 e2
  dsimp only at e1 e2
  rw [zd_mk] at e1 e2
  rw [zd_mk]
  simp only [Zd.int_add, Zd.int_mul]
  generalize (⟨0, 1⟩ : Zd D) = R at *
  generalize (x.1 : Zd D) = x0 at *
  generalize (x.2.1 : Zd D) = x1 at *
  generalize (x.2.2 : Zd D) = x2 at *
  generalize (y.1 : Zd D) = y0 at *
  generalize (y.2.1 : Zd D) = y1 at *
  generalize (y.2.2 : Zd D) = y2 at *
  rw [← rs]
  have k : (x0 + x1 * R) * (y0 + y1 * R) * (m * m') = n * n' * (x2 * y2) := by
    have k1 : (x0 + x1 * R) * (y0 + y1 * R) * (m * m') = (m * (x0 + x1 * R)) * (m' * (y0 + y1 * R)) := by grind
    rw [k1, ← e1, ← e2]
    grind
  grind
theorem val_zero {n m : Zd D} {t : Tri} (h : Val n m t) : (t.1 = 0 ∧ t.2.1 = 0) ↔ n = 0 := by
  have e := h.eq
  constructor
  · rintro ⟨h1, h2⟩
    have z : (zv (D := D) t).1 = 0 := Zd.ext' h1 h2
    rw [z] at e
    rcases Zd.mul_zero_or (show n * (zv (D := D) t).2 = 0 by rw [e]; grind) with k | k
    · exact k
    · exact absurd k h.ne
  · intro z
    rw [z] at e
    rcases Zd.mul_zero_or (show m * (zv (D := D) t).1 = 0 by rw [← e]; grind) with k | k
    · exact absurd k h.nz
    · exact ⟨congrArg Zd.re k, congrArg Zd.im k⟩
theorem val_inv {n m : Zd D} {y : Tri} (hy : Val n m y) (h0 : n ≠ 0) : Val m n (qinv D.d y) := by
  have y0 : ¬ (y.1 = 0 ∧ y.2.1 = 0) := fun z => h0 ((val_zero hy).mp z)
  have dn : y.1 * y.1 - D.d * y.2.1 * y.2.1 ≠ 0 := fun z => y0 (D.ok.ns _ _ z)
  have v := val_made (D := D) (a := y.2.2 * y.1) (b := 0 - y.2.2 * y.2.1) dn
  refine Val.of v h0 ?_
  have e := hy.eq
  have rs := root_sq (D := D)
  unfold zv at e
  dsimp only at e
  rw [zd_mk] at e
  rw [zd_mk]
  simp only [Zd.int_sub, Zd.int_mul, Zd.int_zero]
  generalize (⟨0, 1⟩ : Zd D) = R at *
  generalize (y.1 : Zd D) = p at *
  generalize (y.2.1 : Zd D) = q at *
  generalize (y.2.2 : Zd D) = r at *
  rw [← rs]
  have k : (r * p + (0 - r * q) * R) * n = (p - q * R) * (n * r) := by grind
  rw [k, e]
  grind
theorem val_quot {n m n' m' : Zd D} {x y t : Tri} (hx : Val n m x) (hy : Val n' m' y) (h : qquot D.d x y = some t) : n' ≠ 0 ∧ Val (n * m') (m * n') t := by
  unfold qquot at h
  split at h
  · cases h
  · rename_i h0
    cases h
    have n0 : n' ≠ 0 := fun z => h0 ((val_zero hy).mpr z)
    exact ⟨n0, val_prod hx (val_inv hy n0)⟩
theorem val0 : Val (D := D) 0 1 (0, 0, 1) := by
  refine ⟨?_, ?_, by decide⟩
  · show (0 : Zd D) * ((1 : Int) : Zd D) = 1 * ⟨0, 0⟩
    exact Zd.ext' (by show (0 : Int) * 1 + D.d * 0 * 0 = 1 * 0 + D.d * 0 * 0; grind) (by show (0 : Int) * 0 + 0 * 1 = 1 * 0 + 0 * 0; decide)
  · exact int_ne (D := D) (n := 1) (by decide)
theorem val1 : Val (D := D) 1 1 (1, 0, 1) := by
  refine ⟨?_, int_ne (D := D) (n := 1) (by decide), by decide⟩
  show (1 : Zd D) * ((1 : Int) : Zd D) = 1 * ⟨1, 0⟩
  exact Zd.ext' rfl rfl
theorem val_self {t : Tri} (h : 0 < t.2.2) : Val (zv (D := D) t).1 (zv (D := D) t).2 t := ⟨by grind, int_ne (by omega), h⟩
theorem one_ne : (1 : Zd D) ≠ 0 := int_ne (D := D) (n := 1) (by decide)
/-- a four of a number -/
theorem val_four {a b c d : Int} {n m : Zd D} {x t : Tri} (hx : Val n m x) (h : qboxed D.d [a, b, c, d] [x, (1, 0, 1)] = some t) : (c : Zd D) * n + (d : Zd D) * m ≠ 0 ∧ Val ((a : Zd D) * n + (b : Zd D) * m) ((c : Zd D) * n + (d : Zd D) * m) t := by
  have mix : ∀ p q : Int, Val ((p : Zd D) * n + (q : Zd D) * m) m (qmix [p, q] [x, (1, 0, 1)]) := fun p q => by
    have z := val_sum q (val_sum p val0 hx) val1
    refine Val.of z hx.nz ?_
    grind
  obtain ⟨h0, v⟩ := val_quot (mix a b) (mix c d) (show qquot D.d (qmix [a, b] [x, (1, 0, 1)]) (qmix [c, d] [x, (1, 0, 1)]) = some t from h)
  exact ⟨h0, v.of h0 (by grind)⟩
/-- an eight of two -/
theorem val_eight {a b c d e f g h : Int} {n m n' m' : Zd D} {x y t : Tri} (hx : Val n m x) (hy : Val n' m' y) (hq : qboxed D.d [a, b, c, d, e, f, g, h] [qprod D.d x y, x, y, (1, 0, 1)] = some t) :
    (e : Zd D) * n * n' + (f : Zd D) * n * m' + (g : Zd D) * m * n' + (h : Zd D) * m * m' ≠ 0 ∧ Val ((a : Zd D) * n * n' + (b : Zd D) * n * m' + (c : Zd D) * m * n' + (d : Zd D) * m * m') ((e : Zd D) * n * n' + (f : Zd D) * n * m' + (g : Zd D) * m * n' + (h : Zd D) * m * m') t := by
  have mix : ∀ p q r s : Int, Val ((p : Zd D) * n * n' + (q : Zd D) * n * m' + (r : Zd D) * m * n' + (s : Zd D) * m * m') (m * m') (qmix [p, q, r, s] [qprod D.d x y, x, y, (1, 0, 1)]) := fun p q r s => by
    have z := val_sum s (val_sum r (val_sum q (val_sum p val0 (val_prod hx hy)) hx) hy) val1
    refine Val.of z (mulne hx.nz hy.nz) ?_
    grind
  obtain ⟨h0, v⟩ := val_quot (mix a b c d) (mix e f g h) (show qquot D.d (qmix [a, b, c, d] [qprod D.d x y, x, y, (1, 0, 1)]) (qmix [e, f, g, h] [qprod D.d x y, x, y, (1, 0, 1)]) = some t from hq)
  exact ⟨h0, v.of h0 (by grind)⟩
theorem Val.pr {n m : Zd D} {t : Tri} (h : Val n m t) : Pr (n, m) (zv t) := ⟨by show n * (zv (D := D) t).2 = m * (zv (D := D) t).1; exact h.eq, .inr h.nz, .inr h.ne⟩
theorem root_scale (t m b k : Int) : (⟨t, m⟩ : Zd D) * ((b * k : Int) : Zd D) = ⟨t * k, m * k⟩ * (b : Zd D) := by
  refine Zd.ext' ?_ ?_
  · show t * (b * k) + D.d * m * 0 = t * k * b + D.d * (m * k) * 0
    grind
  · show t * 0 + m * (b * k) = t * k * 0 + m * k * b
    grind
theorem QT.pos {d : Int} {n : Nat} {t : Tree} {o : Option Tri} (hd : DOk d) (h : QT d n t o) {v : Tri} (e : o = some v) : 0 < v.2.2 := (h.bits hd v e).2.2.2
/-- the box that a drawn tree begins with is its number -/
theorem QT.tru {n : Nat} {t : Tree} {o : Option Tri} (h : QT D.d n t o) : ∀ v, o = some v → ∀ B, t.Starts B → B.Ok → Tru B false (zv (D := D) v) := by
  induction h with
  | @frac n t b h1 h2 h3 h4 h5 =>
    intro v e B s ok
    cases e
    obtain ⟨c, s, rfl⟩ := s
    have s : c = .frac t b := s
    subst s
    have z := val_made (D := D) (a := t) (b := 0) h5
    exact ⟨z.pr, fun y => (by cases y), fun _ => z.ne⟩
  | @root n t m b h1 h2 h3 h4 h5 h6 h7 =>
    intro v e B s ok
    cases e
    obtain ⟨c, s, rfl⟩ := s
    obtain ⟨r, hr, ⟨e, _⟩ | ⟨ne, q, hq, rfl⟩⟩ := s
    · exfalso
      obtain ⟨_, z⟩ := D.ok.ns r m (by omega)
      omega
    · have z := val_made (D := D) (a := t) (b := m) h7
      refine ⟨⟨ok, m * (b.natAbs : Int), Int.mul_pos (by omega) (by omega), by grind, ?_⟩, fun y => (by cases y), fun _ => z.ne⟩
      have bz : ((b.natAbs : Int)) ≠ 0 := by omega
      refine (z.of (n' := (⟨t * (b.natAbs : Int), m * (b.natAbs : Int)⟩ : Zd D)) (m' := ((b * (b.natAbs : Int) : Int) : Zd D)) (int_ne fun y => ?_) ?_).pr
      · rcases Int.mul_eq_zero.mp y with k | k
        · exact h7 k
        · exact bz k
      · exact root_scale t m b _
  | @ruled n ps h =>
    intro v e B s ok
    cases e
    obtain ⟨c, s, rfl⟩ := s
    have s : c = .ruled ps [] [] 0 := s
    subst s
    obtain ⟨_, _, b3⟩ := h.bits
    have z := val_made (D := D) (a := (fold ps).1) (b := 0) (show (fold ps).2 ≠ 0 by omega)
    exact ⟨⟨rfl, h.good, z.pr⟩, fun y => (by cases y), fun _ => z.ne⟩
  | @four n es x o h hx ih =>
    intro v e B s ok
    obtain ⟨X, s, rfl⟩ := s
    cases o with
    | none => cases e
    | some w =>
      match es, h.1 with
      | [a, b, c, d], _ =>
        have e : qboxed D.d [a, b, c, d] [w, (1, 0, 1)] = some v := e
        obtain ⟨_, z⟩ := val_four (D := D) (val_self (hx.pos D.ok rfl)) e
        exact ⟨rfl, ⟨a, b, c, d, zv w, rfl, ih w rfl X s ok.2.1, z.pr⟩, fun y => (by cases y), fun _ => z.ne⟩
  | @power n k x o hk hx ih =>
    intro v e B s ok
    cases o with
    | none => cases e
    | some w =>
      have e : qpow D.d w k = v := Option.some.inj e
      subst e
      have wp := hx.pos D.ok rfl
      have key : ∀ (k : Nat) (B : Box), powB x.Starts (k + 1) B → B.Ok → 0 < (qpow D.d w k).2.2 ∧ Tru B false (zv (D := D) (qpow D.d w k)) := by
        intro k
        induction k with
        | zero => intro B s ok; exact ⟨wp, ih w rfl B s ok⟩
        | succ k ihk =>
          intro B s ok
          obtain ⟨X, Y, s1, s2, rfl⟩ := s
          obtain ⟨yp, ty⟩ := ihk Y s2 ok.2.2.1
          have z := val_prod (D := D) (val_self yp) (val_self wp)
          refine ⟨z.pos, rfl, ⟨1, 0, 0, 0, 0, 0, 0, 1, zv w, zv (qpow D.d w k), rfl, ih w rfl X s1 ok.2.1, ty, by decide, by decide, ?_⟩, fun y => (by cases y), fun _ => z.ne⟩
          refine prW z.pr ?_ ?_
          · show ((1 : Int) : Zd D) * _ * _ + ((0 : Int) : Zd D) * _ * _ + ((0 : Int) : Zd D) * _ * _ + ((0 : Int) : Zd D) * _ * _ = _
            rw [Zd.int_one, Zd.int_zero]
            grind
          · show ((0 : Int) : Zd D) * _ * _ + ((0 : Int) : Zd D) * _ * _ + ((0 : Int) : Zd D) * _ * _ + ((1 : Int) : Zd D) * _ * _ = _
            rw [Zd.int_one, Zd.int_zero]
            grind
      exact (key k B s ok).2
  | @eight n es x y o u h hx hy ih1 ih2 =>
    intro v e B s ok
    obtain ⟨X, Y, s1, s2, rfl⟩ := s
    cases o with
    | none => cases e
    | some w =>
      cases u with
      | none => cases e
      | some w' =>
        match es, h.1 with
        | [a, b, c, d, e', f, g, k], _ =>
          have e : qboxed D.d [a, b, c, d, e', f, g, k] [qprod D.d w w', w, w', (1, 0, 1)] = some v := e
          obtain ⟨_, z⟩ := val_eight (D := D) (val_self (hx.pos D.ok rfl)) (val_self (hy.pos D.ok rfl)) e
          exact ⟨rfl, ⟨a, b, c, d, e', f, g, k, zv w, zv w', rfl, ih1 w rfl X s1 ok.2.1, ih2 w' rfl Y s2 ok.2.2.1, by decide, by decide, z.pr⟩, fun y => (by cases y), fun _ => z.ne⟩
end
/-! ### the laws' own asking: NoValue, caught by its own name -/
/-- what is told, or ("none",) -/
def OAt (A : Ad) (H : Hp) (v : V) : Option Ans → Prop
  | none => ∃ t, v = .ref t ∧ H t = some (.tup [.str "none"])
  | some an => an.At A H v
section
variable {X : Cx} {k : Nat} {x m : Str} {ps : List Str} {sp : Sp} {o e : Expr} {es : List Expr} {ta : TE} {t : TA} {p pos apos : Pos} {C : Addr}
def tMethS (C : Addr) (m : Str) (sp : Sp) (E : L2.St → XK) (ta : TE) (t : TA) : TE := fun σ H Q => ta σ H fun x H1 => ∃ a dx fs, x = .ref a ∧ H1 a = some (.ins C dx fs) ∧ fs.lookup m = none ∧ t σ H1 fun vs H2 => sp (.ref a :: vs) H2 Q (E σ)
open PySem.Spec PyProof.Rows in
theorem pe_mS {E : L2.St → XK} {pl : Sem Bool} (M : MOk X.prog X.w X.K X.mg X.base (L2.CX X.prog X.w) k C m ps sp) (hr : Room k X.A) (hx : ∀ σ, PassesAt (L2.CX X.prog X.w) X σ (E σ)) (he : PE X o ta) (ha : PA X (e :: es) t)
    (hst : starEach (e :: es) X.env = (false, eval e X.env) :: starEach es X.env := by rfl) (hpl : (backTo pos (starEach es X.env)).any (·.1) = false := by rfl)
    (ht : eval (.Call (.Attribute o m apos) (e :: es) [] pos) X.env = (do
      let ov ← eval o X.env; standAt apos.atName
      let (f, first) ← holding [ov] (getMethod ov m pl)
      callWith pos f first (backTo pos (starEach (e :: es) X.env)) (backToKw pos (keywordEach [] X.env))) := by rfl) :
    PE X (.Call (.Attribute o m apos) (e :: es) [] pos) (tMethS C m sp E ta t) := by
  obtain ⟨c, f, fd, F, hm, hb⟩ := M
  refine ⟨fun pins s σ H Q I h => ?_⟩
  refine PySem.W.methodCall_KW (pl := pl) (thn (he.run pins s σ H _ I h) fun u s1 ⟨x, H1, I1, rx, a, dx, fs, ex, ea, l, q⟩ => ?_) ht
  subst ex
  obtain rfl : u = Value.ref a := rx
  refine getmeth_ok I1 ea c hm l ?_
  refine PySem.W.callWith_K (first := [.ref a]) (h₀ := X.base) I.ok.mod.kin hm.kp (thn (ha.run pos pins s1 σ H1 _ I1 q) fun us s2 ⟨vs, H2, I2, r, q2⟩ => ⟨I2.kIn, ?_⟩) hst hpl
  exact run_fnS (us := .ref a :: us) (vs := .ref a :: vs) F hr hb (hx σ) I2 (.cons rfl r) q2
end
section
variable {P : Program} [NoTree P] {w : World} {K : PySem.W.Frag} {mg : Str → Option Value} {base : Heap} {A : Ad}
end
/-! ### the laws' own gathering of all parts -/
def oVals : Option Ans → List V
  | some a => a.vals
  | none => [.str "none"]
def oData : Option Ans → List PyData
  | some a => a.data
  | none => [.str "none"]
def oWord : Option Ans → Str
  | none => "none"
  | some (.part _) => "part"
  | some .fin => "end"
  | some .waits => "waits"
section
variable {P : Program} [NoTree P] {w : World} {K : PySem.W.Frag} {mg : Str → Option Value} {base : Heap} {A : Ad}
theorem oShaped (o : Option Ans) : SeqAt.shaped (.tuple (oData o)) = true := by
  cases o with
  | some a => exact a.shaped
  | none =>
    have h1 : PyData.strOk "none" = true := by decide +kernel
    simp [SeqAt.shaped, oData, PyData.canLay0, PyData.canLayAll0, PyData.depth, PyData.depthAll, h1]
theorem oDp {H : Hp} {p : Addr} (o : Option Ans) (h : SqT K H p (oVals o)) : Dp K H (.ref p) (.tuple (oData o)) := by
  cases o with
  | some a => exact a.dp h
  | none => exact .tup h (.cons (.str _) .nil)
theorem oTup (T : CT K mg A) {H : Hp} {v : V} {o : Option Ans} (h : OAt A H v o) : ∃ p, v = .ref p ∧ SqT K H p (oVals o) := by
  cases o with
  | none => obtain ⟨t, e, ht⟩ := h; exact ⟨t, e, SqT.of ht⟩
  | some a => exact Ans.At.tup T h
/-- only the row's list is written -/
theorem ReadB.row {H H' : Hp} {r a rd ax m : Addr} {ns : List Int} {fp : List Addr} {B : Box} {l s : Int} (R : ReadB A K H rd ax m fp B l s) (Rw : RowAt K H r a ns) (nr : r ∉ fp) (k : ∀ b o, H b = some o → b ≠ r → H' b = some o) : ReadB A K H' rd ax m fp B l s := by
  obtain ⟨x, xs, er⟩ := Rw.at_
  obtain ⟨rx, e1⟩ := R.rd
  obtain ⟨dm, em⟩ := R.mt
  refine R.kept (N := fun c => c = r) (fun c o e n => k c o e n) (fun c o z e => ?_) (fun z => ?_) (fun z => ?_) (fun c hc z => nr (z ▸ hc))
  · subst z
    rw [er] at e
    cases e
    exact ⟨fun _ q => (by cases q), fun _ _ q => (by cases q)⟩
  · rw [z, er] at e1; cases e1
  · rw [z, er] at em; cases em
/-- what a reading changes is no row's -/
theorem RowAt.frame {H H' : Hp} {r a m : Addr} {ns : List Int} {fp : List Addr} (R : RowAt K H r a ns) (hf : ∀ c ∈ fp, Soft H c) (hm : ∃ C dx fs, H m = some (.ins C dx fs)) (nr : r ∉ fp) (k : ∀ c z, H c = some z → c ∉ fp → c ≠ m → H' c = some z) : RowAt K H' r a ns := by
  obtain ⟨⟨i, l, mx, e, z⟩, hS⟩ := R
  obtain ⟨C, dx, fs, em⟩ := hm
  have nrm : r ≠ m := fun q => by rw [q, em] at e; cases e
  refine ⟨⟨i, l, mx, k _ _ e nr nrm, z⟩, ?_⟩
  rcases hS with ⟨o, h⟩ | h
  · refine .inl ⟨o, k _ _ h (fun q => (Soft.no (hf a q) h).2 _ _ rfl) fun q => ?_⟩
    rw [q, em] at h
    cases h
  · exact .inr h
theorem eqv_ow (o : Option Ans) (h : o ≠ some .waits) : PyData.eqv (.tuple (oData o)) (.tuple [.str "waits"]) = false := by
  cases o with
  | none => decide +kernel
  | some a =>
    cases a with
    | part n => rfl
    | fin => decide +kernel
    | waits => exact absurd rfl h
theorem eqv_ww : PyData.eqv (.tuple (oData (some .waits))) (.tuple [.str "waits"]) = true := SeqAt.eqv_refl _ (SeqAt.canLay_of_shaped (oShaped (some .waits)))
theorem hu65 {k : Nat} {A : Around} (r : Room k A) : A.units + 65 < cLine := by have := r.un; omega
end
section
variable {P : Program} [NoTree P] {w : World} {K : PySem.W.Frag} {mg : Str → Option Value} {base : Heap} {A : Ad}
end
/-! ### one asking of a reading, with what it took; boxes that trees begin with -/
theorem Starts.wt : ∀ {t : Tree} {B : Box}, t.Good → t.Starts B → B.wt ≤ 9 * t.ht
  | .leaf f, B, g, s => by
    obtain ⟨c, _, rfl⟩ := s
    exact Nat.zero_le _
  | .four ns x, B, g, s => by
    obtain ⟨X, s, rfl⟩ := s
    have := Starts.wt g.2.2.2 s
    show X.wt + 1 ≤ 9 * (x.ht + 1)
    omega
  | .eight ns x y, B, g, s => by
    obtain ⟨X, Y, s1, s2, rfl⟩ := s
    have := Starts.wt g.2.2.2.1 s1
    have := Starts.wt g.2.2.2.2 s2
    show max X.wt Y.wt + 3 ≤ 9 * (max x.ht y.ht + 1)
    omega
  | .power x n, B, g, s => by
    obtain ⟨_, g2, g3⟩ := g
    have key : ∀ (n : Nat) (B : Box), powB x.Starts (n + 1) B → B.wt ≤ 9 * x.ht + 3 * n := by
      intro n
      induction n with
      | zero => intro B s; exact Starts.wt g3 s
      | succ n ih =>
        intro B s
        obtain ⟨X, Y, s1, s2, rfl⟩ := s
        have := Starts.wt g3 s1
        have := ih Y s2
        show max X.wt Y.wt + 3 ≤ 9 * x.ht + 3 * (n + 1)
        omega
    show B.wt ≤ 9 * (x.ht + 1)
    match n, s, g2 with
    | n + 1, s, g2 =>
      have := key n B s
      omega
theorem Leaf.Starts.one {f : Leaf} {c c' : Chain} (h : f.Starts c) (h' : f.Starts c') : c = c' := by
  cases f with
  | frac t b =>
    have h : c = .frac t b := h
    have h' : c' = .frac t b := h'
    rw [h, h']
  | root t s b =>
    obtain ⟨r, hr, h⟩ := h
    obtain ⟨r', hr', h'⟩ := h'
    obtain rfl := hr'.unique hr
    rcases h with ⟨e, rfl⟩ | ⟨ne, q, hq, rfl⟩
    · rcases h' with ⟨_, rfl⟩ | ⟨ne, _⟩
      · rfl
      · exact absurd e ne
    · rcases h' with ⟨e, _⟩ | ⟨_, q', hq', rfl⟩
      · exact absurd e ne
      · rw [hq'.unique hq]
  | ruled ps ring steps =>
    have h : c = .ruled ps ring steps 0 := h
    have h' : c' = .ruled ps ring steps 0 := h'
    rw [h, h']
theorem Starts.one : ∀ {t : Tree} {B B' : Box}, t.Starts B → t.Starts B' → B = B'
  | .leaf f, B, B', h, h' => by
    obtain ⟨c, s, rfl⟩ := h
    obtain ⟨c', s', rfl⟩ := h'
    rw [s.one s']
  | .four ns x, B, B', h, h' => by
    obtain ⟨X, s, rfl⟩ := h
    obtain ⟨X', s', rfl⟩ := h'
    rw [Starts.one s s']
  | .eight ns x y, B, B', h, h' => by
    obtain ⟨X, Y, s1, s2, rfl⟩ := h
    obtain ⟨X', Y', s1', s2', rfl⟩ := h'
    rw [Starts.one s1 s1', Starts.one s2 s2']
  | .power x n, B, B', h, h' => by
    have key : ∀ (n : Nat) (B B' : Box), powB x.Starts n B → powB x.Starts n B' → B = B' := by
      intro n
      induction n with
      | zero => intro B B' z; exact z.elim
      | succ n ih =>
        intro B B' z z'
        match n, ih, z, z' with
        | 0, _, z, z' => exact Starts.one (show x.Starts B from z) (show x.Starts B' from z')
        | n + 1, ih, z, z' =>
          obtain ⟨X, Y, s1, s2, rfl⟩ := z
          obtain ⟨X', Y', s1', s2', rfl⟩ := z'
          rw [Starts.one s1 s1', ih Y Y' s2 s2']
    exact key n B B' h h'
section
variable {P : Program} [NoTree P] {w : World} {K : PySem.W.Frag} {mg : Str → Option Value} {base : Heap} {A : Ad}
/-- a reading asked: what is told, and how many parts of leaves were taken -/
def sp_qstep (A : Ad) (K : PySem.W.Frag) (d : Nat) : Sp := fun vs H Q _ => ∃ (r a m : Addr) (fp : List Addr) (B : Box) (l s q : Int) (n : Nat) (o : Option Ans) (B' : Box) (l' : Int), vs = [.ref r, .int q] ∧ ReadB A K H r a m fp B l s ∧ B.wt ≤ d ∧ askF n B q = some (o, B', l') ∧
  ∀ H' fp' t p, ReadB A K H' r a m fp' B' l' (s + (q - l')) → (∀ c z, H c = some z → c ∉ fp → c ≠ m → H' c = some z) → (∀ c ∈ fp', c ∈ fp ∨ H c = none) → SqT K H' t [.ref p, .int (q - l')] → SqT K H' p (oVals o) → Q (.ref t) H'
end
/-! ### the laws' reading of so many parts -/
/-- parts told, and how it went on: none where all were told -/
inductive Rd (most : Int) : Nat → Box → Int → List Int → Option (Option Ans) → Box → Int → Prop
  | done {B s} : Rd most 0 B s [] none B s
  | stop {k B s o B' l'} : Asks B (most - s) o B' l' → (∀ q, o ≠ some (.part q)) → Rd most (k + 1) B s [] (some o) B' (most - l')
  | part {k B s q B' l' ps w B2 s2} : Asks B (most - s) (some (.part q)) B' l' → Rd most k B' (most - l') ps w B2 s2 → Rd most (k + 1) B s (q :: ps) w B2 s2
def wordR : Option (Option Ans) → Str
  | none => "part"
  | some o => oWord o
def Pre (most : Int) (i : Nat) (B : Box) (s : Int) (acc : List Int) (B' : Box) (s' : Int) : Prop := ∀ k ps w B2 s2, Rd most k B' s' ps w B2 s2 → Rd most (i + k) B s (acc ++ ps) w B2 s2
theorem Pre.step {most : Int} {i : Nat} {B : Box} {s : Int} {acc : List Int} {B' : Box} {s' q l' : Int} {B3 : Box} (h : Pre most i B s acc B' s') (a : Asks B' (most - s') (some (.part q)) B3 l') : Pre most (i + 1) B s (acc ++ [q]) B3 (most - l') := fun k ps w B2 s2 r => by
  have z := h (k + 1) (q :: ps) w B2 s2 (.part a r)
  rw [List.append_assoc, Nat.add_assoc, Nat.add_comm 1 k]
  exact z
theorem Rd.one {most : Int} {k : Nat} {B : Box} {s : Int} {ps : List Int} {w : Option (Option Ans)} {B2 : Box} {s2 : Int} (h : Rd most k B s ps w B2 s2) : ∀ {ps' : List Int} {w' : Option (Option Ans)} {B2' : Box} {s2' : Int}, Rd most k B s ps' w' B2' s2' → ps = ps' ∧ w = w' ∧ B2 = B2' ∧ s2 = s2' := by
  induction h with
  | done => intro _ _ _ _ h; cases h; exact ⟨rfl, rfl, rfl, rfl⟩
  | stop a n =>
    intro _ _ _ _ h
    cases h with
    | stop a' n' =>
      obtain ⟨rfl, rfl, rfl⟩ := a.one a'
      exact ⟨rfl, rfl, rfl, rfl⟩
    | part a' r' =>
      obtain ⟨e, _⟩ := a.one a'
      exact absurd e (n _)
  | part a r ih =>
    intro _ _ _ _ h
    cases h with
    | stop a' n' =>
      obtain ⟨e, _⟩ := a'.one a
      exact absurd e (n' _)
    | part a' r' =>
      obtain ⟨e, rfl, rfl⟩ := a.one a'
      cases e
      obtain ⟨rfl, rfl, rfl, rfl⟩ := ih r'
      exact ⟨rfl, rfl, rfl, rfl⟩
section
variable {P : Program} [NoTree P] {w : World} {K : PySem.W.Frag} {mg : Str → Option Value} {base : Heap} {A : Ad}
def sp_qread (A : Ad) (K : PySem.W.Frag) (d : Nat) : Sp := fun vs H Q _ => ∃ (r a m : Addr) (fp : List Addr) (B : Box) (l s : Int) (many : Nat) (most D : Int) (b : Bool) (val : Int × Int) (M : Int), vs = [.ref r, .int many, .int most] ∧ ReadB A K H r a m fp B l s ∧ B.wt ≤ d ∧ many ≤ 100 ∧ s ≤ most ∧ 0 ≤ D ∧ Inv (most - s + D) B b val M ∧
  ∀ H' fp' t f ps wd B' l' s', ReadB A K H' r a m fp' B' l' s' → B'.wt ≤ d → s' ≤ most → (∃ b val, Inv (most - s' + D) B' b val M) → Rd most many B s ps wd B' s' → SqT K H' t [.ref f, .str (wordR wd)] → H' f = some (.lst (ps.map V.int)) → H f = none → f ∉ fp' → (∀ c z, H c = some z → c ∉ fp → c ≠ m → H' c = some z) → (∀ c ∈ fp', c ∈ fp ∨ H c = none) → ps.length ≤ many → Q (.ref t) H'
theorem ok_qread (T : CT K mg A) (XM : PySem.W.exmOne K (.ref A.c_NoValue) (.ref A.c_NoValue) = some true) (D : DT K mg A) (d : Nat) (G_law_whole : COk P w K mg base CX0 1 "_law_whole" ["_law_found"] sp_law_whole) : COk P w K mg base CX0 (40 + d + 2) "_law_read" ["_law_made_here", "_law_many", "_law_most"] (sp_qread A K d) := by
  have M_part := ok_partB (P := P) (w := w) (base := base) T D d
  have M_took := ok_tookB (P := P) (w := w) (base := base) T D
  refine COk.by D.law_read fun f fd F => ?_
  refine F.ok (k := 40 + d + 1) sc_law_read (fun vs H Q E h => ?_) (fun cdv Ar outer s H vs Q E hr h => ?_)
  · obtain ⟨r, a, m, fp, B, l, s, many, most, D0, b, val, M, rfl, _⟩ := h
    rfl
  · obtain ⟨r, a, m, fp, B, l, s, many, most, Dd, b, val, M, rfl, R, hw, hmany, hs, hD, inv, k⟩ := h
    refine ⟨_, (pss_cons (ps_set (i := 3) sc_law_read.nd rfl (Or.inl rfl) (pe_lst pa_nil))
    (pss_cons (ps_for PassesOwn.never rfl (pi_range1 rfl T.b_range (pa_cons (pv 1) pa_nil)) (pg_name (i := 4) sc_law_read.nd rfl (Or.inl rfl))
      (C8.pss_cut (ps_try_only rfl rfl ⟨rfl, by decide, .inl T.x_NoValue.g⟩ takes0 (fun W pn xe tk _ => (pss_one (ps_set (i := 5) sc_law_read.nd rfl (Or.inl rfl) (pe_mS M_part (hr.mono (by first | decide | omega)) (fun σ => passAt tk σ) (pv 0) (pa_cons (pe_op op_sub (pv 2) (pe_m0 M_took (hr.mono (by first | decide | omega)) (pv 0))) pa_nil)))))
      (fun a oe cls d pn hz hf => (pss_one (ps_ret (pe_tup (pa_cons (pv 3) (pa_cons pe_str pa_nil)))))))
    (pss_cons (ps_if (PW.pt (pw_or (pt_not (pt_val (pe_callB call_isi (by rfl) T.b_isinstance (by decide +kernel) (pa_cons (pv 5) (pa_cons (pe_bltn (v := .ty "tuple") (by rfl) T.b_tuple (by decide +kernel) rfl) pa_nil))))) (pw_or1 (pt_cmpR op_notIn_seq (pe_ix ix_tup (pv 5) pe_int (fun _ _ => rfl)) (pe_lst (pa_cons pe_str (pa_cons pe_str (pa_cons pe_str pa_nil)))) rfl))))
      (pss_one (ps_ret (pe_tup (pa_cons (pv 3) (pa_cons pe_str pa_nil))))) pss_nil)
    (pss_cons (ps_if (pt_cmpR op_ne (pe_callB call_len_seq (by rfl) T.b_len (by decide +kernel) (pa_cons (pv 5) pa_nil)) (pe_op op_add pe_int (pe_callTy call_int1 (by rfl) T.b_int (by decide +kernel) (pa_cons (pe_cmpR op_eq (pe_ix ix_tup (pv 5) pe_int (fun _ _ => rfl)) pe_str (nomark _)) pa_nil))) (nomark _))
      (pss_one (ps_ret (pe_tup (pa_cons (pv 3) (pa_cons pe_str pa_nil))))) pss_nil)
    (pss_cons (ps_if (pt_cmpR op_ne (pe_ix ix_tup (pv 5) pe_int (fun _ _ => rfl)) pe_str (nomark _))
      (pss_one (ps_ret (pe_tup (pa_cons (pv 3) (pa_cons (pe_ix ix_tup (pv 5) pe_int (fun _ _ => rfl)) pa_nil))))) pss_nil)
    (pss_cons (ps_if (pt_not (pt_val (pe_c G_law_whole (hr.mono (by first | decide | omega)) (pa_cons (pe_ix ix_tup (pv 5) pe_int (fun _ _ => rfl)) pa_nil))))
      (pss_one (ps_ret (pe_tup (pa_cons (pv 3) (pa_cons pe_str pa_nil))))) pss_nil)
    (pss_one (ps_expr (pe_bm PySem.F.plainAttrs_list PySem.F.slot_list_append PySem.F.type_list_append mt_append (pv 3) (pa_cons (pe_ix ix_tup (pv 5) pe_int (fun _ _ => rfl)) pa_nil))))))))))
    (pss_one (ps_ret (pe_tup (pa_cons (pv 3) (pa_cons pe_str pa_nil))))))), ?_⟩
    refine ⟨(by show 0 ≤ sizeLine; decide), fun f nf => ?_⟩
    have s0 := same_upd (o := .lst []) nf
    have hf0 := upd_at s0
    have R0 := R.same s0
    have nff : f ∉ fp := fun z => by
      rcases R.bx.soft f z with ⟨_, _, _, e⟩ | ⟨_, e⟩
      · rw [nf] at e; cases e
      · rw [nf] at e; cases e
    generalize upd H f (.lst []) = H0 at *
    refine ⟨_, rfl, ((many : Nat) : Int), rfl, by omega, by omega, for_range (lo := 0) (n := many) (fun i σ H' => ∃ (acc : List Int) (B' : Box) (l' s' : Int) (fp' : List Addr) (b : Bool) (val : Int × Int) (v4 v5 : Option V),
        σ = [some (.ref r), some (.int many), some (.int most), some (.ref f), v4, v5] ∧ acc.length = i ∧ H' f = some (.lst (acc.map V.int)) ∧ ReadB A K H' r a m fp' B' l' s' ∧ B'.wt ≤ d ∧ s' ≤ most ∧ Inv (most - s' + Dd) B' b val M ∧ Pre most i B s acc B' s' ∧ f ∉ fp' ∧ (∀ c z, H c = some z → c ∉ fp → c ≠ m → H' c = some z) ∧ (∀ c ∈ fp', c ∈ fp ∨ H c = none))
      ⟨[], B, l, s, fp, b, val, none, none, rfl, rfl, hf0, R0, hw, hs, inv, (fun k ps w B2 s2 z => by rw [Nat.zero_add]; exact z), nff, (fun c z e _ _ => s0 _ _ e), fun c hc => .inl hc⟩ ?_ ?_⟩
    · rintro i σ H1 hi ⟨acc, B1, l1, s1, fp1, b1, val1, v4, v5, rfl, hlen, hf1, R1, hw1, hs1, inv1, pre1, nf1, fr1, sub1⟩
      obtain ⟨o, B2, l2, asks, out⟩ := asks_all (l := most - s1) (D := Dd) R1.ok (by omega) hD inv1
      obtain ⟨n0, en⟩ := askF_up asks
      have left := asks.left (show 0 ≤ most - s1 by omega)
      have hw2 : B2.wt ≤ d := Nat.le_trans (askF_ok R1.ok (en n0 (Nat.le_refl _))).2.1 hw1
      have e2 : s1 + (most - s1 - l2) = most - l2 := by omega
      have inv2 : ∃ b val, Inv (most - (most - l2) + Dd) B2 b val M := by
        rw [show most - (most - l2) + Dd = l2 + Dd by omega]
        match o, out with
        | none, out => obtain ⟨_, v', z⟩ := out.1 rfl; exact ⟨_, _, z⟩
        | some .waits, out => obtain ⟨v', z, _⟩ := out.2.1 rfl; exact ⟨_, _, z⟩
        | some .fin, out => obtain ⟨_, _, v', z, _⟩ := out.2.2.1 rfl; exact ⟨_, _, z⟩
        | some (.part x), out => obtain ⟨_, v', _, _, _, _, z, _⟩ := out.2.2.2 x rfl; exact ⟨_, _, z⟩
      obtain ⟨rx, er⟩ := R1.rd
      obtain ⟨dm, em⟩ := R1.mt
      have nfm : f ≠ m := fun z => by rw [z, em] at hf1; cases hf1
      -- what stands behind the asking
      have aft : ∀ H2 fp2, ReadB A K H2 r a m fp2 B2 l2 (s1 + (most - s1 - l2)) → (∀ c z, H1 c = some z → c ∉ fp1 → c ≠ m → H2 c = some z) → (∀ c ∈ fp2, c ∈ fp1 ∨ H1 c = none) →
          ReadB A K H2 r a m fp2 B2 l2 (most - l2) ∧ H2 f = some (.lst (acc.map V.int)) ∧ f ∉ fp2 ∧ (∀ c z, H c = some z → c ∉ fp → c ≠ m → H2 c = some z) ∧ (∀ c ∈ fp2, c ∈ fp ∨ H c = none) := fun H2 fp2 R2 fr2 sub2 => by
        rw [e2] at R2
        refine ⟨R2, fr2 _ _ hf1 nf1 nfm, fun z => ?_, fun c z e h1 h2 => ?_, fun c hc => ?_⟩
        · rcases sub2 f z with y | y
          · exact nf1 y
          · rw [hf1] at y; cases y
        · refine fr2 c z (fr1 c z e h1 h2) (fun y => ?_) h2
          rcases sub1 c y with y | y
          · exact h1 y
          · rw [e] at y; cases y
        · rcases sub2 c hc with y | y
          · exact sub1 c y
          · by_cases h1 : c ∈ fp
            · exact .inl h1
            · refine .inr ?_
              cases z : H c with
              | none => rfl
              | some oo =>
                by_cases h2 : c = m
                · rw [h2, em] at y; cases y
                · rw [fr1 c oo z h1 h2] at y; cases y
      have stopK : (∀ q, o ≠ some (.part q)) → ∀ H2 fp2 t, ReadB A K H2 r a m fp2 B2 l2 (most - l2) → H2 f = some (.lst (acc.map V.int)) → f ∉ fp2 → (∀ c z, H c = some z → c ∉ fp → c ≠ m → H2 c = some z) → (∀ c ∈ fp2, c ∈ fp ∨ H c = none) → SqT K H2 t [.ref f, .str (oWord o)] → Q (.ref t) H2 := fun no H2 fp2 t R2 hf2 nf2 fr2 sub2 ht => by
        have rd := pre1 (many - i) [] (some o) B2 (most - l2) (by
          obtain ⟨j, hj⟩ : ∃ j, many - i = j + 1 := ⟨many - i - 1, by omega⟩
          rw [hj]
          exact .stop asks no)
        rw [show i + (many - i) = many by omega, List.append_nil] at rd
        exact k H2 fp2 t f acc (some o) B2 l2 _ R2 hw2 (by have := left.1; omega) inv2 rd ht hf2 nf nf2 fr2 sub2 (by omega)
      refine ⟨fun σ H2 => ∃ (fp2 : List Addr) (p : Addr) (an : Ans), o = some an ∧ σ = [some (.ref r), some (.int many), some (.int most), some (.ref f), some (.int (0 + (i : Int))), some (.ref p)] ∧ SqT K H2 p an.vals ∧ ReadB A K H2 r a m fp2 B2 l2 (most - l2) ∧ H2 f = some (.lst (acc.map V.int)) ∧ f ∉ fp2 ∧ (∀ c z, H c = some z → c ∉ fp → c ≠ m → H2 c = some z) ∧ (∀ c ∈ fp2, c ∈ fp ∨ H c = none), ?_, ?_⟩
      · refine ⟨_, rfl, r, rx, _, rfl, er, rfl, _, rfl, _, rfl, r, rx, _, rfl, er, rfl, r, a, m, fp1, B1, l1, s1, rfl, R1, _, _, rfl, rfl, r, a, m, fp1, B1, l1, s1, most - s1, n0, o, B2, l2, rfl, R1, hw1, en n0 (Nat.le_refl _), fun H2 fp2 R2 fr2 sub2 => ?_⟩
        obtain ⟨a1, a2, a3, a4, a5⟩ := aft H2 fp2 R2 fr2 sub2
        cases o with
        | some an =>
          intro v hv
          obtain ⟨p, rfl, hp⟩ := hv.tup T
          exact ⟨fp2, p, an, rfl, rfl, hp, a1, a2, a3, a4, a5⟩
        | none =>
          refine ⟨true, XM, fun _ a0 na => ?_, fun z => nomatch z⟩
          refine ⟨_, rfl, (by show 2 ≤ sizeLine; decide), fun t nt => ?_⟩
          have s2 := same_upd (o := .tup [V.ref f, .str "none"]) nt
          exact stopK (fun q z => nomatch z) _ fp2 t (a1.same s2) (s2 _ _ a2) a3 (fun c z e h1 h2 => s2 _ _ (a4 c z e h1 h2)) a5 (SqT.of upd_same)
      rintro σ H2 ⟨fp2, p, an, rfl, rfl, hp, R2, hf2, nf2, fr2, sub2⟩
      have ty : TyX K H2 (.ref p) (.type "tuple") := tyT hp
      refine ⟨_, rfl, _, _, _, _, true, rfl, .ty "tuple", ty, kit_ty (by decide +kernel), _, rfl, iteF ?_⟩
      cases an with
      | part z =>
        refine ⟨_, rfl, p, _, 0, .str "part", rfl, rfl, hp, atI_nat (j := 0) rfl, (by show 3 ≤ sizeLine; decide), fun l3 n3 => ?_⟩
        have s3 := same_upd (o := .lst [V.str "part", .str "end", .str "waits"]) n3
        have hp3 := sqT_same hp s3
        refine ⟨l3, _, rfl, .inl (SqL.of upd_same), rfl, rfl, _, rfl, iteF ?_⟩
        have R3 := R2.same s3
        have hf3 := s3 _ _ hf2
        have fr3 : ∀ c z, H c = some z → c ∉ fp → c ≠ m → (upd H2 l3 (.lst [V.str "part", .str "end", .str "waits"])) c = some z := fun c z e h1 h2 => s3 _ _ (fr2 c z e h1 h2)
        generalize upd H2 l3 (.lst [V.str "part", .str "end", .str "waits"]) = H3 at *
        refine ⟨_, rfl, p, _, rfl, .inr hp3, _, rfl, p, _, 0, .str "part", rfl, rfl, hp3, atI_nat (j := 0) rfl, rfl, .inr ⟨_, rfl, _, _, rfl, rfl, rfl, _, rfl, iteF ?_⟩⟩
        refine ⟨_, rfl, p, _, 0, .str "part", rfl, rfl, hp3, atI_nat (j := 0) rfl, rfl, _, rfl, iteF ?_⟩
        refine ⟨_, rfl, p, _, 1, .int z, rfl, rfl, hp3, atI_nat (j := 1) rfl, z, rfl, _, rfl, iteF ?_⟩
        refine ⟨_, rfl, .inl ⟨rfl, _, SqL.of hf3⟩, _, rfl, p, _, 1, .int z, rfl, rfl, hp3, atI_nat (j := 1) rfl, f, _, _, rfl, rfl, hf3, (by rw [List.length_map]; exact Nat.lt_of_lt_of_le (show acc.length < 1000 by omega) (by decide)), ?_⟩
        obtain ⟨b2, val2, inv2⟩ := inv2
        refine ⟨acc ++ [z], B2, l2, most - l2, fp2, b2, val2, _, _, rfl, by rw [List.length_append, hlen]; rfl, ?_, R3.put hf3 nf2, hw2, by have := left.1; omega, inv2, pre1.step asks, nf2, fun c y e h1 h2 => ?_, sub2⟩
        · rw [upd_same, List.map_append]
          rfl
        · rw [upd_ne (ne_of_none e nf)]
          exact fr3 c y e h1 h2
      | fin =>
        refine ⟨_, rfl, p, _, 0, .str "end", rfl, rfl, hp, atI_nat (j := 0) rfl, (by show 3 ≤ sizeLine; decide), fun l3 n3 => ?_⟩
        have s3 := same_upd (o := .lst [V.str "part", .str "end", .str "waits"]) n3
        have hp3 := sqT_same hp s3
        refine ⟨l3, _, rfl, .inl (SqL.of upd_same), rfl, rfl, _, rfl, iteF ?_⟩
        have R3 := R2.same s3
        have hf3 := s3 _ _ hf2
        have fr3 : ∀ c z, H c = some z → c ∉ fp → c ≠ m → (upd H2 l3 (.lst [V.str "part", .str "end", .str "waits"])) c = some z := fun c z e h1 h2 => s3 _ _ (fr2 c z e h1 h2)
        generalize upd H2 l3 (.lst [V.str "part", .str "end", .str "waits"]) = H3 at *
        refine ⟨_, rfl, p, _, rfl, .inr hp3, _, rfl, p, _, 0, .str "end", rfl, rfl, hp3, atI_nat (j := 0) rfl, rfl, .inr ⟨_, rfl, _, _, rfl, rfl, rfl, _, rfl, iteF ?_⟩⟩
        refine ⟨_, rfl, p, _, 0, .str "end", rfl, rfl, hp3, atI_nat (j := 0) rfl, rfl, _, rfl, iteT ?_⟩
        refine ⟨_, rfl, _, rfl, p, _, 0, .str "end", rfl, rfl, hp3, atI_nat (j := 0) rfl, (by show 2 ≤ sizeLine; decide), fun t nt => ?_⟩
        have s4 := same_upd (o := .tup [V.ref f, .str "end"]) nt
        exact stopK (fun q z => nomatch z) _ fp2 t (R3.same s4) (s4 _ _ hf3) nf2 (fun c z e h1 h2 => s4 _ _ (fr3 c z e h1 h2)) sub2 (SqT.of upd_same)
      | waits =>
        refine ⟨_, rfl, p, _, 0, .str "waits", rfl, rfl, hp, atI_nat (j := 0) rfl, (by show 3 ≤ sizeLine; decide), fun l3 n3 => ?_⟩
        have s3 := same_upd (o := .lst [V.str "part", .str "end", .str "waits"]) n3
        have hp3 := sqT_same hp s3
        refine ⟨l3, _, rfl, .inl (SqL.of upd_same), rfl, rfl, _, rfl, iteF ?_⟩
        have R3 := R2.same s3
        have hf3 := s3 _ _ hf2
        have fr3 : ∀ c z, H c = some z → c ∉ fp → c ≠ m → (upd H2 l3 (.lst [V.str "part", .str "end", .str "waits"])) c = some z := fun c z e h1 h2 => s3 _ _ (fr2 c z e h1 h2)
        generalize upd H2 l3 (.lst [V.str "part", .str "end", .str "waits"]) = H3 at *
        refine ⟨_, rfl, p, _, rfl, .inr hp3, _, rfl, p, _, 0, .str "waits", rfl, rfl, hp3, atI_nat (j := 0) rfl, rfl, .inr ⟨_, rfl, _, _, rfl, rfl, rfl, _, rfl, iteF ?_⟩⟩
        refine ⟨_, rfl, p, _, 0, .str "waits", rfl, rfl, hp3, atI_nat (j := 0) rfl, rfl, _, rfl, iteT ?_⟩
        refine ⟨_, rfl, _, rfl, p, _, 0, .str "waits", rfl, rfl, hp3, atI_nat (j := 0) rfl, (by show 2 ≤ sizeLine; decide), fun t nt => ?_⟩
        have s4 := same_upd (o := .tup [V.ref f, .str "waits"]) nt
        exact stopK (fun q z => nomatch z) _ fp2 t (R3.same s4) (s4 _ _ hf3) nf2 (fun c z e h1 h2 => s4 _ _ (fr3 c z e h1 h2)) sub2 (SqT.of upd_same)
    · rintro σ H1 ⟨acc, B1, l1, s1, fp1, b1, val1, v4, v5, rfl, hlen, hf1, R1, hw1, hs1, inv1, pre1, nf1, fr1, sub1⟩
      refine ⟨_, rfl, (by show 2 ≤ sizeLine; decide), fun t nt => ?_⟩
      have s2 := same_upd (o := .tup [V.ref f, .str "part"]) nt
      have rd := pre1 0 [] none B1 s1 .done
      rw [Nat.add_zero, List.append_nil] at rd
      exact k _ fp1 t f acc none B1 l1 s1 (R1.same s2) hw1 hs1 ⟨_, _, inv1⟩ rd (SqT.of upd_same) (s2 _ _ hf1) nf nf1 (fun c z e h1 h2 => s2 _ _ (fr1 c z e h1 h2)) sub1 (by omega)
end
/-! ### the parts of a number, one by one -/
section
variable {D : Sq}
inductive Parts : Zd D × Zd D → List Int → Zd D × Zd D → Prop
  | nil {v} : Parts v [] v
  | cons {v e q ps v'} : Fl e q v → Parts (nx e q v) ps v' → Parts v (q :: ps) v'
theorem int_lt_of {m n : Int} (h : (m : Zd D) < (n : Zd D)) : m < n := by
  rcases Int.lt_or_le m n with z | z
  · exact z
  · have := Zd.int_le (D := D) z
    grind
theorem Fl.sign {e e' q q' : Int} {v : Zd D × Zd D} (h : Fl e q v) (h' : Fl e' q' v) : e = e' := by
  obtain ⟨h1, h2, _⟩ := h
  obtain ⟨h1', h2', _⟩ := h'
  rcases h1 with rfl | rfl <;> rcases h1' with rfl | rfl
  · rfl
  · rw [Zd.int_one] at h2; rw [Zd.int_neg, Zd.int_one] at h2'; grind
  · rw [Zd.int_one] at h2'; rw [Zd.int_neg, Zd.int_one] at h2; grind
  · rfl
theorem Fl.one {e e' q q' : Int} {v : Zd D × Zd D} (h : Fl e q v) (h' : Fl e' q' v) : q = q' := by
  obtain rfl := h.sign h'
  obtain ⟨_, h2, h3, h4⟩ := h
  obtain ⟨_, _, h3', h4'⟩ := h'
  have k1 : ((q : Int) : Zd D) < ((q' + 1 : Int) : Zd D) := by
    rw [Zd.int_add, Zd.int_one]
    refine cancel_lt h2 ?_
    grind
  have k2 : ((q' : Int) : Zd D) < ((q + 1 : Int) : Zd D) := by
    rw [Zd.int_add, Zd.int_one]
    refine cancel_lt h2 ?_
    grind
  have := int_lt_of k1
  have := int_lt_of k2
  omega
theorem Fl.ne {e q : Int} {v : Zd D × Zd D} (h : Fl e q v) : v.2 ≠ 0 := fun z => by
  obtain ⟨_, h2, _⟩ := h
  rw [z] at h2
  grind
theorem Pr.symm {x v : Zd D × Zd D} (h : Pr x v) : Pr v x := by
  obtain ⟨h1, h2, h3⟩ := h
  exact ⟨by grind, h3, h2⟩
/-- two readings of one number -/
theorem Parts.meet : ∀ {ps qs : List Int} {v w v1 w1 : Zd D × Zd D}, Pr v w → Parts v ps v1 → Parts w qs w1 → (∃ r w', qs = ps ++ r ∧ Pr v1 w' ∧ Parts w' r w1) ∨ (∃ r v', ps = qs ++ r ∧ Pr v' w1 ∧ Parts v' r v1)
  | [], qs, v, w, v1, w1, p, h, h' => by
    cases h
    exact .inl ⟨qs, w, rfl, p, h'⟩
  | q :: ps, [], v, w, v1, w1, p, h, h' => by
    cases h'
    exact .inr ⟨q :: ps, v, rfl, p, h⟩
  | q :: ps, q' :: qs, v, w, v1, w1, p, h, h' => by
    cases h with
    | cons f r =>
      cases h' with
      | cons f' r' =>
        obtain ⟨e2, f2, p2⟩ := Fl.of p f
        obtain rfl := f2.one f'
        obtain rfl := f2.sign f'
        rcases Parts.meet p2 r r' with ⟨x, y, e, z1, z2⟩ | ⟨x, y, e, z1, z2⟩
        · exact .inl ⟨x, y, by rw [e]; rfl, z1, z2⟩
        · exact .inr ⟨x, y, by rw [e]; rfl, z1, z2⟩
theorem Parts.none {r : List Int} {w w1 : Zd D × Zd D} (h : Parts w r w1) (z : w.2 = 0) : r = [] := by
  cases h with
  | nil => rfl
  | cons f _ => exact absurd z f.ne
/-- whatever a reading tells is true -/
theorem Rd.tru {most : Int} {k : Nat} {B : Box} {s : Int} {ps : List Int} {w : Option (Option Ans)} {B2 : Box} {s2 : Int} (h : Rd most k B s ps w B2 s2) : ∀ {b : Bool} {v : Zd D × Zd D}, Tru B b v → ∃ v', Parts v ps v' ∧ w ≠ some none ∧ (w = some (some .fin) → v'.2 = 0) ∧ (w = none → ps.length = k) := by
  induction h with
  | done => intro b v _; exact ⟨v, .nil, (fun z => nomatch z), (fun z => nomatch z), fun _ => rfl⟩
  | @stop k B s o B' l' a n =>
    intro b v t
    have z := tru_asks a b v t
    refine ⟨v, .nil, fun e => ?_, fun e => ?_, (fun z => nomatch z)⟩
    · cases e
      exact z
    · cases e
      exact z.2.1
  | @part k B s q B' l' ps w B2 s2 a r ih =>
    intro b v t
    obtain ⟨e, f, t'⟩ := tru_asks a b v t
    obtain ⟨v', h1, h2, h3, h4⟩ := ih t'
    exact ⟨v', .cons f h1, h2, h3, fun z => by rw [List.length_cons, h4 z]⟩
end
/-! ### the parts that the laws reckon of a triple: how its numbers grow -/
/-- a root's numbers, bounded by X -/
structure RX (X t s b r : Int) : Prop where
  rt : IsRoot s r
  ns : r * r ≠ s
  nz : b ≠ 0
  dv : ∃ q, s - t * t = q * b
  x0 : 0 ≤ X
  bn : b < 0 → -b ≤ X
  bp : 0 < b → b ≤ 2 * r + 1 + X
  tl : -(r + X) ≤ t
  th : t ≤ r + X
theorem rx_step {t b r a : Int} (ha : a = rootPart t b r) :
    (0 < b → a * b - t ≤ r ∧ r + 1 ≤ a * b - t + b) ∧ (b < 0 → r + 1 ≤ a * b - t ∧ a * b - t ≤ r - b) := by
  subst ha
  refine ⟨fun hb => ?_, fun hb => ?_⟩
  · have e := fdm (t + r + 0) b
    have := fmod_pos (a := t + r + 0) hb
    unfold rootPart
    rw [if_neg (by omega), Int.mul_comm]
    omega
  · have e := fdm (t + r + 1) b
    have := fmod_neg (a := t + r + 1) hb
    unfold rootPart
    rw [if_pos hb, Int.mul_comm]
    omega
theorem rx_next {X t s b r : Int} (h : RX X t s b r) : RX X (rootPart t b r * b - t) s ((s - (rootPart t b r * b - t) * (rootPart t b r * b - t)).fdiv b) r := by
  obtain ⟨sp, sn⟩ := rx_step (t := t) (b := b) (r := r) rfl
  obtain ⟨rt, ns, nz, ⟨q, hq⟩, x0, bn, bp, tl, th⟩ := h
  generalize rootPart t b r = a at *
  obtain ⟨r0, r1, r2⟩ := rt
  have hd : s - (a * b - t) * (a * b - t) = (q - a * (a * b - 2 * t)) * b := by
    have e : s - (a * b - t) * (a * b - t) = (s - t * t) - (a * (a * b - 2 * t)) * b := by grind
    rw [e, hq]
    grind
  have e2 : (s - (a * b - t) * (a * b - t)).fdiv b = q - a * (a * b - 2 * t) := by
    rw [hd]
    exact Int.mul_fdiv_cancel _ nz
  rw [e2]
  generalize q - a * (a * b - 2 * t) = c at *
  generalize a * b - t = u at *
  have ex : (r + 1) * (r + 1) = r * r + 2 * r + 1 := by grind
  have c0 : c ≠ 0 := fun z => by
    rw [z, Int.zero_mul] at hd
    have e : u * u = s := by omega
    have hu := (IsRoot.abs e).unique ⟨r0, r1, r2⟩
    have : (u.natAbs : Int) * u.natAbs = u * u := Int.natAbs_mul_self
    rw [hu] at this
    omega
  have hul : -(r + X) ≤ u := by
    rcases Int.lt_or_gt_of_ne nz with hb | hb
    · have := sn hb; omega
    · have := sp hb; have := bp hb; omega
  have huh : u ≤ r + X := by
    rcases Int.lt_or_gt_of_ne nz with hb | hb
    · have := sn hb; have := bn hb; omega
    · have := sp hb; omega
  refine ⟨⟨r0, r1, r2⟩, ns, c0, ⟨b, by rw [hd, Int.mul_comm]⟩, x0, ?_, ?_, hul, huh⟩
  · intro hc
    rcases Int.lt_or_gt_of_ne nz with hb | hb
    · exfalso
      obtain ⟨u1, u2⟩ := sn hb
      have k1 := Int.mul_nonneg_of_nonpos_of_nonpos (Int.le_of_lt hc) (Int.le_of_lt hb)
      have k2 := Int.mul_le_mul u1 u1 (by omega) (by omega)
      omega
    · obtain ⟨u1, u2⟩ := sp hb
      have hu : u ≤ -r - 1 := by
        rcases Int.lt_or_le u (-r) with z | z
        · omega
        · exfalso
          have k1 : u * u ≤ r * r := by
            have := Int.mul_nonneg (show 0 ≤ r - u by omega) (show 0 ≤ r + u by omega)
            have e : (r - u) * (r + u) = r * r - u * u := by grind
            omega
          have k2 := Int.mul_nonneg (show 0 ≤ -c - 1 by omega) (Int.le_of_lt hb)
          have e3 : (-c - 1) * b = -(c * b) - b := by grind
          omega
      have k3 : (-c) * b ≤ (-u - r) * b := by
        have k4 := Int.mul_le_mul_of_nonneg_left (show -u + r ≤ b by omega) (show 0 ≤ -u - r by omega)
        have e4 : (-u - r) * (-u + r) = u * u - r * r := by grind
        have e5 : -c * b = -(c * b) := by grind
        omega
      have k5 := le_of_mul hb k3
      have := bp hb
      omega
  · intro hc
    rcases Int.lt_or_gt_of_ne nz with hb | hb
    · obtain ⟨u1, u2⟩ := sn hb
      have k3 : c * (-b) ≤ (u + r) * (-b) := by
        have k4 := Int.mul_le_mul_of_nonneg_left (show u - r ≤ -b by omega) (show 0 ≤ u + r by omega)
        have e4 : (u + r) * (u - r) = u * u - r * r := by grind
        have e5 : c * -b = -(c * b) := by grind
        omega
      have k5 := le_of_mul (show 0 < -b by omega) k3
      have := bn hb
      omega
    · obtain ⟨u1, u2⟩ := sp hb
      have hu : -r ≤ u := by
        rcases Int.lt_or_le u (-r) with z | z
        · exfalso
          have k1 := Int.mul_le_mul (show r + 1 ≤ -u by omega) (show r + 1 ≤ -u by omega) (by omega) (by omega)
          have e : -u * -u = u * u := by grind
          have k2 := Int.mul_nonneg (Int.le_of_lt hc) (Int.le_of_lt hb)
          omega
        · exact z
      have k3 : c * b < (r + 1 + u) * b := by
        have k4 := Int.mul_le_mul_of_nonneg_left (show r + 1 - u ≤ b by omega) (show 0 ≤ r + 1 + u by omega)
        have e4 : (r + 1 + u) * (r + 1 - u) = (r + 1) * (r + 1) - u * u := by grind
        omega
      have k5 := lt_of_mul hb k3
      omega
/-- a triple beside a root's numbers -/
def QX (d X s r : Int) (x : Tri) : Prop := ∃ g, g ≠ 0 ∧ 0 < g * x.2.1 ∧ s = g * x.2.1 * (g * x.2.1) * d ∧ RX X (g * x.1) s (g * x.2.2) r
theorem qx_next {d X s r a h A B C A3 B3 C3 : Int} (R : QX d X s r (A, B, C)) (hC : 0 < C) (ha : ∀ g, g ≠ 0 → 0 < g * B → s = g * B * (g * B) * d → a = rootPart (g * A) (g * C) r) (hp : Prim A3 B3 C3)
    (e1 : C * (A - a * C) = h * A3) (e2 : -(C * B) = h * B3) (e3 : (A - a * C) * (A - a * C) - d * B * B = h * C3) : QX d X s r (A3, B3, C3) := by
  obtain ⟨g, hg, gB, hs, ok⟩ := R
  dsimp only at gB hs ok
  have nx := rx_next ok
  rw [← ha g hg gB hs] at nx
  obtain ⟨q, hq⟩ : ∃ q, (s - (a * (g * C) - g * A) * (a * (g * C) - g * A)) = q * (g * C) := by
    obtain ⟨q0, h0⟩ := ok.dv
    refine ⟨q0 - a * (a * (g * C) - 2 * (g * A)), ?_⟩
    have : s - (a * (g * C) - g * A) * (a * (g * C) - g * A) = (s - g * A * (g * A)) - (a * (a * (g * C) - 2 * (g * A))) * (g * C) := by grind
    rw [this, h0]
    grind
  rw [hq, Int.mul_fdiv_cancel _ ok.nz] at nx
  have k1 : C * (a * (g * C) - g * A) = (-g * h) * A3 := by
    have : C * (a * (g * C) - g * A) = -g * (C * (A - a * C)) := by grind
    rw [this, e1]
    grind
  have k2 : C * (g * B) = (-g * h) * B3 := by
    have : C * (g * B) = -g * -(C * B) := by grind
    rw [this, e2]
    grind
  have k3 : C * q = (-g * h) * C3 := by
    have z : (C * q - (-g * h) * C3) * g = 0 := by
      have w1 : q * (g * C) = g * g * (d * B * B - (A - a * C) * (A - a * C)) := by
        rw [← hq, hs]
        grind
      have w2 : d * B * B - (A - a * C) * (A - a * C) = -(h * C3) := by omega
      rw [w2] at w1
      have w3 : ∀ C q g h C3 : Int, (C * q - (-g * h) * C3) * g = q * (g * C) - g * g * -(h * C3) := by intros; grind
      rw [w3, w1]
      omega
    rcases Int.mul_eq_zero.mp z with y | y
    · omega
    · exact absurd y hg
  obtain ⟨g', hg'⟩ := prim_dvd hp (show C ∣ (-g * h) * A3 from ⟨_, k1.symm⟩) (show C ∣ (-g * h) * B3 from ⟨_, k2.symm⟩) (show C ∣ (-g * h) * C3 from ⟨_, k3.symm⟩)
  rw [hg'] at k1 k2 k3
  have cc : ∀ {x y : Int}, C * x = C * g' * y → x = g' * y := fun {x y} z => Int.eq_of_mul_eq_mul_left (show C ≠ 0 by omega) (by rw [z, Int.mul_assoc])
  have r1 := cc k1
  have r2 := cc k2
  have r3 := cc k3
  refine ⟨g', ?_, ?_, ?_, ?_⟩
  · intro z
    rw [z, Int.zero_mul] at r2
    omega
  · show 0 < g' * B3
    rw [← r2]
    exact gB
  · show s = g' * B3 * (g' * B3) * d
    rw [← r2]
    exact hs
  · show RX X (g' * A3) s (g' * C3) r
    rw [← r1, ← r3]
    exact nx
/-- one over what is left, as whole numbers -/
theorem next_tri {d q : Int} {x y : Tri} (hC : 0 < x.2.2) (ns : NonSq d) (h : qquot d (1, 0, 1) (qsum x (q, 0, 1) (-1)) = some y) :
    ∃ m, x.2.2 * (x.1 - q * x.2.2) = m * y.1 ∧ -(x.2.2 * x.2.1) = m * y.2.1 ∧ (x.1 - q * x.2.2) * (x.1 - q * x.2.2) - d * x.2.1 * x.2.1 = m * y.2.2 ∧ 0 < y.2.2 ∧ Prim y.1 y.2.1 y.2.2 := by
  obtain ⟨A, B, C⟩ := x
  dsimp only at hC ⊢
  unfold qquot at h
  split at h
  · cases h
  · rename_i n0
    have h := Option.some.inj h
    subst h
    obtain ⟨g1, n1, _, a1, a2, a3, a4, _⟩ := qmade_spec (a := A * 1 + -1 * q * C) (b := B * 1 + -1 * 0 * C) (c := C * 1) (by omega)
    have hy : qsum (A, B, C) (q, 0, 1) (-1) = qmade (A * 1 + -1 * q * C) (B * 1 + -1 * 0 * C) (C * 1) := rfl
    rw [hy] at n0 ⊢
    generalize qmade (A * 1 + -1 * q * C) (B * 1 + -1 * 0 * C) (C * 1) = y at *
    obtain ⟨y1, y2, y3⟩ := y
    dsimp only at a1 a2 a3 a4 n0
    have nd : y1 * y1 - d * y2 * y2 ≠ 0 := fun z => n0 (ns _ _ z)
    obtain ⟨g2, n2, _, b1, b2, b3, b4, _⟩ := qmade_spec (a := y3 * y1) (b := 0 - y3 * y2) (c := y1 * y1 - d * y2 * y2) nd
    have hz : qinv d (y1, y2, y3) = qmade (y3 * y1) (0 - y3 * y2) (y1 * y1 - d * y2 * y2) := rfl
    rw [hz]
    generalize qmade (y3 * y1) (0 - y3 * y2) (y1 * y1 - d * y2 * y2) = z at *
    obtain ⟨z1, z2, z3⟩ := z
    dsimp only at b1 b2 b3 b4
    obtain ⟨g3, n3, _, c1, c2, c3, c4, c5⟩ := qmade_spec (a := 1 * z1 + d * 0 * z2) (b := 1 * z2 + 0 * z1) (c := 1 * z3) (by omega)
    have ht : qprod d (1, 0, 1) (z1, z2, z3) = qmade (1 * z1 + d * 0 * z2) (1 * z2 + 0 * z1) (1 * z3) := rfl
    rw [ht]
    generalize qmade (1 * z1 + d * 0 * z2) (1 * z2 + 0 * z1) (1 * z3) = t at *
    obtain ⟨t1, t2, t3⟩ := t
    dsimp only at c1 c2 c3 c4 c5 ⊢
    have e1 : A - q * C = g1 * y1 := by rw [← a1]; grind
    have e2 : B = g1 * y2 := by rw [← a2]; grind
    have e3 : C = g1 * y3 := by rw [← a3]; grind
    have f1 : z1 = g3 * t1 := by rw [← c1]; grind
    have f2 : z2 = g3 * t2 := by rw [← c2]; grind
    have f3 : z3 = g3 * t3 := by rw [← c3]; grind
    refine ⟨g1 * g1 * g2 * g3, ?_, ?_, ?_, c4, c5⟩
    · rw [e1, e3]
      have : g1 * y3 * (g1 * y1) = g1 * g1 * (y3 * y1) := by grind
      rw [this, b1, f1]
      grind
    · rw [e2, e3]
      have : -(g1 * y3 * (g1 * y2)) = g1 * g1 * (0 - y3 * y2) := by grind
      rw [this, b2, f2]
      grind
    · rw [e1, e2]
      have : g1 * y1 * (g1 * y1) - d * (g1 * y2) * (g1 * y2) = g1 * g1 * (y1 * y1 - d * y2 * y2) := by grind
      rw [this, b3, f3]
      grind
/-- a triple that stays within N bits, whatever is told -/
def DX (d : Int) (N : Nat) (x : Tri) : Prop := 0 < x.2.2 ∧ ((x.2.1 = 0 ∧ tb N x) ∨ ∃ X s r, QX d X s r x ∧ 2 * r + 1 + X < 2 ^ N)
theorem DX.tb {d : Int} {N : Nat} {x : Tri} (hd : 0 < d) (h : DX d N x) : tb N x := by
  obtain ⟨hC, ⟨_, h⟩ | ⟨X, s, r, ⟨g, hg, gB, hs, R⟩, hX⟩⟩ := h
  · exact h
  · have r0 := R.rt.1
    have x0 := R.x0
    have e2 : ((2 ^ N : Nat) : Int) = 2 ^ N := by norm_cast
    have small : ∀ z : Int, -(2 * r + 1 + X) ≤ z → z ≤ 2 * r + 1 + X → bd N z := fun z h1 h2 => by
      show z.natAbs < 2 ^ N
      omega
    have hgB : g * x.2.1 ≤ r := root_max R.rt (by
      rw [hs]
      have := Int.mul_le_mul_of_nonneg_left (show 1 ≤ d from hd) (sq_nonneg (g * x.2.1))
      omega)
    refine ⟨(small (g * x.1) ?_ ?_).of_dvd rfl hg, (small (g * x.2.1) (by omega) (by omega)).of_dvd rfl hg, (small (g * x.2.2) ?_ ?_).of_dvd rfl hg, hC⟩
    · have := R.tl; omega
    · have := R.th; omega
    · rcases Int.lt_or_gt_of_ne R.nz with z | z
      · have := R.bn z; omega
      · omega
    · rcases Int.lt_or_gt_of_ne R.nz with z | z
      · omega
      · exact R.bp z
theorem DX.next {d r' : Int} {N : Nat} {x y : Tri} (ns : NonSq d) (hx : DX d N x) (hr : IsRoot (x.2.1 * x.2.1 * d) r') (h : qquot d (1, 0, 1) (qsum x (qbelow x.1 x.2.1 x.2.2 d r', 0, 1) (-1)) = some y) : DX d N y := by
  obtain ⟨A, B, C⟩ := x
  obtain ⟨hC, hx⟩ := hx
  obtain ⟨m, e1, e2, e3, y0, yp⟩ := next_tri hC ns h
  obtain ⟨A3, B3, C3⟩ := y
  dsimp only at *
  refine ⟨y0, ?_⟩
  rcases hx with ⟨z, b1, b2, b3, b4⟩ | ⟨X, s, r, R, hX⟩
  · left
    subst z
    dsimp only at b1 b2 b3 b4
    have eq : qbelow A 0 C d r' = A.fdiv C := by
      have e0 : (0 : Int) * 0 * d = 0 := by grind
      rw [e0] at hr
      have r0 : r' = 0 := hr.unique ⟨by decide, by decide, by decide⟩
      unfold qbelow qroot
      rw [if_neg (by decide), r0, Int.add_zero]
    rw [eq] at e1 e3
    by_cases hu : A - A.fdiv C * C = 0
    · exfalso
      rw [hu] at e1 e3
      have q1 : m * C3 = 0 := by rw [← e3]; grind
      have q2 : m ≠ 0 := fun z => by
        unfold qquot at h
        split at h
        · cases h
        · rename_i n0
          refine n0 ?_
          obtain ⟨g1, n1, _, a1, a2, a3, a4, _⟩ := qmade_spec (a := A * 1 + -1 * qbelow A 0 C d r' * C) (b := 0 * 1 + -1 * 0 * C) (c := C * 1) (by omega)
          have c1 : g1 * (qmade (A * 1 + -1 * qbelow A 0 C d r' * C) (0 * 1 + -1 * 0 * C) (C * 1)).1 = 0 := by rw [← a1, eq]; grind
          have c2 : g1 * (qmade (A * 1 + -1 * qbelow A 0 C d r' * C) (0 * 1 + -1 * 0 * C) (C * 1)).2.1 = 0 := by rw [← a2]; grind
          exact ⟨(Int.mul_eq_zero.mp c1).elim (fun z => absurd z n1) id, (Int.mul_eq_zero.mp c2).elim (fun z => absurd z n1) id⟩
      rcases Int.mul_eq_zero.mp q1 with w | w <;> omega
    · have Q : QRel d A 0 C (.frac A C) := ⟨rfl, 1, by decide, by omega, by omega⟩
      obtain ⟨w, g, hg, t1, t2⟩ := qrel_next_frac (B := 0) Q hC yp e1 e2 e3 y0 hu
      have mm := fmod_pos (a := A) hC
      refine ⟨w, b3.of_dvd t1 hg, w ▸ bd0, ?_, y0⟩
      refine bd.of_dvd (a := A.fmod C) ?_ t2 hg
      show (A.fmod C).natAbs < 2 ^ N
      have b3 : C.natAbs < 2 ^ N := b3
      omega
  · right
    refine ⟨X, s, r, qx_next R hC (fun g hg gB hs => ?_) yp e1 e2 e3, hX⟩
    obtain ⟨_, _, _, _, ok⟩ := R
    exact qfloor hg hC gB (hs ▸ ok.rt) (hs ▸ ok.ns) hr
theorem IsRoot.exists {n : Int} (h : 0 ≤ n) : ∃ r, IsRoot n r := by
  have key : ∀ k : Nat, ∃ r : Nat, r * r ≤ k ∧ k < (r + 1) * (r + 1) := fun k => by
    induction k with
    | zero => exact ⟨0, by decide, by decide⟩
    | succ k ih =>
      obtain ⟨r, h1, h2⟩ := ih
      by_cases c : k + 1 < (r + 1) * (r + 1)
      · exact ⟨r, by omega, c⟩
      · refine ⟨r + 1, by omega, ?_⟩
        have : (r + 1 + 1) * (r + 1 + 1) = (r + 1) * (r + 1) + 2 * r + 3 := by grind
        omega
  obtain ⟨r, h1, h2⟩ := key n.toNat
  refine ⟨r, by omega, ?_, ?_⟩
  · have : ((r * r : Nat) : Int) ≤ (n.toNat : Int) := by exact_mod_cast h1
    rw [Int.natCast_mul] at this
    omega
  · have : ((n.toNat : Nat) : Int) < (((r + 1) * (r + 1) : Nat) : Int) := by exact_mod_cast h2
    rw [Int.natCast_mul, Int.natCast_add] at this
    have e : ((1 : Nat) : Int) = 1 := rfl
    rw [e] at this
    omega
theorem DX.start {d : Int} {n : Nat} {x : Tri} (hd : 0 < d) (ns : NonSq d) (bdd : bd 10 d) (h : Cp.tb n x) : DX d (2 * n + 13) x := by
  obtain ⟨A, B, C⟩ := x
  obtain ⟨b1, b2, b3, hC⟩ := h
  dsimp only at b1 b2 b3 hC
  refine ⟨hC, ?_⟩
  by_cases hB : B = 0
  · exact .inl ⟨hB, b1.mono (by omega), b2.mono (by omega), b3.mono (by omega), hC⟩
  · right
    obtain ⟨g, hg, gB, gC⟩ : ∃ g, g ≠ 0 ∧ 0 < g * B ∧ (g = C ∨ g = -C) := by
      rcases Int.lt_or_gt_of_ne hB with z | z
      · refine ⟨-C, by omega, ?_, .inr rfl⟩
        have := Int.mul_pos hC (show 0 < -B by omega)
        have e : -C * B = C * -B := by grind
        omega
      · exact ⟨C, by omega, Int.mul_pos hC z, .inl rfl⟩
    have bg : bd n g := by
      rcases gC with rfl | rfl
      · exact b3
      · exact b3.neg
    have s0 : 0 ≤ g * B * (g * B) * d := Int.mul_nonneg (sq_nonneg _) (by omega)
    obtain ⟨r, hr⟩ := IsRoot.exists s0
    have bX : bd (n + n) (g * A) := bg.mul b1
    have bY : bd (n + n) (g * C) := bg.mul b3
    have e2 : ((2 ^ (n + n) : Nat) : Int) = 2 ^ (n + n) := by norm_cast
    refine ⟨2 ^ (n + n), _, r, ⟨g, hg, gB, rfl, hr, fun z => ?_, ?_, ?_, ?_, fun z => ?_, fun z => ?_, ?_, ?_⟩, ?_⟩
    · have := ns r (g * B) (by rw [z]; grind)
      omega
    · exact fun z => (Int.mul_eq_zero.mp z).elim hg (fun (w : C = 0) => by omega)
    · rcases gC with rfl | rfl
      · exact ⟨g * B * B * d - g * A * A |>.fdiv g |> fun _ => (B * B * d - A * A), by dsimp only; grind⟩
      · exact ⟨-(B * B * d - A * A), by dsimp only; grind⟩
    · exact Int.le_of_lt (Int.pow_pos (by decide))
    · have : (g * C).natAbs < 2 ^ (n + n) := bY
      show -(g * C) ≤ 2 ^ (n + n)
      omega
    · have : (g * C).natAbs < 2 ^ (n + n) := bY
      have := hr.1
      show g * C ≤ 2 * r + 1 + 2 ^ (n + n)
      omega
    · have : (g * A).natAbs < 2 ^ (n + n) := bX
      have := hr.1
      show -(r + 2 ^ (n + n)) ≤ g * A
      omega
    · have : (g * A).natAbs < 2 ^ (n + n) := bX
      have := hr.1
      show g * A ≤ r + 2 ^ (n + n)
      omega
    · have bs : bd (n + n + (n + n) + 10) (g * B * (g * B) * d) := ((bg.mul b2).mul (bg.mul b2)).mul bdd
      have k : r < 2 ^ (n + n + 5) := lt_of_sq (k := n + n + 5) hr.1 hr.2.1 (by
        have z : (g * B * (g * B) * d).natAbs < 2 ^ (n + n + (n + n) + 10) := bs
        have e3 : ((2 ^ (n + n + (n + n) + 10) : Nat) : Int) = 2 ^ (n + n + (n + n) + 10) := by norm_cast
        rw [show n + n + 5 + (n + n + 5) = n + n + (n + n) + 10 by omega]
        omega)
      have p1 : (2 : Int) ^ (n + n + 5) = 2 ^ (n + n) * 32 := by rw [Int.pow_add]; rfl
      have p2 : (2 : Int) ^ (2 * n + 13) = 2 ^ (n + n) * 8192 := by rw [show 2 * n + 13 = n + n + 13 by omega, Int.pow_add]; rfl
      have p0 : (0 : Int) < 2 ^ (n + n) := Int.pow_pos (by decide)
      rw [p2]
      generalize (2 : Int) ^ (n + n) = Z at *
      omega
/-! ### the laws' `_law_root`, `_law_below`, `_law_parts` of great triples -/
theorem root_bd {n r : Int} {k : Nat} (hr : IsRoot n r) (h : bd (k + k) n) : bd k r := by
  refine natAbs_lt_pow hr.1 (lt_of_sq (k := k) hr.1 hr.2.1 ?_)
  have z : n.natAbs < 2 ^ (k + k) := h
  have e2 : ((2 ^ (k + k) : Nat) : Int) = 2 ^ (k + k) := by norm_cast
  omega
theorem qb_bd {N : Nat} {d r' : Int} {x : Tri} (h : tb N x) (hd : bd 10 d) (hr : IsRoot (x.2.1 * x.2.1 * d) r') : bd (N + 5) r' ∧ bd (N + 7) (qbelow x.1 x.2.1 x.2.2 d r') := by
  obtain ⟨b1, b2, b3, hC⟩ := h
  have br : bd (N + 5) r' := root_bd hr (((b2.mul b2).mul hd).mono (by omega))
  refine ⟨br, ?_⟩
  have bq : bd (N + 6) (qroot x.2.1 d r') := by
    have z : r'.natAbs < 2 ^ (N + 5) := br
    have p : 2 ^ (N + 6) = 2 ^ (N + 5) * 2 := Nat.pow_succ ..
    have p0 : 0 < 2 ^ (N + 5) := Nat.pow_pos (by decide)
    show (qroot x.2.1 d r').natAbs < 2 ^ (N + 6)
    rw [p]
    generalize 2 ^ (N + 5) = Z at *
    have r0 := hr.1
    unfold qroot
    split
    · split <;> omega
    · omega
  exact Nat.lt_of_le_of_lt (fdiv_abs (by omega)) ((b1.mono (show N ≤ N + 6 by omega)).add bq)
/-- the parts, as the laws reckon them -/
inductive Due (d : Int) : Option Tri → Nat → List Int → Prop
  | out {o} : Due d o 0 []
  | none {n} : Due d none n []
  | part {x n r ps} : IsRoot (x.2.1 * x.2.1 * d) r → Due d (qquot d (1, 0, 1) (qsum x (qbelow x.1 x.2.1 x.2.2 d r, 0, 1) (-1))) n ps → Due d (some x) (n + 1) (qbelow x.1 x.2.1 x.2.2 d r :: ps)
section
variable {P : Program} [NoTree P] {w : World} {K : PySem.W.Frag} {mg : Str → Option Value} {base : Heap} {A : Ad}
def sp_qroot : Sp := fun vs H Q _ => ∃ (n : Int) (M : Nat), vs = [.int n] ∧ 0 ≤ n ∧ bd M n ∧ M ≤ 1999990 ∧ ∀ r, IsRoot n r → Q (.int r) H
theorem ok_qroot (D : DT K mg A) : COk P w K mg base CX0 1 "_law_root" ["_law_number"] sp_qroot := by
  refine COk.by D.law_root fun f fd F => ?_
  refine F.ok sc_law_root (fun vs H Q E h => ?_) (fun cdv Ar outer s H vs Q E hr h => ?_)
  · obtain ⟨n, M, rfl, _⟩ := h
    rfl
  · obtain ⟨n, M, rfl, h0, hw, hM, k⟩ := h
    refine ⟨_, (pss_cons (ps_set (i := 1) sc_law_root.nd rfl (Or.inl rfl) pe_int)
    (pss_cons (ps_set (i := 2) sc_law_root.nd rfl (Or.inl rfl) (pe_op op_shl pe_int (pe_op op_add (pe_op op_fdiv (pe_bits (pv 0)) pe_int) pe_int)))
    (pss_cons (ps_while PassesOwn.never (pt_cmpR op_gt (pe_op op_sub (pv 2) (pv 1)) pe_int (nomark _))
      (pss_cons (ps_set (i := 3) sc_law_root.nd rfl (Or.inl rfl) (pe_op op_fdiv (pe_op op_add (pv 1) (pv 2)) pe_int))
    (pss_one (ps_if (pt_cmpR op_le (pe_op op_mulW (pv 3) (pv 3)) (pv 0) (nomark _))
      (pss_one (ps_set (i := 1) sc_law_root.nd rfl (Or.inl rfl) (pv 3))) (pss_one (ps_set (i := 2) sc_law_root.nd rfl (Or.inl rfl) (pv 3)))))))
    (pss_one (ps_ret (pv 1)))))), ?_⟩
    have hbits : Builtin.Int.intBits n ≤ M := PyProof.Rows.intBits_le hw
    obtain ⟨W, hW⟩ : ∃ W : Nat, W = 1000000 := ⟨_, rfl⟩
    have hb : n < (2 : Int) ^ Builtin.Int.intBits n := by
      unfold Builtin.Int.intBits
      split
      · rename_i z
        have : n = 0 := by simpa using z
        subst this
        decide
      · have := Nat.lt_log2_self (n := n.natAbs)
        have e : ((2 ^ (n.natAbs.log2 + 1) : Nat) : Int) = 2 ^ (n.natAbs.log2 + 1) := by norm_cast
        omega
    refine ⟨_, rfl, _, rfl, _, _, rfl, rfl, ⟨by decide, by decide⟩, _, _, rfl, rfl, _, _, rfl, rfl, ⟨by omega, by omega, by decide⟩, ?_⟩
    have e0 : ((Builtin.Int.intBits n : Nat) : Int) / 2 + 1 = ((Builtin.Int.intBits n / 2 + 1 : Nat) : Int) := by omega
    have e1 : (1 : Int) * 2 ^ (((Builtin.Int.intBits n : Nat) : Int) / 2 + 1).toNat = 2 ^ (Builtin.Int.intBits n / 2 + 1) := by rw [e0, Int.toNat_natCast, Int.one_mul]
    show tSeq _ _ _ [some (V.int n), some (V.int 0), some (V.int ((1 : Int) * 2 ^ (((Builtin.Int.intBits n : Nat) : Int) / 2 + 1).toNat)), none] H
    rw [e1]
    generalize Builtin.Int.intBits n = m at *
    have hsq : n < (2 : Int) ^ (m / 2 + 1) * 2 ^ (m / 2 + 1) := by
      rw [← Int.pow_add]
      have z := Nat.pow_le_pow_right (n := 2) (by decide) (show m ≤ m / 2 + 1 + (m / 2 + 1) by omega)
      have z2 : (2 : Int) ^ m ≤ 2 ^ (m / 2 + 1 + (m / 2 + 1)) := by exact_mod_cast z
      omega
    have hpos : (0 : Int) < 2 ^ (m / 2 + 1) := Int.pow_pos (by decide)
    have hbig : (2 : Int) ^ (m / 2 + 1) < 2 ^ W := Int.pow_lt_pow_of_lt (by decide) (by omega)
    generalize (2 : Int) ^ (m / 2 + 1) = hi at *
    refine while_by (fun σ H2 => ∃ (lo hi : Int) (v : Option V), σ = [some (.int n), some (.int lo), some (.int hi), v] ∧ 0 ≤ lo ∧ lo < hi ∧ hi < 2 ^ W ∧ lo * lo ≤ n ∧ n < hi * hi ∧ H2 = H)
      (fun σ _ => match σ with | [_, some (.int lo), some (.int hi), _] => (hi - lo).toNat | _ => 0) ⟨0, hi, none, rfl, by decide, hpos, hbig, by omega, hsq, rfl⟩ ?_ ?_
    · rintro σ H2 ⟨lo, hi, v, rfl, l0, lh, hb2, l1, h1, rfl⟩
      refine ⟨_, rfl, _, rfl, _, _, rfl, rfl, _, _, rfl, rfl, _, rfl, ite2 (fun c => ?_) (fun c => ?_)⟩
      · have c' : 1 < hi - lo := of_decide_eq_true c
        have mid0 : 0 ≤ (lo + hi) / 2 := by omega
        have midb : (lo + hi) / 2 < 2 ^ W := by omega
        have cm : CMulW ((lo + hi) / 2) ((lo + hi) / 2) := wide_mul (a := W) (b := W) (natAbs_lt_pow mid0 midb) (natAbs_lt_pow mid0 midb) (by omega) (by omega) (by omega)
        refine ⟨_, rfl, _, rfl, _, _, rfl, rfl, _, _, rfl, rfl, ⟨by decide, by decide⟩, ?_⟩
        refine ⟨_, rfl, _, rfl, _, _, rfl, rfl, cm, _, rfl, _, _, rfl, rfl, _, rfl, ite2 (fun c2 => ?_) (fun c2 => ?_)⟩
        · have c2' : (lo + hi) / 2 * ((lo + hi) / 2) ≤ n := of_decide_eq_true c2
          exact ⟨_, rfl, ⟨_, _, _, rfl, mid0, by omega, hb2, c2', h1, rfl⟩, by show (hi - (lo + hi) / 2).toNat < (hi - lo).toNat; omega⟩
        · have c2' : ¬ (lo + hi) / 2 * ((lo + hi) / 2) ≤ n := fun z => c2 (decide_eq_true z)
          exact ⟨_, rfl, ⟨_, _, _, rfl, l0, by omega, midb, l1, by omega, rfl⟩, by show ((lo + hi) / 2 - lo).toNat < (hi - lo).toNat; omega⟩
      · have c' : ¬ 1 < hi - lo := fun z => c (decide_eq_true z)
        have e : hi = lo + 1 := by omega
        subst e
        exact ⟨_, rfl, k lo ⟨l0, l1, h1⟩⟩
    · intro σ H2 Q1 Q2 im hq
      obtain ⟨x, e, y, e2, i, j, e3, e4, i2, j2, e5, e6, b, e7, z⟩ := hq
      exact ⟨x, e, y, e2, i, j, e3, e4, i2, j2, e5, e6, b, e7, im _ _ z⟩
def sp_qbelow (K : PySem.W.Frag) : Sp := fun vs H Q _ => ∃ (p : Addr) (x : Tri) (d : Int), vs = [.ref p, .int d] ∧ N3 K H p x ∧ tb 730000 x ∧ 0 ≤ d ∧ bd 10 d ∧ ∀ r', IsRoot (x.2.1 * x.2.1 * d) r' → Q (.int (qbelow x.1 x.2.1 x.2.2 d r')) H
theorem ok_qbelow (T : CT K mg A) (D : DT K mg A) : COk P w K mg base CX0 36 "_law_below" ["_law_one", "_law_d"] (sp_qbelow K) := by
  have G_law_root := ok_qroot (P := P) (w := w) (base := base) D
  refine COk.by D.law_below fun f fd F => ?_
  refine F.ok (k := 35) sc_law_below (fun vs H Q E h => ?_) (fun cdv Ar outer s H vs Q E hr h => ?_)
  · obtain ⟨p, x, d, rfl, _⟩ := h
    rfl
  · obtain ⟨p, ⟨a, b, c⟩, d, rfl, hp, htb, hd, hz, k⟩ := h
    refine ⟨_, (pss_cons (ps_set (i := 2) sc_law_below.nd rfl (Or.inl rfl) (pe_op op_mulW (pe_op op_mulW (pe_ix ix_tup (pv 0) pe_int (fun _ _ => rfl)) (pe_ix ix_tup (pv 0) pe_int (fun _ _ => rfl))) (pv 1)))
    (pss_cons (ps_set (i := 3) sc_law_below.nd rfl (Or.inl rfl) (pe_c G_law_root (hr.mono (by first | decide | omega)) (pa_cons (pv 2) pa_nil)))
    (C8.pss_cut (ps_if (pt_cmpR op_lt (pe_ix ix_tup (pv 0) pe_int (fun _ _ => rfl)) pe_int (nomark _))
      (pss_one (ps_set (i := 3) sc_law_below.nd rfl (Or.inl rfl) (pe_op op_sub (pe_op op_sub pe_int (pv 3)) (pe_callTy call_int1 (by rfl) T.b_int (by decide +kernel) (pa_cons (pe_cmpR op_lt (pe_op op_mulW (pv 3) (pv 3)) (pv 2) (nomark _)) pa_nil))))) pss_nil)
    (pss_one (ps_ret (pe_op (op_fdivM T.seer (NoTree.tree (P := P)) hr (by first | decide | omega) rfl rfl rfl) (pe_op op_add (pe_ix ix_tup (pv 0) pe_int (fun _ _ => rfl)) (pv 3)) (pe_ix ix_tup (pv 0) pe_int (fun _ _ => rfl)))))))), ?_⟩
    have qbb := fun r' h => (qb_bd (r' := r') htb hz h).1
    obtain ⟨x0, x1, x2, hc⟩ := htb
    dsimp only at x0 x1 x2 hc k qbb
    have n0 : 0 ≤ b * b * d := Int.mul_nonneg (sq_nonneg b) hd
    have nb : bd (730000 + 730000 + 10) (b * b * d) := (x1.mul x1).mul hz
    refine ⟨_, rfl, p, _, 1, _, rfl, rfl, hp, atI_nat (j := 1) rfl, _, rfl, p, _, 1, _, rfl, rfl, hp, atI_nat (j := 1) rfl, _, _, rfl, rfl, x1.cm x1 (by decide) (by decide) (by decide), _, rfl, _, _, rfl, rfl, (x1.mul x1).cm hz (by decide) (by decide) (by decide), ?_⟩
    refine ⟨_, rfl, _, _, rfl, n0, nb, by decide, fun r' hr' => ?_⟩
    have br : bd 730005 r' := qbb r' hr'
    have hk := k r' hr'
    refine ⟨fun σ H2 => σ = [some (.ref p), some (.int d), some (.int (b * b * d)), some (.int (qroot b d r'))] ∧ H2 = H, ?_, ?_⟩
    · refine ⟨_, rfl, p, _, 1, _, rfl, rfl, hp, atI_nat (j := 1) rfl, _, _, rfl, rfl, _, rfl, ite2 (fun cc => ?_) (fun cc => ?_)⟩
      · have c' : b < 0 := of_decide_eq_true cc
        refine ⟨_, rfl, _, _, rfl, rfl, _, rfl, _, rfl, _, _, rfl, rfl, br.cm br (by decide) (by decide) (by decide), _, rfl, _, _, rfl, rfl, .inr ⟨_, rfl, _, _, rfl, rfl, ?_, rfl⟩⟩
        show [some (V.ref p), some (V.int d), some (V.int (b * b * d)), some (V.int (0 - r' - (if decide (r' * r' < b * b * d) = true then 1 else 0)))] = _
        unfold qroot
        rw [if_pos c']
        by_cases y : r' * r' < b * b * d
        · rw [decide_eq_true y, if_pos rfl, if_pos y]
        · rw [decide_eq_false y, if_neg (by decide), if_neg y]
      · have c' : ¬ b < 0 := fun z => cc (decide_eq_true z)
        refine ⟨?_, rfl⟩
        unfold qroot
        rw [if_neg c']
        rfl
    · rintro σ H2 ⟨rfl, rfl⟩
      refine ⟨_, rfl, p, _, 0, _, rfl, rfl, hp, atI_nat (j := 0) rfl, _, rfl, _, _, rfl, rfl, _, rfl, p, _, 2, _, rfl, rfl, hp, atI_nat (j := 2) rfl, _, _, rfl, rfl, (show c ≠ 0 by omega), hk⟩
def sp_qparts (K : PySem.W.Frag) : Sp := fun vs H Q _ => ∃ (p : Addr) (x : Tri) (d : Int) (many N : Nat), vs = [.ref p, .int d, .int many] ∧ N3 K H p x ∧ DX d N x ∧ N ≤ 730000 ∧ 0 < d ∧ bd 10 d ∧ NonSq d ∧ many ≤ 1000 ∧
  ∀ l H' ps, Due d (some x) many ps → Same H H' → H l = none → H' l = some (.lst (ps.map V.int)) → Q (.ref l) H'
theorem ok_qparts (T : CT K mg A) (D : DT K mg A) (G_law_sum : COk P w K mg base CX0 37 "_law_sum" ["_law_one", "_law_other", "_law_by"] (sp_qsum K)) (G_law_quotient : COk P w K mg base CX0 38 "_law_quotient" ["_law_one", "_law_other", "_law_d"] (sp_qquot K)) : COk P w K mg base CX0 39 "_law_parts" ["_law_one", "_law_d", "_law_many"] (sp_qparts K) := by
  have G_law_below := ok_qbelow (P := P) (w := w) (base := base) T D
  refine COk.by D.law_parts fun f fd F => ?_
  refine F.ok (k := 38) sc_law_parts (fun vs H Q E h => ?_) (fun cdv Ar outer s H vs Q E hr h => ?_)
  · obtain ⟨p, x, d, many, N, rfl, _⟩ := h
    rfl
  · obtain ⟨p0, x0, d, many, N, rfl, hp0, hx0, hN, d0, bdd, ns, hm, k⟩ := h
    refine ⟨_, (pss_cons (ps_set (i := 3) sc_law_parts.nd rfl (Or.inl rfl) (pe_lst pa_nil))
    (pss_cons (ps_while PassesOwn.never (PW.pt (pw_and (pt_cmpR op_notN (pv 0) pe_non (nomark _)) (pw_and1 (pt_cmpR op_lt (pe_callB call_len_seq (by rfl) T.b_len (by decide +kernel) (pa_cons (pv 3) pa_nil)) (pv 2) (nomark _)))))
      (pss_cons (ps_set (i := 4) sc_law_parts.nd rfl (Or.inl rfl) (pe_c G_law_below (hr.mono (by first | decide | omega)) (pa_cons (pv 0) (pa_cons (pv 1) pa_nil))))
    (pss_cons (ps_expr (pe_bm PySem.F.plainAttrs_list PySem.F.slot_list_append PySem.F.type_list_append mt_append (pv 3) (pa_cons (pv 4) pa_nil)))
    (pss_one (ps_set (i := 0) sc_law_parts.nd rfl (Or.inl rfl) (pe_c G_law_quotient (hr.mono (by first | decide | omega)) (pa_cons (pe_tup (pa_cons pe_int (pa_cons pe_int (pa_cons pe_int pa_nil)))) (pa_cons (pe_c G_law_sum (hr.mono (by first | decide | omega)) (pa_cons (pv 0) (pa_cons (pe_tup (pa_cons (pv 4) (pa_cons pe_int (pa_cons pe_int pa_nil)))) (pa_cons (pe_un un_neg pe_int) pa_nil)))) (pa_cons (pv 1) pa_nil)))))))))
    (pss_one (ps_ret (pv 3))))), ?_⟩
    refine ⟨Nat.zero_le _, fun l nl => ?_⟩
    have s0 := same_upd (o := .lst []) nl
    refine while_by (fun σ H2 => ∃ (v1 : V) (acc : List Int) (o : Option Tri) (v4 : Option V), σ = [some v1, some (.int d), some (.int many), some (.ref l), v4] ∧ acc.length ≤ many ∧ (∀ ps, Due d o (many - acc.length) ps → Due d (some x0) many (acc ++ ps)) ∧ Same H H2 ∧ H2 l = some (.lst (acc.map V.int)) ∧ (∀ x, o = some x → DX d N x) ∧ VAt K H2 v1 o)
      (fun _ H2 => match H2 l with | some (.lst xs) => many - xs.length | _ => 0) ⟨_, [], some x0, none, rfl, Nat.zero_le _, fun ps h => h, s0, upd_same, fun x e => Option.some.inj e ▸ hx0, ⟨p0, rfl, sqT_same hp0 s0⟩⟩ ?_ ?_
    · rintro σ H2 ⟨v1, acc, o, v4, rfl, hal, pre, sH, hl2, hdx, hv⟩
      have hlen : (acc.map V.int).length = acc.length := List.length_map _
      have done : Due d o (many - acc.length) [] → tRet (tVar 3) { nx := fun _ H' => Q .non H', rt := Q } [some v1, some (.int d), some (.int many), some (.ref l), v4] H2 := fun e => by
        have z := pre [] e
        rw [List.append_nil] at z
        exact ⟨_, rfl, k l H2 acc z sH nl hl2⟩
      cases o with
      | none =>
        cases hv
        refine ⟨_, rfl, rfl, _, rfl, ?_⟩
        exact iteF (iteF (done .none))
      | some x =>
        obtain ⟨p, rfl, hp⟩ := hv
        have dx := hdx x rfl
        have tbx : tb 730000 x := (dx.tb d0).mono hN
        refine ⟨_, rfl, rfl, _, rfl, iteT ⟨_, rfl, l, _, rfl, .inl (SqL.of hl2), _, rfl, _, _, rfl, rfl, _, rfl, ?_⟩⟩
        rw [hlen]
        by_cases cm : acc.length < many
        · rw [decide_eq_true (by omega)]
          refine iteT ?_
          obtain ⟨n, hn⟩ : ∃ n, many - acc.length = n + 1 := ⟨many - acc.length - 1, by omega⟩
          rw [hn] at pre
          -- the part
          refine ⟨_, rfl, _, rfl, p, x, d, rfl, hp, tbx, by omega, bdd, fun r' hr' => ?_⟩
          have bpart := (qb_bd tbx bdd hr').2
          have due := fun ps h => pre _ (Due.part (ps := ps) hr' h)
          have dxn := fun y h => dx.next (y := y) ns hr' h
          generalize qbelow x.1 x.2.1 x.2.2 d r' = pt at *
          refine ⟨_, rfl, .inl ⟨rfl, _, SqL.of hl2⟩, _, rfl, l, _, _, rfl, rfl, hl2, (by rw [hlen]; exact Nat.lt_of_lt_of_le (show acc.length < 1001 by omega) (by decide)), ?_⟩
          have hl3 : ∀ H', H' = upd H2 l (.lst (acc.map V.int ++ [V.int pt])) → H' l = some (.lst ((acc ++ [pt]).map V.int)) := fun H' e => by rw [e, upd_same, List.map_append]; rfl
          have hl3' := hl3 _ rfl
          have sH3 : Same H (upd H2 l (.lst (acc.map V.int ++ [V.int pt]))) := fun b o e => by
            rw [upd_ne (ne_of_none e nl)]
            exact sH b o e
          have hp3 : N3 K (upd H2 l (.lst (acc.map V.int ++ [V.int pt]))) p x := same_list (fun b o e n => by rw [upd_ne n]; exact e) hl2 hp
          generalize upd H2 l (.lst (acc.map V.int ++ [V.int pt])) = H3 at *
          -- one over what is left
          refine ⟨(by show 3 ≤ sizeLine; decide), fun q1 nq1 => ?_⟩
          have s4 := same_upd (o := .tup [V.int 1, .int 0, .int 1]) nq1
          refine ⟨_, rfl, _, rfl, (by show 3 ≤ sizeLine; decide), fun q2 nq2 => ?_⟩
          have s5 := same_upd (o := .tup [V.int pt, .int 0, .int 1]) nq2
          have q1h : N3 K (upd (upd H3 q1 (.tup [V.int 1, .int 0, .int 1])) q2 (.tup [V.int pt, .int 0, .int 1])) q1 (1, 0, 1) := SqT.of (s5 _ _ upd_same)
          have q2h : N3 K (upd (upd H3 q1 (.tup [V.int 1, .int 0, .int 1])) q2 (.tup [V.int pt, .int 0, .int 1])) q2 (pt, 0, 1) := SqT.of upd_same
          have sH5 : Same H (upd (upd H3 q1 (.tup [V.int 1, .int 0, .int 1])) q2 (.tup [V.int pt, .int 0, .int 1])) := (sH3.trans s4).trans s5
          have hl5 := s5 _ _ (s4 _ _ hl3')
          have hp5 : N3 K (upd (upd H3 q1 (.tup [V.int 1, .int 0, .int 1])) q2 (.tup [V.int pt, .int 0, .int 1])) p x := sqT_same (sqT_same hp3 s4) s5
          generalize upd (upd H3 q1 (.tup [V.int 1, .int 0, .int 1])) q2 (.tup [V.int pt, .int 0, .int 1]) = H5 at *
          have b1 : bd 1 (1 : Int) := bd1 (by decide)
          have bm1 : bd 1 (-1 : Int) := bd.neg b1
          have tq : tb 730007 ((pt, 0, 1) : Tri) := ⟨bpart, bd0, b1.mono (by decide), (show (0 : Int) < 1 by decide)⟩
          refine ⟨1, rfl, p, q2, x, (pt, 0, 1), -1, rfl, hp5, q2h, tbx.mono (by decide), tq.mono (by decide), bm1.mono (by decide), fun q3 H6 s6 nq3 q3h => ?_⟩
          refine ⟨_, rfl, q1, q3, (1, 0, 1), qsum x (pt, 0, 1) (-1), d, rfl, sqT_same q1h s6, q3h, tb1.mono (by decide), (tb_sum tbx tq bm1).mono (by decide), bdd.mono (by decide), ns, fun v H7 s7 hv7 => ?_⟩
          have hl7 := s7 _ _ (s6 _ _ hl5)
          refine ⟨⟨v, acc ++ [pt], _, _, rfl, ?_, ?_, (sH5.trans s6).trans s7, hl7, dxn, hv7⟩, ?_⟩
          · rw [List.length_append]
            show acc.length + 1 ≤ many
            omega
          · intro ps h
            rw [List.length_append, show many - (acc.length + [pt].length) = n by show many - (acc.length + 1) = n; omega] at h
            rw [List.append_assoc]
            exact due ps h
          · show (match H7 l with | some (.lst xs) => many - xs.length | _ => 0) < (match H2 l with | some (.lst xs) => many - xs.length | _ => 0)
            rw [hl7, hl2]
            show many - ((acc ++ [pt]).map V.int).length < many - (acc.map V.int).length
            rw [List.length_map, List.length_map, List.length_append]
            show many - (acc.length + 1) < many - acc.length
            omega
        · rw [decide_eq_false (by omega)]
          refine iteF (done ?_)
          rw [show many - acc.length = 0 by omega]
          exact .out
    · intro σ H2 Q1 Q2 im hq2
      obtain ⟨x, e, y, b, eb, rest⟩ := hq2
      refine ⟨x, e, y, b, eb, ?_⟩
      cases b with
      | false => exact im _ _ rest
      | true =>
        obtain ⟨x2, f1, f2, f3, f4, f5, f6, f7, f8, f9, f10, f11, f12, f13, rest2⟩ := rest
        exact ⟨x2, f1, f2, f3, f4, f5, f6, f7, f8, f9, f10, f11, f12, f13, im _ _ rest2⟩
end
/-! ### the parts so reckoned are the number's -/
section
variable {D : Sq}
theorem zd_split (a b : Int) : (⟨a, b⟩ : Zd D) = (a : Zd D) + ⟨0, b⟩ := Zd.ext' (by show a = a + 0; omega) (by show b = 0 + b; omega)
theorem qroot_between {B r : Int} (hr : IsRoot (B * B * D.d) r) : ((qroot B D.d r : Int) : Zd D) ≤ ⟨0, B⟩ ∧ (⟨0, B⟩ : Zd D) < ((qroot B D.d r + 1 : Int) : Zd D) := by
  have ns := D.ok.ns
  rcases Int.lt_trichotomy B 0 with z | z | z
  · have n1 : r * r ≠ B * B * D.d := fun e => by
      have := ns r B (by rw [e]; grind)
      omega
    have lt : r * r < B * B * D.d := by have := hr.2.1; omega
    have e1 : B * B * D.d = D.d * -B * -B := by grind
    obtain ⟨h1, h2⟩ := root_between (D := D) (s := B * B * D.d) (r := r) (g := -B) hr n1 (by omega) e1
    have en : (⟨0, B⟩ : Zd D) = -⟨0, -B⟩ := Zd.ext' (by show (0 : Int) = -0; rfl) (by show B = - -B; omega)
    have eq : qroot B D.d r = -(r + 1) := by
      unfold qroot
      rw [if_pos z, if_pos lt]
      omega
    rw [eq, en]
    constructor
    · rw [Zd.int_neg]
      grind
    · have : -(r + 1) + 1 = -r := by omega
      rw [this, Zd.int_neg]
      grind
  · subst z
    have e0 : (0 : Int) * 0 * D.d = 0 := by grind
    rw [e0] at hr
    have r0 : r = 0 := hr.unique ⟨by decide, by decide, by decide⟩
    subst r0
    have eq : qroot 0 D.d 0 = 0 := by unfold qroot; rw [if_neg (by decide)]
    rw [eq]
    have en : (⟨0, 0⟩ : Zd D) = ((0 : Int) : Zd D) := rfl
    rw [en]
    exact ⟨Zd.int_le (by decide), Zd.int_lt (by decide)⟩
  · have n1 : r * r ≠ B * B * D.d := fun e => by
      have := ns r B (by rw [e]; grind)
      omega
    have e1 : B * B * D.d = D.d * B * B := by grind
    obtain ⟨h1, h2⟩ := root_between (D := D) (s := B * B * D.d) (r := r) (g := B) hr n1 z e1
    have eq : qroot B D.d r = r := by unfold qroot; rw [if_neg (by omega)]
    rw [eq]
    exact ⟨by grind, h2⟩
theorem fl_below {r : Int} {x : Tri} (hC : 0 < x.2.2) (hr : IsRoot (x.2.1 * x.2.1 * D.d) r) : Fl (D := D) 1 (qbelow x.1 x.2.1 x.2.2 D.d r) (zv x) := by
  obtain ⟨A, B, C⟩ := x
  dsimp only at hC hr ⊢
  obtain ⟨h1, h2⟩ := qroot_between (D := D) hr
  unfold qbelow
  generalize qroot B D.d r = ρ at *
  have e := fdm (A + ρ) C
  have m := fmod_pos (a := A + ρ) hC
  generalize (A + ρ).fdiv C = q at *
  have ec : C * q = q * C := Int.mul_comm ..
  have k1 : q * C ≤ A + ρ := by omega
  have k2 : A + ρ + 1 ≤ q * C + C := by omega
  have z1 := Zd.int_le (D := D) k1
  have z2 := Zd.int_le (D := D) k2
  rw [Zd.int_mul, Zd.int_add] at z1
  rw [Zd.int_add, Zd.int_add, Zd.int_add, Zd.int_mul, Zd.int_one] at z2
  rw [Zd.int_add, Zd.int_one] at h2
  have z0 := Zd.int_pos (D := D) hC
  refine ⟨.inl rfl, ?_, ?_, ?_⟩
  · show (0 : Zd D) < ((1 : Int) : Zd D) * (C : Zd D)
    rw [Zd.int_one]
    grind
  · show (q : Zd D) * (((1 : Int) : Zd D) * (C : Zd D)) ≤ ((1 : Int) : Zd D) * ⟨A, B⟩
    rw [Zd.int_one, zd_split A B]
    grind
  · show ((1 : Int) : Zd D) * ⟨A, B⟩ < ((q : Zd D) + 1) * (((1 : Int) : Zd D) * (C : Zd D))
    rw [Zd.int_one, zd_split A B]
    grind
/-- a number, or what is left where nothing is -/
def RelO : Option Tri → Zd D × Zd D → Prop
  | some x, v => 0 < x.2.2 ∧ Pr (zv x) v
  | none, v => v.2 = 0
theorem next_rel {q : Int} {x : Tri} {v : Zd D × Zd D} (hC : 0 < x.2.2) (hv : Pr (nx (D := D) 1 q (zv x)) v) : RelO (qquot D.d (1, 0, 1) (qsum x (q, 0, 1) (-1))) v := by
  have vs := val_sum (D := D) (-1) (val_self hC) (val_self (t := (q, 0, 1)) (show (0 : Int) < 1 by decide))
  have e1 : (zv (D := D) (q, 0, 1)).1 = (q : Zd D) := rfl
  have e2 : (zv (D := D) (q, 0, 1)).2 = 1 := rfl
  have e3 : ((-1 : Int) : Zd D) = -1 := by
    rw [show (-1 : Int) = -(1 : Int) from rfl, Zd.int_neg, Zd.int_one]
  have e4 : (nx (D := D) 1 q (zv x)).2 = (zv (D := D) x).1 - (q : Zd D) * (zv (D := D) x).2 := by
    show ((1 : Int) : Zd D) * (zv (D := D) x).1 - (q : Zd D) * (((1 : Int) : Zd D) * (zv (D := D) x).2) = _
    rw [Zd.int_one]
    grind
  have e5 : (nx (D := D) 1 q (zv x)).1 = (zv (D := D) x).2 := by
    show ((1 : Int) : Zd D) * (zv (D := D) x).2 = _
    rw [Zd.int_one]
    grind
  rw [e1, e2, e3] at vs
  cases h : qquot D.d (1, 0, 1) (qsum x (q, 0, 1) (-1)) with
  | some y =>
    obtain ⟨n0, vy⟩ := val_quot val1 vs h
    refine ⟨vy.pos, Pr.trans ?_ hv⟩
    refine Pr.symm (prW vy.pr ?_ ?_)
    · rw [e5]
      dsimp only
      grind
    · rw [e4]
      dsimp only
      grind
  | none =>
    unfold qquot at h
    split at h
    · rename_i z
      have n0 := (val_zero vs).mp z
      refine Pr.z2 hv ?_
      rw [e4]
      grind
    · cases h
theorem Due.parts {o : Option Tri} {n : Nat} {ps : List Int} (h : Due D.d o n ps) : ∀ {v : Zd D × Zd D}, RelO o v → ∃ v', Parts v ps v' ∧ (ps.length < n → v'.2 = 0) := by
  induction h with
  | out => intro v _; exact ⟨v, .nil, fun z => absurd z (Nat.not_lt_zero _)⟩
  | none => intro v h; exact ⟨v, .nil, fun _ => h⟩
  | @part x n r ps hr _ ih =>
    intro v h
    obtain ⟨hC, p⟩ := h
    obtain ⟨e', f, p'⟩ := Fl.of p (fl_below hC hr)
    obtain ⟨v', h1, h2⟩ := ih (next_rel hC p')
    refine ⟨v', .cons f h1, fun z => h2 ?_⟩
    rw [List.length_cons] at z
    omega
theorem Due.len {d : Int} {o : Option Tri} {n : Nat} {ps : List Int} (h : Due d o n ps) : ps.length ≤ n := by
  induction h with
  | out => exact Nat.le_refl _
  | none => exact Nat.zero_le _
  | part _ _ ih => rw [List.length_cons]; omega
/-- parts told beside parts reckoned -/
theorem due_meets {x : Tri} {k : Nat} {ps qs : List Int} {v' : Zd D × Zd D} (hC : 0 < x.2.2) (hd : Due D.d (some x) k qs) (hp : Parts (zv (D := D) x) ps v') (hk : ps.length < k) : (∃ r, qs = ps ++ r) ∧ (v'.2 = 0 → qs = ps) := by
  have ne : (zv (D := D) x).2 ≠ 0 := int_ne (by omega)
  have pr : Pr (zv (D := D) x) (zv (D := D) x) := ⟨by grind, .inr ne, .inr ne⟩
  obtain ⟨w', q1, q2⟩ := hd.parts (v := zv (D := D) x) ⟨hC, pr⟩
  rcases Parts.meet pr hp q1 with ⟨r, w, e, z1, z2⟩ | ⟨r, w, e, z1, z2⟩
  · refine ⟨⟨r, e⟩, fun z => ?_⟩
    rw [e, z2.none (z1.z2 z), List.append_nil]
  · have lr : qs.length < k := by rw [e, List.length_append] at hk; omega
    have z3 := z2.none (z1.symm.z2 (q2 lr))
    rw [z3, List.append_nil] at e
    exact ⟨⟨[], by rw [e, List.append_nil]⟩, fun _ => e.symm⟩
end
/-! ### how soon a four of an endless chain tells -/
def lv : Nat → Int → Int → Prop
  | 0, c, _ => 33 ≤ c
  | k + 1, c, e => lv k e (c + e)
theorem lv.mono : ∀ {k : Nat} {c e c' e' : Int}, lv k c e → c ≤ c' → e ≤ e' → lv k c' e'
  | 0, c, e, c', e', h, h1, _ => by
    have h : 33 ≤ c := h
    show 33 ≤ c'
    omega
  | k + 1, c, e, c', e', h, h1, h2 => lv.mono (k := k) (c := e) (e := c + e) h h2 (by omega)
/-- numbers whose parts below have one sign, k parts ahead of telling -/
def SetN (k : Nat) (a b c d : Int) : Prop := (0 ≤ c ∧ 0 ≤ c + d ∧ lv k c (c + d)) ∨ (0 ≤ -c ∧ 0 ≤ -c - d ∧ lv k (-c) (-c - d))
def DetN (a b c d : Int) : Prop := a * d - b * c ≠ 0 ∧ -32 ≤ a * d - b * c ∧ a * d - b * c ≤ 32
theorem mul_ge {x y : Int} (hx : 1 ≤ x) (hy : 0 ≤ y) : y ≤ x * y := by
  have := Int.mul_le_mul_of_nonneg_right hx hy
  omega
theorem lies_now {a c f e : Int} (hc : 33 ≤ c) (he : 0 ≤ e) (h0 : a * e - f * c ≠ 0) (h1 : -32 ≤ a * e - f * c) (h2 : a * e - f * c ≤ 32) : ∃ q, Lies [(a, c), (f, e)] q := by
  have c0 : 0 < c := by omega
  have e0 : 0 < e := by
    rcases Int.lt_or_le 0 e with z | z
    · exact z
    · have ez : e = 0 := by omega
      subst ez
      rw [Int.mul_zero] at h0 h1 h2
      rcases Int.lt_trichotomy f 0 with y | y | y
      · have := mul_ge (x := -f) (y := c) (by omega) (by omega)
        have e2 : -f * c = -(f * c) := by grind
        omega
      · subst y
        rw [Int.zero_mul] at h0
        omega
      · have := mul_ge (x := f) (y := c) (by omega) (by omega)
        omega
  obtain ⟨b1, b2⟩ := fdiv_bounds (a := a) c0
  generalize a.fdiv c = q at *
  refine ⟨q, fun d hd => ?_, fun d hd => by cases hd; exact b2⟩
  simp only [List.mem_cons, List.not_mem_nil, or_false] at hd
  rcases hd with rfl | rfl
  · exact ⟨c0, b1, Int.le_of_lt b2⟩
  · refine ⟨e0, ?_, ?_⟩
    · show q * e ≤ f
      rcases Int.lt_or_le f (q * e) with z | z
      · exfalso
        have k1 := Int.mul_nonneg (show 0 ≤ a - q * c by omega) (Int.le_of_lt e0)
        have k2 := mul_ge (x := q * e - f) (y := c) (by omega) (by omega)
        have e3 : (a - q * c) * e + (q * e - f) * c = a * e - f * c := by grind
        omega
      · exact z
    · show f ≤ (q + 1) * e
      rcases Int.lt_or_le ((q + 1) * e) f with z | z
      · exfalso
        have k1 := Int.mul_nonneg (show 0 ≤ (q + 1) * c - a by omega) (Int.le_of_lt e0)
        have k2 := mul_ge (x := f - (q + 1) * e) (y := c) (by omega) (by omega)
        have e3 : ((q + 1) * c - a) * e + (f - (q + 1) * e) * c = -(a * e - f * c) := by grind
        omega
      · exact z
theorem set_now {a b c d : Int} (h : SetN 0 a b c d) (hd : DetN a b c d) : ∃ q, surePart (fourCorners [a, b, c, d]) = some q := by
  obtain ⟨d0, d1, d2⟩ := hd
  have key : ∀ q, Sure (fourCorners [a, b, c, d]) q → ∃ q, surePart (fourCorners [a, b, c, d]) = some q := fun q h => ⟨q, (sure_iff (by intro z; cases z)).mpr h⟩
  rcases h with ⟨h1, h2, h3⟩ | ⟨h1, h2, h3⟩
  · have h3 : 33 ≤ c := h3
    have e : a * (c + d) - (a + b) * c = a * d - b * c := by grind
    obtain ⟨q, hq⟩ := lies_now (a := a) (c := c) (f := a + b) (e := c + d) h3 h2 (by omega) (by omega) (by omega)
    exact key q (.inl hq)
  · have h3 : 33 ≤ -c := h3
    have e : -a * (-c - d) - (-a - b) * -c = a * d - b * c := by grind
    obtain ⟨q, hq⟩ := lies_now (a := -a) (c := -c) (f := -a - b) (e := -c - d) h3 h2 (by omega) (by omega) (by omega)
    refine key q (.inr ?_)
    show Lies [(-a, -c), (-(a + b), -(c + d))] q
    rw [show -(a + b) = -a - b by omega, show -(c + d) = -c - d by omega]
    exact hq
theorem set_take {k : Nat} {a b c d q : Int} (hq : 1 ≤ q) (h : SetN (k + 1) a b c d) : SetN k (a * q + b) a (c * q + d) c := by
  rcases h with ⟨h1, h2, h3⟩ | ⟨h1, h2, h3⟩
  · have k1 := Int.mul_nonneg (show 0 ≤ q - 1 by omega) h1
    have e1 : (q - 1) * c = c * q - c := by grind
    exact .inl ⟨by omega, by omega, lv.mono (k := k) (c := c + d) (e := c + (c + d)) h3 (by omega) (by omega)⟩
  · have k1 := Int.mul_nonneg (show 0 ≤ q - 1 by omega) h1
    have e1 : (q - 1) * -c = c - c * q := by grind
    exact .inr ⟨by omega, by omega, lv.mono (k := k) (c := -c - d) (e := -c + (-c - d)) h3 (by omega) (by omega)⟩
theorem det_take {a b c d q : Int} (h : DetN a b c d) : DetN (a * q + b) a (c * q + d) c := by
  obtain ⟨d0, d1, d2⟩ := h
  have e : (a * q + b) * c - a * (c * q + d) = -(a * d - b * c) := by grind
  exact ⟨by omega, by omega, by omega⟩
theorem det_tell {a b c d q : Int} (h : DetN a b c d) : DetN c d (a - q * c) (b - q * d) := by
  obtain ⟨d0, d1, d2⟩ := h
  have e : c * (b - q * d) - d * (a - q * c) = -(a * d - b * c) := by grind
  exact ⟨by omega, by omega, by omega⟩
theorem lv10 {c e : Int} (h1 : 0 ≤ c) (h2 : 0 ≤ e) (h : c ≠ 0 ∨ e ≠ 0) : lv 10 c e := by
  rcases h with z | z
  · exact lv.mono (k := 10) (c := 1) (e := 0) (show (33 : Int) ≤ 34 by decide) (by omega) (by omega)
  · exact lv.mono (k := 10) (c := 0) (e := 1) (show (33 : Int) ≤ 55 by decide) (by omega) (by omega)
theorem set_10 {a b c d : Int} (h : (0 ≤ c ∧ 0 ≤ c + d) ∨ (0 ≤ -c ∧ 0 ≤ -c - d)) (hd : DetN a b c d) : SetN 10 a b c d := by
  have nz : c ≠ 0 ∨ c + d ≠ 0 := by
    rcases Int.lt_trichotomy c 0 with z | z | z
    · exact .inl (by omega)
    · right
      intro y
      have dz : d = 0 := by omega
      have := hd.1
      rw [z, dz, Int.mul_zero, Int.mul_zero] at this
      omega
    · exact .inl (by omega)
  rcases h with ⟨h1, h2⟩ | ⟨h1, h2⟩
  · exact .inl ⟨h1, h2, lv10 h1 h2 nz⟩
  · exact .inr ⟨h1, h2, lv10 h1 h2 (by omega)⟩
theorem set_tell {a b c d q : Int} (hs : surePart (fourCorners [a, b, c, d]) = some q) (hd : DetN a b c d) : SetN 10 c d (a - q * c) (b - q * d) := by
  refine set_10 ?_ (det_tell hd)
  rcases (sure_iff (by intro z; cases z)).mp hs with z | z
  · left
    obtain ⟨_, h1, _⟩ := z.1 (a, c) List.mem_cons_self
    obtain ⟨_, h2, _⟩ := z.1 (a + b, c + d) (List.mem_cons_of_mem _ List.mem_cons_self)
    have h1 : q * c ≤ a := h1
    have h2 : q * (c + d) ≤ a + b := h2
    have e : q * (c + d) = q * c + q * d := by grind
    exact ⟨by omega, by omega⟩
  · right
    obtain ⟨_, h1, _⟩ := z.1 (-a, -c) List.mem_cons_self
    obtain ⟨_, h2, _⟩ := z.1 (-(a + b), -(c + d)) (List.mem_cons_of_mem _ List.mem_cons_self)
    have h1 : q * -c ≤ -a := h1
    have h2 : q * -(c + d) ≤ -(a + b) := h2
    have e : q * -(c + d) = -(q * c) - q * d := by grind
    have e' : q * -c = -(q * c) := by grind
    exact ⟨by omega, by omega⟩
/-- numbers whose parts below may yet have two signs; j parts ahead of having one -/
def UnsN (j : Nat) (c d : Int) : Prop := ∃ r r', 1 ≤ r ∧ 1 ≤ r' ∧ (j = 0 → 5 ≤ r + r') ∧ (j = 1 → 2 ≤ r') ∧ -4 ≤ c * r' - (c + d) * r ∧ c * r' - (c + d) * r ≤ 4
theorem uns_now {a b c d : Int} (h : UnsN 0 c d) (hd : DetN a b c d) : SetN 10 a b c d := by
  obtain ⟨r, r', h1, h2, h3, _, h5, h6⟩ := h
  have h3 := h3 rfl
  refine set_10 ?_ hd
  rcases Int.lt_trichotomy c 0 with z | z | z
  · right
    refine ⟨by omega, ?_⟩
    rcases Int.lt_or_le (-c - d) 0 with y | y
    · exfalso
      have k1 := mul_ge (x := -c) (y := r') (by omega) (by omega)
      have k2 := mul_ge (x := c + d) (y := r) (by omega) (by omega)
      have e : -c * r' = -(c * r') := by grind
      omega
    · exact y
  · rcases Int.lt_or_le (c + d) 0 with y | y
    · exact .inr ⟨by omega, by omega⟩
    · exact .inl ⟨by omega, y⟩
  · left
    refine ⟨by omega, ?_⟩
    rcases Int.lt_or_le (c + d) 0 with y | y
    · exfalso
      have k1 := mul_ge (x := c) (y := r') (by omega) (by omega)
      have k2 := mul_ge (x := -(c + d)) (y := r) (by omega) (by omega)
      have e : -(c + d) * r = -((c + d) * r) := by grind
      omega
    · exact y
theorem uns_take {j : Nat} {c d q : Int} (hj : j ≤ 1) (hq : 1 ≤ q) (h : UnsN (j + 1) c d) : UnsN j (c * q + d) c := by
  obtain ⟨r, r', h1, h2, _, h4, h5, h6⟩ := h
  have k1 := Int.mul_nonneg (show 0 ≤ q - 1 by omega) (show 0 ≤ r by omega)
  have e1 : (q - 1) * r = r * q - r := by grind
  have e : (c * q + d) * (r * q + r') - (c * q + d + c) * (r * q - r + r') = -(c * r' - (c + d) * r) := by grind
  refine ⟨r * q - r + r', r * q + r', by omega, by omega, fun z => ?_, fun z => by omega, by omega, by omega⟩
  have := h4 (by omega)
  omega
/-! ### the asking of such a four -/
section
variable {D : Sq}
theorem part_ge {e q : Int} {u : Zd D × Zd D} (hu : NT u) (h : Fl e q u) : 1 ≤ q := by
  obtain ⟨u0, u1⟩ := hu
  obtain ⟨he, h1, _, h3⟩ := h
  rcases Int.lt_or_le 0 q with z | z
  · exact z
  · exfalso
    have z2 := Zd.int_le (D := D) (show q + 1 ≤ 1 by omega)
    rw [Zd.int_add, Zd.int_one] at z2
    have k := Zd.mul_nonneg (show (0 : Zd D) ≤ 1 - ((q : Zd D) + 1) by grind) u0
    rcases sgn (D := D) he with s | s
    · rw [s] at h3
      grind
    · rw [s] at h1
      grind
/-- m parts of the chain are enough -/
def Pot (m : Nat) (a b c d : Int) (st : Bool) : Prop := DetN a b c d ∧ ((st = true ∧ SetN m a b c d) ∨ (st = true ∧ ∃ j, j ≤ 2 ∧ m = 10 + j ∧ UnsN j c d) ∨ (st = false ∧ m = 13 ∧ -4 ≤ c ∧ c ≤ 4))
theorem pot_take {m : Nat} {a b c d q : Int} {st : Bool} (h : Pot m a b c d st) (hq : st = true → 1 ≤ q) (hs : sureF [a, b, c, d] st = none) : ∃ m', m = m' + 1 ∧ Pot m' (a * q + b) a (c * q + d) c true := by
  obtain ⟨hd, h⟩ := h
  have set : ∀ {k : Nat}, st = true → SetN k a b c d → ∃ m', k = m' + 1 ∧ Pot m' (a * q + b) a (c * q + d) c true := fun {k} hst z => by
    cases k with
    | zero =>
      obtain ⟨q', e⟩ := set_now z hd
      subst hst
      exact absurd (hs.symm.trans e) (fun z => nomatch z)
    | succ k => exact ⟨k, rfl, det_take hd, .inl ⟨rfl, set_take (hq hst) z⟩⟩
  rcases h with ⟨hst, z⟩ | ⟨hst, j, hj, rfl, z⟩ | ⟨hst, rfl, c1, c2⟩
  · exact set hst z
  · cases j with
    | zero => exact set hst (uns_now z hd)
    | succ j => exact ⟨10 + j, by omega, det_take hd, .inr (.inl ⟨rfl, j, by omega, rfl, uns_take (by omega) (hq hst) z⟩)⟩
  · refine ⟨12, rfl, det_take hd, .inr (.inl ⟨rfl, 2, by decide, rfl, 1, 1, by decide, by decide, fun z => by omega, fun z => by omega, ?_, ?_⟩)⟩
    · have e : (c * q + d) * 1 - (c * q + d + c) * 1 = -c := by grind
      omega
    · have e : (c * q + d) * 1 - (c * q + d + c) * 1 = -c := by grind
      omega
def RootC (ch : Chain) : Prop := ∃ t s b r, ch = .root t s b r
theorem four_soon {B B' : Box} {l l' : Int} {o : Option Ans} (h : Asks B l o B' l') : ∀ {m : Nat} {a b c d : Int} {st told : Bool} {ch : Chain} {u : Zd D × Zd D}, B = .four [a, b, c, d] st told (.leaf ch) → RootC ch → Tru (.leaf ch) st u → Pot m a b c d st → (m : Int) ≤ l →
    ∃ q a' b' c' d' ch' u', o = some (.part q) ∧ B' = .four [a', b', c', d'] true true (.leaf ch') ∧ RootC ch' ∧ Tru (D := D) (.leaf ch') true u' ∧ Pot 10 a' b' c' d' true ∧ l - m ≤ l' := by
  induction h with
  | leaf => intro m a b c d st told ch u e; cases e
  | fb => intro m a b c d st told ch u e; cases e
  | fourR => intro m a b c d st told ch u e; cases e
  | @tell4 ns st told x l q hf hs =>
    intro m a b c d st' told' ch u e rc tx hp hl
    cases e
    cases st with
    | false => cases hs
    | true => exact ⟨q, c, d, a - q * c, b - q * d, ch, u, rfl, by rw [turned4], rc, tx, ⟨det_tell hp.1, .inl ⟨rfl, set_tell hs hp.1⟩⟩, by omega⟩
  | @none4 ns st told x x' l l' hf hs hx ih =>
    intro m a b c d st' told' ch u e rc tx hp hl
    cases e
    exact False.elim (tru_asks hx _ u tx)
  | @wait4 ns st told x x' l l' hf hs hx ih =>
    intro m a b c d st' told' ch u e rc tx hp hl
    cases e
    exfalso
    by_cases hst : st = true
    · obtain ⟨m', hm, _⟩ := pot_take (q := 1) hp (fun _ => by decide) hs
      obtain ⟨_, _, _, _, rfl⟩ := rc
      generalize hw : some Ans.waits = w at hx
      cases hx with
      | leaf =>
        have : ¬ l < 1 := by omega
        unfold Chain.ans at hw
        rw [show Chain.ended (.root _ _ _ _) = false from rfl, if_neg (by decide), if_neg this] at hw
        cases hw
    · obtain ⟨m', hm, _⟩ := pot_take (q := 1) hp (fun z => absurd z hst) hs
      obtain ⟨_, _, _, _, rfl⟩ := rc
      generalize hw : some Ans.waits = w at hx
      cases hx with
      | leaf =>
        have : ¬ l < 1 := by omega
        unfold Chain.ans at hw
        rw [show Chain.ended (.root _ _ _ _) = false from rfl, if_neg (by decide), if_neg this] at hw
        cases hw
  | @fin4 ns st told x x' l l1 o B' l' hf hs hx hr ih1 ih2 =>
    intro m a b c d st' told' ch u e rc tx hp hl
    cases e
    exfalso
    obtain ⟨_, _, _, _, rfl⟩ := rc
    generalize hw : some Ans.fin = w at hx
    cases hx with
    | leaf =>
      unfold Chain.ans at hw
      rw [show Chain.ended (.root _ _ _ _) = false from rfl, if_neg (by decide)] at hw
      split at hw <;> cases hw
  | @part4 ns st told x x' l l1 q o B' l' hf hs hx hq hr ih1 ih2 =>
    intro m a b c d st' told' ch u e rc tx hp hl
    cases e
    obtain ⟨e, f, tx'⟩ := tru_asks hx _ u tx
    obtain ⟨m', rfl, hp'⟩ := pot_take (q := q) hp (fun z => part_ge (Tru.nt (z ▸ tx)) f) hs
    have lf : ∃ ch', x' = .leaf ch' ∧ RootC ch' ∧ l1 = l - 1 := by
      obtain ⟨t, s, bb, r, rfl⟩ := rc
      generalize hw : some (Ans.part q) = w at hx
      cases hx with
      | leaf =>
        have n : ¬ l < 1 := by omega
        refine ⟨_, rfl, ?_, ?_⟩
        · unfold Chain.then_
          rw [show Chain.ended (.root _ _ _ _) = false from rfl, if_neg (by decide), if_neg n]
          exact ⟨_, _, _, _, rfl⟩
        · unfold Chain.took
          rw [show Chain.ended (.root _ _ _ _) = false from rfl, if_neg (by decide), if_neg n]
    obtain ⟨ch', rfl, rc', rfl⟩ := lf
    obtain ⟨q', a', b', c', d', ch2, u', h1, h2, h3, h4, h5, h6⟩ := ih2 (m := m') (a := a * q + b) (b := a) (c := c * q + d) (d := c) rfl rc' tx' hp' (by omega)
    exact ⟨q', a', b', c', d', ch2, u', h1, h2, h3, h4, h5, by omega⟩
  | tell8 => intro m a b c d st told ch u e; cases e
  | none0 => intro m a b c d st told ch u e; cases e
  | wait0 => intro m a b c d st told ch u e; cases e
  | fin0 => intro m a b c d st told ch u e; cases e
  | part0 => intro m a b c d st told ch u e; cases e
  | none1 => intro m a b c d st told ch u e; cases e
  | wait1 => intro m a b c d st told ch u e; cases e
  | fin1 => intro m a b c d st told ch u e; cases e
  | part1 => intro m a b c d st told ch u e; cases e
  | rest => intro m a b c d st told ch u e; cases e
/-- all the parts are told -/
theorem four_reads {most : Int} {k : Nat} {B : Box} {s : Int} {ps : List Int} {w : Option (Option Ans)} {B2 : Box} {s2 : Int} (h : Rd most k B s ps w B2 s2) : ∀ {m : Nat} {a b c d : Int} {st told : Bool} {ch : Chain} {u : Zd D × Zd D}, B = .four [a, b, c, d] st told (.leaf ch) → RootC ch → Tru (D := D) (.leaf ch) st u → Pot m a b c d st → m ≤ 13 → s + 13 * k ≤ most → w = none := by
  induction h with
  | done => intros; rfl
  | @stop k B s o B' l' ask n =>
    intro m a b c d st told ch u e rc tx hp hm hs
    obtain ⟨q, _, _, _, _, _, _, h1, _⟩ := four_soon (D := D) ask e rc tx hp (by omega)
    exact absurd h1 (n q)
  | @part k B s q B' l' ps w B2 s2 ask r ih =>
    intro m a b c d st told ch u e rc tx hp hm hs
    obtain ⟨q, a', b', c', d', ch', u', h1, h2, h3, h4, h5, h6⟩ := four_soon (D := D) ask e rc tx hp (by omega)
    exact ih (m := 10) h2 h3 h4 h5 (by decide) (by omega)
end
/-! ### the law: a four of a root tells twenty parts -/
def sp_law (K : PySem.W.Frag) : Sp := fun vs H Q _ => ∃ (a : Addr) (ns : List Int), vs = [.ref a] ∧ ScrAt K H a ns ∧ ns.length ≤ 63 ∧ ∀ H', Q (.bl true) H'
theorem depth_ints : ∀ ns : List Int, PyData.depthAll (ns.map PyData.int) ≤ 2
  | [] => by simp [PyData.depthAll]
  | n :: r => by
    have := depth_ints r
    simp only [List.map_cons, PyData.depthAll, PyData.depth]
    omega
theorem shaped_read (ns : List Int) (a : Option (Option Ans)) : SeqAt.shaped (.tuple [.list (ns.map PyData.int), .str (wordR a)]) = true := by
  have h0 := shaped_ints ns
  have hd := depth_ints ns
  have hw : PyData.strOk (wordR a) = true := by
    cases a with
    | none => decide +kernel
    | some o =>
      cases o with
      | none => decide +kernel
      | some x =>
        cases x with
        | part q => exact (show PyData.strOk "part" = true by decide +kernel)
        | fin => decide +kernel
        | waits => decide +kernel
  unfold SeqAt.shaped at h0 ⊢
  rw [Bool.and_eq_true] at h0 ⊢
  refine ⟨?_, decide_eq_true ?_⟩
  · simp only [PyData.canLay0, PyData.canLayAll0, hw, Bool.and_true, Bool.and_eq_true]
    have := h0.1
    simp only [PyData.canLay0] at this
    simp [this]
  · simp only [PyData.depth, PyData.depthAll]
    omega
theorem pot_start {e0 e1 e2 e3 : Int} (h : Drawn4 [e0, e1, e2, e3]) : Pot 13 e0 e1 e2 e3 false := by
  obtain ⟨_, h2, h3⟩ := h
  have z0 := h2 e0 (by simp)
  have z1 := h2 e1 (by simp)
  have z2 := h2 e2 (by simp)
  have z3 := h2 e3 (by simp)
  have cr : e1 * e2 ≠ e0 * e3 := by
    obtain ⟨i, k, k1, k2, k3⟩ := h3
    have hl : ([e0, e1, e2, e3] : List Int).length / 2 = 2 := show (4 : Nat) / 2 = 2 by decide
    rw [hl] at k2 k3
    obtain ⟨rfl, rfl⟩ : i = 1 ∧ k = 0 := by omega
    exact k3
  have bound : ∀ x y : Int, -4 ≤ x → x ≤ 4 → -4 ≤ y → y ≤ 4 → -16 ≤ x * y ∧ x * y ≤ 16 := fun x y a b c d => by
    have k1 := Int.mul_nonneg (show 0 ≤ 4 - x by omega) (show 0 ≤ 4 - y by omega)
    have k2 := Int.mul_nonneg (show 0 ≤ 4 + x by omega) (show 0 ≤ 4 + y by omega)
    have k3 := Int.mul_nonneg (show 0 ≤ 4 - x by omega) (show 0 ≤ 4 + y by omega)
    have k4 := Int.mul_nonneg (show 0 ≤ 4 + x by omega) (show 0 ≤ 4 - y by omega)
    have f1 : (4 - x) * (4 - y) = 16 - 4 * x - 4 * y + x * y := by grind
    have f2 : (4 + x) * (4 + y) = 16 + 4 * x + 4 * y + x * y := by grind
    have f3 : (4 - x) * (4 + y) = 16 - 4 * x + 4 * y - x * y := by grind
    have f4 : (4 + x) * (4 - y) = 16 + 4 * x - 4 * y - x * y := by grind
    omega
  have w1 := bound e0 e3 z0.1 z0.2 z3.1 z3.2
  have w2 := bound e1 e2 z1.1 z1.2 z2.1 z2.2
  exact ⟨⟨by omega, by omega, by omega⟩, .inr (.inr ⟨rfl, rfl, z2.1, z2.2⟩)⟩
section
variable {D : Sq}
theorem four_some {t m b e0 e1 e2 e3 : Int} (hm : 1 ≤ m) (hb : b ≠ 0) (h : Drawn4 [e0, e1, e2, e3]) : ∃ y, qboxed D.d [e0, e1, e2, e3] [qmade t m b, (1, 0, 1)] = some y := by
  cases e : qboxed D.d [e0, e1, e2, e3] [qmade t m b, (1, 0, 1)] with
  | some y => exact ⟨y, rfl⟩
  | none =>
    exfalso
    have e : qquot D.d (qmix [e0, e1] [qmade t m b, (1, 0, 1)]) (qmix [e2, e3] [qmade t m b, (1, 0, 1)]) = none := e
    have z := val_sum (D := D) e3 (val_sum e2 val0 (val_made (a := t) (b := m) hb)) val1
    unfold qquot at e
    split at e
    · rename_i y
      have k := (val_zero z).mp y
      have k : (e2 : Zd D) * ⟨t, m⟩ + (e3 : Zd D) * (b : Zd D) = 0 := by grind
      have i1 := congrArg Zd.im k
      have i0 := congrArg Zd.re k
      simp only [Zd.add_im, Zd.mul_im, Zd.int_re, Zd.int_im, Zd.zero_im, Zd.add_re, Zd.mul_re, Zd.zero_re] at i0 i1
      have p := (pot_start h).1.1
      have c0 : e2 = 0 := by
        have : e2 * m = 0 := by grind
        rcases Int.mul_eq_zero.mp this with w | w <;> omega
      subst c0
      have d0 : e3 = 0 := by
        have : e3 * b = 0 := by grind
        rcases Int.mul_eq_zero.mp this with w | w <;> omega
      subst d0
      rw [Int.mul_zero, Int.mul_zero] at p
      omega
    · cases e
/-- twenty told beside twenty reckoned -/
theorem due_all {x : Tri} {k : Nat} {ps qs : List Int} {v' : Zd D × Zd D} (hC : 0 < x.2.2) (hd : Due D.d (some x) k qs) (hp : Parts (zv (D := D) x) ps v') (hk : ps.length = k) : qs = ps := by
  have ne : (zv (D := D) x).2 ≠ 0 := int_ne (by omega)
  have pr : Pr (zv (D := D) x) (zv (D := D) x) := ⟨by grind, .inr ne, .inr ne⟩
  obtain ⟨w', q1, q2⟩ := hd.parts (v := zv (D := D) x) ⟨hC, pr⟩
  have ln := hd.len
  rcases Parts.meet pr hp q1 with ⟨r, w, e, z1, z2⟩ | ⟨r, w, e, z1, z2⟩
  · have : r = [] := by
      cases r with
      | nil => rfl
      | cons y ys => rw [e, List.length_append, List.length_cons] at ln; omega
    rw [e, this, List.append_nil]
  · by_cases lt : qs.length < k
    · have z3 := z2.none (z1.symm.z2 (q2 lt))
      rw [z3, List.append_nil] at e
      exact e.symm
    · have : r = [] := by
        cases r with
        | nil => rfl
        | cons y ys => rw [e, List.length_append, List.length_cons] at hk; omega
      rw [e, this, List.append_nil]
end
section
variable {P : Program} [NoTree P] {w : World} {K : PySem.W.Frag} {mg : Str → Option Value} {base : Heap} {A : Ad}
/-- what a reading writes is no tuple -/
theorem readNo {H : Hp} {rd ax m : Addr} {fp : List Addr} {B : Box} {l s : Int} (R : ReadB A K H rd ax m fp B l s) : ∀ b o, (b ∈ fp ∨ b = m) → H b = some o → (∀ ys, o ≠ .tup ys) ∧ ∀ ob u, o ≠ .frz ob u := fun b o hb e => by
  rcases hb with z | rfl
  · exact (R.bx.soft b z).no e
  · obtain ⟨dm, em⟩ := R.mt
    rw [em] at e
    exact ins_no (Option.some.inj e).symm
theorem ok_law (T : CT K mg A) (TT : TB K w mg A) (XM : PySem.W.exmOne K (.ref A.c_NoValue) (.ref A.c_NoValue) = some true) (D : DT K mg A) {f : Addr} {fd : FuncData} (F : Fun K "law" "law" s_law f fd) : FnOk P w K mg base CX0 66 f fd ["_law_script"] (sp_law K) := by
  have G_law_row : COk P w K mg base CX0 1 "_law_row" ["_law_script"] (sp_law_row K) := COk.by D.law_row fun f fd F => ok_law_row F
  have G_law_taken : COk P w K mg base CX0 1 "_law_taken" ["_law_row_here", "_law_many"] (sp_law_taken K) := COk.by D.law_taken fun f fd F => ok_law_taken F T.toBT
  have G_law_signed : COk P w K mg base CX0 2 "_law_signed" ["_law_row_here", "_law_most"] (sp_law_signed K) := COk.by D.law_signed fun f fd F => ok_law_signed F G_law_taken
  have G_law_whole : COk P w K mg base CX0 1 "_law_whole" ["_law_found"] sp_law_whole := COk.by D.law_whole fun f fd F => ok_law_whole F T.toBT
  have G_law_common : COk P w K mg base CX0 1 "_law_common" ["_law_one", "_law_other"] sp_law_common := COk.by D.law_common fun f fd F => ok_law_common F T.toBT
  have G_law_made := ok_qmade (P := P) (w := w) (base := base) T D G_law_common
  have G_law_sum : COk P w K mg base CX0 37 "_law_sum" ["_law_one", "_law_other", "_law_by"] (sp_qsum K) := ok_qsum D G_law_made
  have G_law_product : COk P w K mg base CX0 37 "_law_product" ["_law_one", "_law_other", "_law_d"] (sp_qprod K) := ok_qprod D G_law_made
  have G_law_quotient := ok_qquot (P := P) (w := w) (base := base) D G_law_made G_law_product
  have G_law_mix := ok_qmix (P := P) (w := w) (base := base) T D G_law_sum
  have G_law_boxed := ok_qboxed (P := P) (w := w) (base := base) T D G_law_mix G_law_quotient
  have G_law_square := ok_qsquare (P := P) (w := w) (base := base) T D G_law_taken
  have G_law_four := ok_law_four (P := P) (w := w) (base := base) T D G_law_signed
  have G_reader := ok_readerB (P := P) (w := w) (base := base) T TT D
  have G_law_read := ok_qread (P := P) (w := w) (base := base) T XM D 18 G_law_whole
  have G_law_parts := ok_qparts (P := P) (w := w) (base := base) T D G_law_sum G_law_quotient
  refine F.ok (k := 65) sc_law (fun vs H Q E h => ?_) (fun cdv Ar outer s H vs Q E hr h => ?_)
  · obtain ⟨a, ns, rfl, _⟩ := h
    rfl
  · obtain ⟨a, ns, rfl, hS, hlen, k⟩ := h
    refine ⟨_, (pss_cons (ps_set (i := 1) sc_law.nd rfl (Or.inl rfl) (pe_c G_law_row (hr.mono (by first | decide | omega)) (pa_cons (pv 0) pa_nil)))
    (pss_cons (ps_set (i := 2) sc_law.nd rfl (Or.inl rfl) (pe_c G_law_square (hr.mono (by first | decide | omega)) (pa_cons (pv 1) pa_nil)))
    (pss_cons (ps_set (i := 3) sc_law.nd rfl (Or.inl rfl) (pe_c G_law_four (hr.mono (by first | decide | omega)) (pa_cons (pv 1) pa_nil)))
    (pss_cons (ps_set (i := 4) sc_law.nd rfl (Or.inl rfl) (pe_c G_law_signed (hr.mono (by first | decide | omega)) (pa_cons (pv 1) (pa_cons pe_int pa_nil))))
    (pss_cons (ps_set (i := 5) sc_law.nd rfl (Or.inl rfl) (pe_op op_add pe_int (pe_c G_law_taken (hr.mono (by first | decide | omega)) (pa_cons (pv 1) (pa_cons pe_int pa_nil)))))
    (pss_cons (ps_set (i := 6) sc_law.nd rfl (Or.inl rfl) (pe_ix (show IxR _ (rIxL K) from ix_list) (pe_lst (pa_cons pe_int (pa_cons pe_int (pa_cons (pe_un un_neg pe_int) (pa_cons pe_int (pa_cons (pe_un un_neg pe_int) pa_nil)))))) (pe_c G_law_taken (hr.mono (by first | decide | omega)) (pa_cons (pv 1) (pa_cons pe_int pa_nil))) (fun _ _ => rfl)))
    (pss_cons (ps_set (i := 7) sc_law.nd rfl (Or.inl rfl) (pe_c G_law_made (hr.mono (by first | decide | omega)) (pa_cons (pv 4) (pa_cons (pv 5) (pa_cons (pv 6) pa_nil)))))
    (pss_cons (ps_set (i := 8) sc_law.nd rfl (Or.inl rfl) (pe_c G_law_parts (hr.mono (by first | decide | omega)) (pa_cons (pe_c G_law_boxed (hr.mono (by first | decide | omega)) (pa_cons (pv 3) (pa_cons (pe_lst (pa_cons (pv 7) (pa_cons (pe_tup (pa_cons pe_int (pa_cons pe_int (pa_cons pe_int pa_nil)))) pa_nil))) (pa_cons (pv 2) pa_nil)))) (pa_cons (pv 2) (pa_cons pe_int pa_nil)))))
    (pss_cons (ps_set (i := 9) sc_law.nd rfl (Or.inl rfl) (pe_c G_law_read (hr.mono (by first | decide | omega)) (pa_cons (pe_c G_reader (hr.mono (by first | decide | omega)) (pa_cons (pe_tup (pa_cons pe_str (pa_cons (pv 3) (pa_cons (pe_tup (pa_cons pe_str (pa_cons (pv 4) (pa_cons (pe_op op_mul (pe_op op_mul (pv 2) (pv 5)) (pv 5)) (pa_cons (pv 6) pa_nil))))) pa_nil)))) pa_nil)) (pa_cons pe_int (pa_cons pe_int pa_nil)))))
    (pss_one (ps_ret (pe_cmpR (op_eqD hr.units) (pv 9) (pe_tup (pa_cons (pv 8) (pa_cons pe_str pa_nil))) (nomark _))))))))))))), ?_⟩
    have wd : ∀ z : Int, z ≤ 1000 → z < 2 ^ 8000 := fun z hz => Int.lt_of_le_of_lt hz (by decide +kernel)
    refine ⟨_, rfl, a, ns, rfl, hS, hlen, fun r H1 nr s1 R1 => ?_⟩
    refine ⟨_, rfl, r, a, ns, rfl, R1, fun d H2 hd R2 kp2 => ?_⟩
    refine ⟨_, rfl, r, a, ns, rfl, R2, fun p4 es H3 h4 de R3 kp3 => ?_⟩
    refine ⟨_, rfl, r, a, ns, 5, rfl, R3, by decide, by decide, fun t H4 t0 t1 R4 kp4 => ?_⟩
    refine ⟨_, rfl, r, a, ns, _, rfl, R4, by decide, wd _ (by decide), fun m H5 m0 m1 R5 kp5 => ?_⟩
    refine ⟨_, _, rfl, rfl, ?_⟩
    refine ⟨_, rfl, _, rfl, (by show 5 ≤ sizeLine; decide), fun l nl => ?_⟩
    have sl := same_upd (o := .lst [V.int 1, .int 2, .int (-1), .int 3, .int (-2)]) nl
    have nlr : l ≠ r := by
      obtain ⟨x, xs, e⟩ := R5.at_
      exact (ne_of_none e nl).symm
    have hl := upd_at sl
    have R5' := R5.same sl
    have h45 := sqT_same (sqT_row (sqT_row h4 R3 kp4) R4 kp5) sl
    generalize upd H5 l (.lst [V.int 1, .int 2, .int (-1), .int 3, .int (-2)]) = H5' at *
    refine ⟨_, rfl, r, a, ns, _, rfl, R5', by decide, wd _ (by decide), fun i H6 i0 i1 R6 kp6 => ?_⟩
    obtain ⟨b, eb, b1, b2, b3⟩ := menuB i0 i1
    refine ⟨l, _, i, _, rfl, rfl, SqL.of (kp6 l _ hl nlr), eb, ?_⟩
    have h46 := sqT_row h45 R5' kp6
    refine ⟨_, rfl, _, rfl, _, rfl, _, _, _, rfl, b3, fun px H7 s7 n7 hpx => ?_⟩
    have h47 := sqT_same h46 s7
    obtain ⟨Dq, hDq⟩ : ∃ Dq : Sq, Dq.d = d := ⟨⟨d, hd⟩, rfl⟩
    subst hDq
    have qr : QT Dq.d 0 (.leaf (.root t (Dq.d * (1 + m) * (1 + m)) b)) (some (qmade t (1 + m) b)) := .root t0 t1 (by omega) (by omega) b1 b2 b3
    have bx := qr.bits hd _ rfl
    show tSeq _ _ _ [some (V.ref a), some (.ref r), some (.int Dq.d), some (.ref p4), some (.int t), some (.int (1 + m)), some (.int b), some (.ref px), none, none] H7
    match es, de.1 with
    | [e0, e1, e2, e3], _ =>
    obtain ⟨y, ey⟩ := four_some (D := Dq) (t := t) (m := 1 + m) (b := b) (by omega) b3 de
    -- the number
    refine ⟨_, rfl, _, rfl, (by show 3 ≤ sizeLine; decide), fun q nq => ?_⟩
    have s8 := same_upd (o := .tup [V.int 1, .int 0, .int 1]) nq
    have hq : N3 K (upd H7 q (.tup [V.int 1, .int 0, .int 1])) q (1, 0, 1) := SqT.of upd_same
    generalize upd H7 q (.tup [V.int 1, .int 0, .int 1]) = H8 at *
    refine ⟨(by show 2 ≤ sizeLine; decide), fun l2 nl2 => ?_⟩
    have s9 := same_upd (o := .lst [V.ref px, .ref q]) nl2
    have hl2 : SqL K (upd H8 l2 (.lst [V.ref px, .ref q])) l2 [V.ref px, .ref q] := SqL.of upd_same
    generalize upd H8 l2 (.lst [V.ref px, .ref q]) = H9 at *
    have s79 := s8.trans s9
    refine ⟨_, rfl, p4, l2, [e0, e1, e2, e3], _, [some (qmade t (1 + m) b), some (1, 0, 1)], Dq.d, rfl, sqT_same h47 s79, hl2, ⟨⟨px, rfl, sqT_same hpx s79⟩, ⟨q, rfl, sqT_same hq s9⟩, trivial⟩, rfl, rfl, by show 0 < 2; decide, by show 2 ≤ 4; decide, fun z hz => bd_small (by have := de.2.1 z hz; omega) (by have := de.2.1 z hz; omega) (by decide), fun z hz => ?_, hd.bd.mono (by decide), hd.ns, fun v9 Ha sa hv9 => ?_⟩
    · simp only [List.mem_cons, List.not_mem_nil, or_false, Option.some.injEq] at hz
      rcases hz with rfl | rfl
      · exact bx.mono (by decide)
      · exact tb1.mono (by decide)
    have q4 : QT Dq.d 1 (.four [e0, e1, e2, e3] (.leaf (.root t (Dq.d * (1 + m) * (1 + m)) b))) (some y) := by
      have z := QT.four de qr
      have e : qbox Dq.d [e0, e1, e2, e3] [some (qmade t (1 + m) b), some (1, 0, 1)] = some y := ey
      rw [e] at z
      exact z
    have hv9 : VAt K Ha v9 (some y) := by
      have e : qbox Dq.d [e0, e1, e2, e3] [some (qmade t (1 + m) b), some (1, 0, 1)] = some y := ey
      rw [e] at hv9
      exact hv9
    obtain ⟨py, rfl, hpy⟩ := hv9
    have d0 : 0 < Dq.d := by have := hd.lo; omega
    have by_ := q4.bits hd y rfl
    have dx := DX.start d0 hd.ns hd.bd by_
    have cy := q4.pos hd rfl
    have h4a := sqT_same h47 (s79.trans sa)
    refine ⟨_, rfl, py, y, Dq.d, 20, _, rfl, hpy, dx, (by decide), d0, hd.bd, hd.ns, by decide, fun ld Hb qs due sb nld hld => ?_⟩
    show tSeq _ _ _ [some (V.ref a), some (.ref r), some (.int Dq.d), some (.ref p4), some (.int t), some (.int (1 + m)), some (.int b), some (.ref px), some (.ref ld), none] Hb
    have h4b := sqT_same h4a sb
    -- the reading
    have := hd.lo
    have := hd.hi
    have dm := Int.mul_le_mul (show Dq.d ≤ 402 by omega) (show 1 + m ≤ 3 by omega) (by omega) (by decide)
    have dm0 := Int.mul_nonneg (show 0 ≤ Dq.d by omega) (show 0 ≤ 1 + m by omega)
    refine ⟨_, rfl, _, rfl, _, rfl, _, rfl, _, _, rfl, rfl, .inl ⟨by omega, by omega⟩, _, rfl, _, _, rfl, rfl, .inl ⟨by omega, by omega⟩, _, rfl, (by show 4 ≤ sizeLine; decide), fun v nv => ?_⟩
    have sc := same_upd (o := .tup [V.str "root", .int t, .int (Dq.d * (1 + m) * (1 + m)), .int b]) nv
    have hv : SqT K (upd Hb v (.tup [V.str "root", .int t, .int (Dq.d * (1 + m) * (1 + m)), .int b])) v [.str "root", .int t, .int (Dq.d * (1 + m) * (1 + m)), .int b] := SqT.of upd_same
    generalize upd Hb v (.tup [V.str "root", .int t, .int (Dq.d * (1 + m) * (1 + m)), .int b]) = Hc at *
    refine ⟨(by show 3 ≤ sizeLine; decide), fun w4 nw4 => ?_⟩
    have sd := same_upd (o := .tup [V.str "four", .ref p4, .ref v]) nw4
    have hw4 : SqT K (upd Hc w4 (.tup [V.str "four", .ref p4, .ref v])) w4 [.str "four", .ref p4, .ref v] := SqT.of upd_same
    generalize upd Hc w4 (.tup [V.str "four", .ref p4, .ref v]) = Hd at *
    obtain ⟨g, gh⟩ := q4.good hd
    refine ⟨w4, .four [e0, e1, e2, e3] (.leaf (.root t (Dq.d * (1 + m) * (1 + m)) b)), rfl, ⟨p4, v, hw4, sqT_same h4b (sc.trans sd), sqT_same hv sd⟩, g, by omega, fun rd ax mt fp B He RD st se nrd nmt nfp => ?_⟩
    have wt0 : B.wt ≤ 18 := Nat.le_trans (Starts.wt g st) (by omega)
    obtain ⟨_, inv0⟩ := tree_inv (T := 600) (by decide) (by decide) (v := (1, 0)) g st RD.ok gh (by decide)
    refine ⟨rd, ax, mt, fp, B, 0, 0, 20, 600, 0, false, (1, 0), _, rfl, RD, wt0, by decide, by decide, by decide, inv0.mono (by decide), fun Hf fp1 tt f1 ps wd1 B1 l1 s1' RDc _ _ _ rdA htt hf1 nf1 nff1 frc subc hl1 => ?_⟩
    have hlde := se _ _ (sd _ _ (sc _ _ hld))
    have hldd := sd _ _ (sc _ _ hld)
    have hldf : Hf ld = some (.lst (qs.map V.int)) := frc _ _ hlde (fun z => by rw [nfp _ z] at hldd; cases hldd) (fun z => by rw [z, nmt] at hldd; cases hldd)
    -- all are told, and true
    have tx := q4.tru y rfl B st RD.ok
    obtain ⟨va, pa1, pa2, pa3, pa4⟩ := rdA.tru tx
    obtain ⟨X, ⟨ch, hch, rfl⟩, rfl⟩ := st
    have rc : RootC ch := by
      obtain ⟨rr, _, ⟨e, _⟩ | ⟨_, qq, _, e⟩⟩ := hch
      · exfalso
        have := hd.ns rr (1 + m) (by rw [e]; grind)
        omega
      · exact ⟨_, _, _, _, e⟩
    have okB := RD.ok
    have tl := qr.tru (D := Dq) _ rfl (.leaf ch) ⟨ch, hch, rfl⟩ okB.2.1
    have wn := four_reads (D := Dq) rdA rfl rc tl (pot_start de) (by decide) (by decide)
    subst wn
    have eqs := due_all cy due pa1 (pa4 rfl)
    subst eqs
    refine ⟨_, rfl, _, rfl, (by show 2 ≤ sizeLine; decide), fun tq ntq => ?_⟩
    have sg := same_upd (o := .tup [V.ref ld, .str "part"]) ntq
    refine ⟨_, _, .tup (sqT_same htt sg) (.cons (.lst (SqL.of (sg _ _ hf1)) (dpAll_ints _)) (.cons (.str _) .nil)), .tup (SqT.of upd_same) (.cons (.lst (SqL.of (sg _ _ hldf)) (dpAll_ints _)) (.cons (.str _) .nil)), shaped_read _ none, shaped_read _ none, ?_⟩
    have q3 := SeqAt.eqv_refl _ (SeqAt.canLay_of_shaped (shaped_read qs none))
    exact cast (congrArg (fun b : Bool => Q (V.bl b) _) q3.symm) (k _)
end
theorem fun_ofD {K : PySem.W.Frag} {x qual : Str} {st : Stmt} {f : Addr} {fd : FuncData} (F : FunD K x qual (defArgs st) (defBody st) (defScope st) [] [] f fd) : Fun K x qual st f fd := by
  obtain ⟨⟨oc, od, dV, kV, doc, pm, an, cdv, ct, osl, rfl, lk, hcd, hd, hk⟩, kp⟩ := F
  rcases hd with ⟨_, rfl⟩ | ⟨z, _⟩
  · exact ⟨⟨oc, od, kV, doc, pm, an, cdv, ct, osl, rfl, lk, hcd⟩, kp⟩
  · exact absurd rfl z
def adOf (K : PySem.W.Frag) : Ad := ⟨He.ga K "Meter", He.ga K "FractionChain", He.ga K "RootChain", He.ga K "RuledChain", He.ga K "Leaf", He.ga K "FractionBox", He.ga K "FourBox", He.ga K "EightBox", He.ga K "Reading", He.ga K "END", He.ga K "WAITS", He.ga K "TIMES", He.ga K "LENGTHS", He.ga K "CHECKS", He.ga K "NoValue"⟩
section
variable {w : World} {K : PySem.W.Frag} {h : Heap} {mg : Str → Option Value}
theorem ct_of (X : K.In h) (G : h.Ns mainGlobals mg) (c : He.SaysX faL fnL tsL [] exL w h K) : CT K mg (adOf K) := by
  have d := c.t.d
  have ex : exL K = true := c.more
  obtain ⟨e0, ex⟩ := He.ba ex
  obtain ⟨e1, ex⟩ := He.ba ex
  obtain ⟨e2, ex⟩ := He.ba ex
  obtain ⟨e3, ex⟩ := He.ba ex
  obtain ⟨e4, ex⟩ := He.ba ex
  have e5 := ex
  exact {
    seer := seer_ok e5,
    b_len := He.free_ok X G (d.fact 0 (f := .free "len") (by rfl)),
    b_isinstance := He.free_ok X G (d.fact 1 (f := .free "isinstance") (by rfl)),
    b_range := He.free_ok X G (d.fact 2 (f := .free "range") (by rfl)),
    b_zip := He.free_ok X G (d.fact 3 (f := .free "zip") (by rfl)),
    b_abs := He.free_ok X G (d.fact 4 (f := .free "abs") (by rfl)),
    b_divmod := He.free_ok X G (d.fact 5 (f := .free "divmod") (by rfl)),
    b_min := He.free_ok X G (d.fact 6 (f := .free "min") (by rfl)),
    b_all := He.free_ok X G (d.fact 7 (f := .free "all") (by rfl)),
    b_any := He.free_ok X G (d.fact 8 (f := .free "any") (by rfl)),
    b_list := He.free_ok X G (d.fact 9 (f := .free "list") (by rfl)),
    b_tuple := He.free_ok X G (d.fact 10 (f := .free "tuple") (by rfl)),
    b_str := He.free_ok X G (d.fact 11 (f := .free "str") (by rfl)),
    b_int := He.free_ok X G (d.fact 12 (f := .free "int") (by rfl)),
    b_bool := He.free_ok X G (d.fact 13 (f := .free "bool") (by rfl)),
    b_sum := He.free_ok X G (d.fact 14 (f := .free "sum") (by rfl)),
    b_max := He.free_ok X G (d.fact 15 (f := .free "max") (by rfl)),
    cl_Meter := He.cls_ok (d.fact 26 (f := .cls "Meter") (by rfl)),
    n_Meter_left := He.noat_ok (d.fact 30 (f := .noat "Meter" "left") (by rfl)),
    n_Meter_spent := He.noat_ok (d.fact 31 (f := .noat "Meter" "spent") (by rfl)),
    g_Meter := He.glo_ok X G (d.fact 25 (f := .glo "Meter") (by rfl)),
    cl_FractionChain := He.cls_ok (d.fact 33 (f := .cls "FractionChain") (by rfl)),
    n_FractionChain_top := He.noat_ok (d.fact 37 (f := .noat "FractionChain" "top") (by rfl)),
    n_FractionChain_below := He.noat_ok (d.fact 38 (f := .noat "FractionChain" "below") (by rfl)),
    g_FractionChain := He.glo_ok X G (d.fact 32 (f := .glo "FractionChain") (by rfl)),
    cl_RootChain := He.cls_ok (d.fact 40 (f := .cls "RootChain") (by rfl)),
    n_RootChain_top := He.noat_ok (d.fact 45 (f := .noat "RootChain" "top") (by rfl)),
    n_RootChain_square := He.noat_ok (d.fact 46 (f := .noat "RootChain" "square") (by rfl)),
    n_RootChain_below := He.noat_ok (d.fact 47 (f := .noat "RootChain" "below") (by rfl)),
    n_RootChain_root := He.noat_ok (d.fact 48 (f := .noat "RootChain" "root") (by rfl)),
    g_RootChain := He.glo_ok X G (d.fact 39 (f := .glo "RootChain") (by rfl)),
    cl_RuledChain := He.cls_ok (d.fact 50 (f := .cls "RuledChain") (by rfl)),
    n_RuledChain_parts := He.noat_ok (d.fact 54 (f := .noat "RuledChain" "parts") (by rfl)),
    n_RuledChain_ring := He.noat_ok (d.fact 55 (f := .noat "RuledChain" "ring") (by rfl)),
    n_RuledChain_steps := He.noat_ok (d.fact 56 (f := .noat "RuledChain" "steps") (by rfl)),
    n_RuledChain_at := He.noat_ok (d.fact 57 (f := .noat "RuledChain" "at") (by rfl)),
    g_RuledChain := He.glo_ok X G (d.fact 49 (f := .glo "RuledChain") (by rfl)),
    cl_Leaf := He.cls_ok (d.fact 59 (f := .cls "Leaf") (by rfl)),
    n_Leaf_chain := He.noat_ok (d.fact 62 (f := .noat "Leaf" "chain") (by rfl)),
    g_Leaf := He.glo_ok X G (d.fact 58 (f := .glo "Leaf") (by rfl)),
    cl_FractionBox := He.cls_ok (d.fact 66 (f := .cls "FractionBox") (by rfl)),
    n_FractionBox_top := He.noat_ok (d.fact 70 (f := .noat "FractionBox" "top") (by rfl)),
    n_FractionBox_below := He.noat_ok (d.fact 71 (f := .noat "FractionBox" "below") (by rfl)),
    n_FractionBox_told := He.noat_ok (d.fact 72 (f := .noat "FractionBox" "told") (by rfl)),
    g_FractionBox := He.glo_ok X G (d.fact 65 (f := .glo "FractionBox") (by rfl)),
    cl_FourBox := He.cls_ok (d.fact 74 (f := .cls "FourBox") (by rfl)),
    n_FourBox_numbers := He.noat_ok (d.fact 79 (f := .noat "FourBox" "numbers") (by rfl)),
    n_FourBox_tree := He.noat_ok (d.fact 80 (f := .noat "FourBox" "tree") (by rfl)),
    n_FourBox_started := He.noat_ok (d.fact 81 (f := .noat "FourBox" "started") (by rfl)),
    n_FourBox_told := He.noat_ok (d.fact 82 (f := .noat "FourBox" "told") (by rfl)),
    n_FourBox_rest := He.noat_ok (d.fact 83 (f := .noat "FourBox" "rest") (by rfl)),
    g_FourBox := He.glo_ok X G (d.fact 73 (f := .glo "FourBox") (by rfl)),
    cl_EightBox := He.cls_ok (d.fact 85 (f := .cls "EightBox") (by rfl)),
    n_EightBox_numbers := He.noat_ok (d.fact 91 (f := .noat "EightBox" "numbers") (by rfl)),
    n_EightBox_trees := He.noat_ok (d.fact 92 (f := .noat "EightBox" "trees") (by rfl)),
    n_EightBox_taken := He.noat_ok (d.fact 93 (f := .noat "EightBox" "taken") (by rfl)),
    n_EightBox_told := He.noat_ok (d.fact 94 (f := .noat "EightBox" "told") (by rfl)),
    n_EightBox_rest := He.noat_ok (d.fact 95 (f := .noat "EightBox" "rest") (by rfl)),
    g_EightBox := He.glo_ok X G (d.fact 84 (f := .glo "EightBox") (by rfl)),
    cl_Reading := He.cls_ok (d.fact 123 (f := .cls "Reading") (by rfl)),
    n_Reading_box := He.noat_ok (d.fact 127 (f := .noat "Reading" "box") (by rfl)),
    n_Reading_meter := He.noat_ok (d.fact 128 (f := .noat "Reading" "meter") (by rfl)),
    g_Reading := He.glo_ok X G (d.fact 122 (f := .glo "Reading") (by rfl)),
    g_END := He.glo_ok X G (d.fact 23 (f := .glo "END") (by rfl)),
    t_END := fun H => He.tupB_ok e0 H,
    g_WAITS := He.glo_ok X G (d.fact 24 (f := .glo "WAITS") (by rfl)),
    t_WAITS := fun H => He.tupB_ok e1 H,
    g_TIMES := He.glo_ok X G (d.fact 121 (f := .glo "TIMES") (by rfl)),
    t_TIMES := fun H => He.tupB_ok e4 H,
    i_MOST_NUMBER := He.int_ok X G (d.fact 103 (f := .int "MOST_NUMBER" 1000000000000) (by rfl)),
    i_MOST_DEPTH := He.int_ok X G (d.fact 104 (f := .int "MOST_DEPTH" 5) (by rfl)),
    i_MOST_PARTS := He.int_ok X G (d.fact 105 (f := .int "MOST_PARTS" 12) (by rfl)),
    i_MOST_POWER := He.int_ok X G (d.fact 106 (f := .int "MOST_POWER" 4) (by rfl)),
    g_LENGTHS := He.glo_ok X G (d.fact 119 (f := .glo "LENGTHS") (by rfl)),
    g_CHECKS := He.glo_ok X G (d.fact 120 (f := .glo "CHECKS") (by rfl)),
    x_NoValue := ⟨He.glo_ok X G (d.fact 21 (f := .glo "NoValue") (by rfl)), (He.exc_ok (d.fact 16 (f := .exc "NoValue") (by rfl))).1, (He.exc_ok (d.fact 16 (f := .exc "NoValue") (by rfl))).2.1, (He.exc_ok (d.fact 16 (f := .exc "NoValue") (by rfl))).2.2.1, (He.exc_ok (d.fact 16 (f := .exc "NoValue") (by rfl))).2.2.2⟩ }
theorem tb_of (X : K.In h) (G : h.Ns mainGlobals mg) (c : He.SaysX faL fnL tsL [] exL w h K) : TB K w mg (adOf K) := by
  have d := c.t.d
  have ex : exL K = true := c.more
  obtain ⟨e0, ex⟩ := He.ba ex
  obtain ⟨e1, ex⟩ := He.ba ex
  obtain ⟨e2, ex⟩ := He.ba ex
  obtain ⟨e3, ex⟩ := He.ba ex
  obtain ⟨e4, ex⟩ := He.ba ex
  have e5 := ex
  refine ⟨c.t.tab 0 (t := (fun K => He.ga K "LENGTHS", ["fraction", "root", "ruled", "four", "eight", "power"])) (by rfl), c.t.tab 1 (t := (fun K => He.ga K "CHECKS", ["fraction", "root", "ruled", "four", "eight", "power"])) (by rfl), fun x n hm => ?_, fun x y f hm hf => ?_⟩
  · simp only [List.mem_cons, Prod.mk.injEq, List.not_mem_nil, or_false] at hm
    rcases hm with ⟨rfl, rfl⟩ | ⟨rfl, rfl⟩ | ⟨rfl, rfl⟩ | ⟨rfl, rfl⟩ | ⟨rfl, rfl⟩ | ⟨rfl, rfl⟩
    · obtain ⟨u, e, t, rfl⟩ := He.valsB_ok e2 (q := ("fraction", .int 3)) (by simp)
      exact ⟨t, e⟩
    · obtain ⟨u, e, t, rfl⟩ := He.valsB_ok e2 (q := ("root", .int 4)) (by simp)
      exact ⟨t, e⟩
    · obtain ⟨u, e, t, rfl⟩ := He.valsB_ok e2 (q := ("ruled", .int 4)) (by simp)
      exact ⟨t, e⟩
    · obtain ⟨u, e, t, rfl⟩ := He.valsB_ok e2 (q := ("four", .int 3)) (by simp)
      exact ⟨t, e⟩
    · obtain ⟨u, e, t, rfl⟩ := He.valsB_ok e2 (q := ("eight", .int 4)) (by simp)
      exact ⟨t, e⟩
    · obtain ⟨u, e, t, rfl⟩ := He.valsB_ok e2 (q := ("power", .int 3)) (by simp)
      exact ⟨t, e⟩
  · simp only [List.mem_cons, Prod.mk.injEq, List.not_mem_nil, or_false] at hm
    rcases hm with ⟨rfl, rfl⟩ | ⟨rfl, rfl⟩ | ⟨rfl, rfl⟩ | ⟨rfl, rfl⟩ | ⟨rfl, rfl⟩ | ⟨rfl, rfl⟩
    · obtain ⟨u, e, r⟩ := He.valsB_ok e3 (q := ("fraction", .glo "check_fraction")) (by simp)
      have g := (He.glo_ok X G (d.fact 112 (f := .glo "check_fraction") (by rfl))).symm.trans hf
      cases g
      cases r
      exact e
    · obtain ⟨u, e, r⟩ := He.valsB_ok e3 (q := ("root", .glo "check_root")) (by simp)
      have g := (He.glo_ok X G (d.fact 113 (f := .glo "check_root") (by rfl))).symm.trans hf
      cases g
      cases r
      exact e
    · obtain ⟨u, e, r⟩ := He.valsB_ok e3 (q := ("ruled", .glo "check_ruled")) (by simp)
      have g := (He.glo_ok X G (d.fact 114 (f := .glo "check_ruled") (by rfl))).symm.trans hf
      cases g
      cases r
      exact e
    · obtain ⟨u, e, r⟩ := He.valsB_ok e3 (q := ("four", .glo "check_four")) (by simp)
      have g := (He.glo_ok X G (d.fact 115 (f := .glo "check_four") (by rfl))).symm.trans hf
      cases g
      cases r
      exact e
    · obtain ⟨u, e, r⟩ := He.valsB_ok e3 (q := ("eight", .glo "check_eight")) (by simp)
      have g := (He.glo_ok X G (d.fact 116 (f := .glo "check_eight") (by rfl))).symm.trans hf
      cases g
      cases r
      exact e
    · obtain ⟨u, e, r⟩ := He.valsB_ok e3 (q := ("power", .glo "check_power")) (by simp)
      have g := (He.glo_ok X G (d.fact 118 (f := .glo "check_power") (by rfl))).symm.trans hf
      cases g
      cases r
      exact e
theorem dt_of (X : K.In h) (G : h.Ns mainGlobals mg) (c : He.SaysX faL fnL tsL [] exL w h K) : DT K mg (adOf K) := by
  have d := c.t.d
  exact {
    wall := by
      obtain ⟨fd, F0⟩ := d.def_ 0 (d := d_wall) (by rfl)
      have F := fun_ofD (st := s_wall) F0
      exact ⟨_, fd, F, He.glo_ok X G (d.fact 18 (f := .glo "_wall") (by rfl)), (F.binds (ps := ["k"]) fun _ _ _ _ _ _ us hl => match us, hl with | [_], _ => rfl)⟩
    root_below := by
      obtain ⟨fd, F0⟩ := d.def_ 1 (d := d_root_below) (by rfl)
      have F := fun_ofD (st := s_root_below) F0
      exact ⟨_, fd, F, He.glo_ok X G (d.fact 22 (f := .glo "root_below") (by rfl)), (F.binds (ps := ["number"]) fun _ _ _ _ _ _ us hl => match us, hl with | [_], _ => rfl)⟩
    Meter_init := by
      obtain ⟨fd, F0⟩ := d.def_ 2 (d := d_Meter_init) (by rfl)
      have F := fun_ofD (st := s_Meter_init) F0
      exact ⟨_, fd, F, He.mkr_ok (d.fact 27 (f := .mkr "Meter") (by rfl)), (F.binds (ps := ["self"]) fun _ _ _ _ _ _ us hl => match us, hl with | [_], _ => rfl)⟩
    Meter_allow := by
      obtain ⟨fd, F0⟩ := d.def_ 3 (d := d_Meter_allow) (by rfl)
      have F := fun_ofD (st := s_Meter_allow) F0
      exact ⟨_, fd, F, He.meth_ok (d.fact 28 (f := .meth "Meter" "allow") (by rfl)), (F.binds (ps := ["self", "most"]) fun _ _ _ _ _ _ us hl => match us, hl with | [_, _], _ => rfl)⟩
    Meter_pay := by
      obtain ⟨fd, F0⟩ := d.def_ 4 (d := d_Meter_pay) (by rfl)
      have F := fun_ofD (st := s_Meter_pay) F0
      exact ⟨_, fd, F, He.meth_ok (d.fact 29 (f := .meth "Meter" "pay") (by rfl)), (F.binds (ps := ["self"]) fun _ _ _ _ _ _ us hl => match us, hl with | [_], _ => rfl)⟩
    FractionChain_init := by
      obtain ⟨fd, F0⟩ := d.def_ 5 (d := d_FractionChain_init) (by rfl)
      have F := fun_ofD (st := s_FractionChain_init) F0
      exact ⟨_, fd, F, He.mkr_ok (d.fact 34 (f := .mkr "FractionChain") (by rfl)), (F.binds (ps := ["self", "top", "below"]) fun _ _ _ _ _ _ us hl => match us, hl with | [_, _, _], _ => rfl)⟩
    FractionChain_has_ended := by
      obtain ⟨fd, F0⟩ := d.def_ 6 (d := d_FractionChain_has_ended) (by rfl)
      have F := fun_ofD (st := s_FractionChain_has_ended) F0
      exact ⟨_, fd, F, He.meth_ok (d.fact 35 (f := .meth "FractionChain" "has_ended") (by rfl)), (F.binds (ps := ["self"]) fun _ _ _ _ _ _ us hl => match us, hl with | [_], _ => rfl)⟩
    FractionChain_next_part := by
      obtain ⟨fd, F0⟩ := d.def_ 7 (d := d_FractionChain_next_part) (by rfl)
      have F := fun_ofD (st := s_FractionChain_next_part) F0
      exact ⟨_, fd, F, He.meth_ok (d.fact 36 (f := .meth "FractionChain" "next_part") (by rfl)), (F.binds (ps := ["self"]) fun _ _ _ _ _ _ us hl => match us, hl with | [_], _ => rfl)⟩
    RootChain_init := by
      obtain ⟨fd, F0⟩ := d.def_ 8 (d := d_RootChain_init) (by rfl)
      have F := fun_ofD (st := s_RootChain_init) F0
      exact ⟨_, fd, F, He.mkr_ok (d.fact 41 (f := .mkr "RootChain") (by rfl)), (F.binds (ps := ["self", "top", "square", "below"]) fun _ _ _ _ _ _ us hl => match us, hl with | [_, _, _, _], _ => rfl)⟩
    RootChain_has_ended := by
      obtain ⟨fd, F0⟩ := d.def_ 9 (d := d_RootChain_has_ended) (by rfl)
      have F := fun_ofD (st := s_RootChain_has_ended) F0
      exact ⟨_, fd, F, He.meth_ok (d.fact 42 (f := .meth "RootChain" "has_ended") (by rfl)), (F.binds (ps := ["self"]) fun _ _ _ _ _ _ us hl => match us, hl with | [_], _ => rfl)⟩
    RootChain_next_part := by
      obtain ⟨fd, F0⟩ := d.def_ 10 (d := d_RootChain_next_part) (by rfl)
      have F := fun_ofD (st := s_RootChain_next_part) F0
      exact ⟨_, fd, F, He.meth_ok (d.fact 43 (f := .meth "RootChain" "next_part") (by rfl)), (F.binds (ps := ["self"]) fun _ _ _ _ _ _ us hl => match us, hl with | [_], _ => rfl)⟩
    RootChain_what_is_left := by
      obtain ⟨fd, F0⟩ := d.def_ 11 (d := d_RootChain_what_is_left) (by rfl)
      have F := fun_ofD (st := s_RootChain_what_is_left) F0
      exact ⟨_, fd, F, He.meth_ok (d.fact 44 (f := .meth "RootChain" "what_is_left") (by rfl)), (F.binds (ps := ["self"]) fun _ _ _ _ _ _ us hl => match us, hl with | [_], _ => rfl)⟩
    RuledChain_init := by
      obtain ⟨fd, F0⟩ := d.def_ 12 (d := d_RuledChain_init) (by rfl)
      have F := fun_ofD (st := s_RuledChain_init) F0
      exact ⟨_, fd, F, He.mkr_ok (d.fact 51 (f := .mkr "RuledChain") (by rfl)), (F.binds (ps := ["self", "parts", "ring", "steps"]) fun _ _ _ _ _ _ us hl => match us, hl with | [_, _, _, _], _ => rfl)⟩
    RuledChain_has_ended := by
      obtain ⟨fd, F0⟩ := d.def_ 13 (d := d_RuledChain_has_ended) (by rfl)
      have F := fun_ofD (st := s_RuledChain_has_ended) F0
      exact ⟨_, fd, F, He.meth_ok (d.fact 52 (f := .meth "RuledChain" "has_ended") (by rfl)), (F.binds (ps := ["self"]) fun _ _ _ _ _ _ us hl => match us, hl with | [_], _ => rfl)⟩
    RuledChain_next_part := by
      obtain ⟨fd, F0⟩ := d.def_ 14 (d := d_RuledChain_next_part) (by rfl)
      have F := fun_ofD (st := s_RuledChain_next_part) F0
      exact ⟨_, fd, F, He.meth_ok (d.fact 53 (f := .meth "RuledChain" "next_part") (by rfl)), (F.binds (ps := ["self"]) fun _ _ _ _ _ _ us hl => match us, hl with | [_], _ => rfl)⟩
    Leaf_init := by
      obtain ⟨fd, F0⟩ := d.def_ 15 (d := d_Leaf_init) (by rfl)
      have F := fun_ofD (st := s_Leaf_init) F0
      exact ⟨_, fd, F, He.mkr_ok (d.fact 60 (f := .mkr "Leaf") (by rfl)), (F.binds (ps := ["self", "chain"]) fun _ _ _ _ _ _ us hl => match us, hl with | [_, _], _ => rfl)⟩
    Leaf_ask := by
      obtain ⟨fd, F0⟩ := d.def_ 16 (d := d_Leaf_ask) (by rfl)
      have F := fun_ofD (st := s_Leaf_ask) F0
      exact ⟨_, fd, F, He.meth_ok (d.fact 61 (f := .meth "Leaf" "ask") (by rfl)), (F.binds (ps := ["self", "meter"]) fun _ _ _ _ _ _ us hl => match us, hl with | [_, _], _ => rfl)⟩
    leaf_of := by
      obtain ⟨fd, F0⟩ := d.def_ 17 (d := d_leaf_of) (by rfl)
      have F := fun_ofD (st := s_leaf_of) F0
      exact ⟨_, fd, F, He.glo_ok X G (d.fact 63 (f := .glo "leaf_of") (by rfl)), (F.binds (ps := ["tree"]) fun _ _ _ _ _ _ us hl => match us, hl with | [_], _ => rfl)⟩
    root_chain := by
      obtain ⟨fd, F0⟩ := d.def_ 18 (d := d_root_chain) (by rfl)
      have F := fun_ofD (st := s_root_chain) F0
      exact ⟨_, fd, F, He.glo_ok X G (d.fact 64 (f := .glo "root_chain") (by rfl)), (F.binds (ps := ["top", "square", "below"]) fun _ _ _ _ _ _ us hl => match us, hl with | [_, _, _], _ => rfl)⟩
    FractionBox_init := by
      obtain ⟨fd, F0⟩ := d.def_ 19 (d := d_FractionBox_init) (by rfl)
      have F := fun_ofD (st := s_FractionBox_init) F0
      exact ⟨_, fd, F, He.mkr_ok (d.fact 67 (f := .mkr "FractionBox") (by rfl)), (F.binds (ps := ["self", "top", "below", "told"]) fun _ _ _ _ _ _ us hl => match us, hl with | [_, _, _, _], _ => rfl)⟩
    FractionBox_ask := by
      obtain ⟨fd, F0⟩ := d.def_ 20 (d := d_FractionBox_ask) (by rfl)
      have F := fun_ofD (st := s_FractionBox_ask) F0
      exact ⟨_, fd, F, He.meth_ok (d.fact 68 (f := .meth "FractionBox" "ask") (by rfl)), (F.binds (ps := ["self", "meter"]) fun _ _ _ _ _ _ us hl => match us, hl with | [_, _], _ => rfl)⟩
    FractionBox_nothing_left := by
      obtain ⟨fd, F0⟩ := d.def_ 21 (d := d_FractionBox_nothing_left) (by rfl)
      have F := fun_ofD (st := s_FractionBox_nothing_left) F0
      exact ⟨_, fd, F, He.meth_ok (d.fact 69 (f := .meth "FractionBox" "nothing_left") (by rfl)), (F.binds (ps := ["self"]) fun _ _ _ _ _ _ us hl => match us, hl with | [_], _ => rfl)⟩
    FourBox_init := by
      obtain ⟨fd, F0⟩ := d.def_ 22 (d := d_FourBox_init) (by rfl)
      have F := fun_ofD (st := s_FourBox_init) F0
      exact ⟨_, fd, F, He.mkr_ok (d.fact 75 (f := .mkr "FourBox") (by rfl)), (F.binds (ps := ["self", "numbers", "tree", "started", "told"]) fun _ _ _ _ _ _ us hl => match us, hl with | [_, _, _, _, _], _ => rfl)⟩
    FourBox_ask := by
      obtain ⟨fd, F0⟩ := d.def_ 23 (d := d_FourBox_ask) (by rfl)
      have F := fun_ofD (st := s_FourBox_ask) F0
      exact ⟨_, fd, F, He.meth_ok (d.fact 76 (f := .meth "FourBox" "ask") (by rfl)), (F.binds (ps := ["self", "meter"]) fun _ _ _ _ _ _ us hl => match us, hl with | [_, _], _ => rfl)⟩
    FourBox_tell := by
      obtain ⟨fd, F0⟩ := d.def_ 24 (d := d_FourBox_tell) (by rfl)
      have F := fun_ofD (st := s_FourBox_tell) F0
      exact ⟨_, fd, F, He.meth_ok (d.fact 77 (f := .meth "FourBox" "tell") (by rfl)), (F.binds (ps := ["self", "part"]) fun _ _ _ _ _ _ us hl => match us, hl with | [_, _], _ => rfl)⟩
    FourBox_take := by
      obtain ⟨fd, F0⟩ := d.def_ 25 (d := d_FourBox_take) (by rfl)
      have F := fun_ofD (st := s_FourBox_take) F0
      exact ⟨_, fd, F, He.meth_ok (d.fact 78 (f := .meth "FourBox" "take") (by rfl)), (F.binds (ps := ["self", "answer"]) fun _ _ _ _ _ _ us hl => match us, hl with | [_, _], _ => rfl)⟩
    EightBox_init := by
      obtain ⟨fd, F0⟩ := d.def_ 26 (d := d_EightBox_init) (by rfl)
      have F := fun_ofD (st := s_EightBox_init) F0
      exact ⟨_, fd, F, He.mkr_ok (d.fact 86 (f := .mkr "EightBox") (by rfl)), (F.binds (ps := ["self", "numbers", "one", "other"]) fun _ _ _ _ _ _ us hl => match us, hl with | [_, _, _, _], _ => rfl)⟩
    EightBox_ask := by
      obtain ⟨fd, F0⟩ := d.def_ 27 (d := d_EightBox_ask) (by rfl)
      have F := fun_ofD (st := s_EightBox_ask) F0
      exact ⟨_, fd, F, He.meth_ok (d.fact 87 (f := .meth "EightBox" "ask") (by rfl)), (F.binds (ps := ["self", "meter"]) fun _ _ _ _ _ _ us hl => match us, hl with | [_, _], _ => rfl)⟩
    EightBox_tell := by
      obtain ⟨fd, F0⟩ := d.def_ 28 (d := d_EightBox_tell) (by rfl)
      have F := fun_ofD (st := s_EightBox_tell) F0
      exact ⟨_, fd, F, He.meth_ok (d.fact 88 (f := .meth "EightBox" "tell") (by rfl)), (F.binds (ps := ["self", "part"]) fun _ _ _ _ _ _ us hl => match us, hl with | [_, _], _ => rfl)⟩
    EightBox_take := by
      obtain ⟨fd, F0⟩ := d.def_ 29 (d := d_EightBox_take) (by rfl)
      have F := fun_ofD (st := s_EightBox_take) F0
      exact ⟨_, fd, F, He.meth_ok (d.fact 89 (f := .meth "EightBox" "take") (by rfl)), (F.binds (ps := ["self", "which", "answer"]) fun _ _ _ _ _ _ us hl => match us, hl with | [_, _, _], _ => rfl)⟩
    EightBox_left_without := by
      obtain ⟨fd, F0⟩ := d.def_ 30 (d := d_EightBox_left_without) (by rfl)
      have F := fun_ofD (st := s_EightBox_left_without) F0
      exact ⟨_, fd, F, He.meth_ok (d.fact 90 (f := .meth "EightBox" "left_without") (by rfl)), (F.binds (ps := ["self", "which"]) fun _ _ _ _ _ _ us hl => match us, hl with | [_, _], _ => rfl)⟩
    box_of_one := by
      obtain ⟨fd, F0⟩ := d.def_ 31 (d := d_box_of_one) (by rfl)
      have F := fun_ofD (st := s_box_of_one) F0
      exact ⟨_, fd, F, He.glo_ok X G (d.fact 96 (f := .glo "box_of_one") (by rfl)), (F.binds (ps := ["numbers", "tree", "told"]) fun _ _ _ _ _ _ us hl => match us, hl with | [_, _, _], _ => rfl)⟩
    with_first_part := by
      obtain ⟨fd, F0⟩ := d.def_ 32 (d := d_with_first_part) (by rfl)
      have F := fun_ofD (st := s_with_first_part) F0
      exact ⟨_, fd, F, He.glo_ok X G (d.fact 97 (f := .glo "with_first_part") (by rfl)), (F.binds (ps := ["numbers", "part"]) fun _ _ _ _ _ _ us hl => match us, hl with | [_, _], _ => rfl)⟩
    with_second_part := by
      obtain ⟨fd, F0⟩ := d.def_ 33 (d := d_with_second_part) (by rfl)
      have F := fun_ofD (st := s_with_second_part) F0
      exact ⟨_, fd, F, He.glo_ok X G (d.fact 98 (f := .glo "with_second_part") (by rfl)), (F.binds (ps := ["numbers", "part"]) fun _ _ _ _ _ _ us hl => match us, hl with | [_, _], _ => rfl)⟩
    turned_over := by
      obtain ⟨fd, F0⟩ := d.def_ 34 (d := d_turned_over) (by rfl)
      have F := fun_ofD (st := s_turned_over) F0
      exact ⟨_, fd, F, He.glo_ok X G (d.fact 99 (f := .glo "turned_over") (by rfl)), (F.binds (ps := ["numbers", "part"]) fun _ _ _ _ _ _ us hl => match us, hl with | [_, _], _ => rfl)⟩
    four_corners := by
      obtain ⟨fd, F0⟩ := d.def_ 35 (d := d_four_corners) (by rfl)
      have F := fun_ofD (st := s_four_corners) F0
      exact ⟨_, fd, F, He.glo_ok X G (d.fact 100 (f := .glo "four_corners") (by rfl)), (F.binds (ps := ["numbers"]) fun _ _ _ _ _ _ us hl => match us, hl with | [_], _ => rfl)⟩
    eight_corners := by
      obtain ⟨fd, F0⟩ := d.def_ 36 (d := d_eight_corners) (by rfl)
      have F := fun_ofD (st := s_eight_corners) F0
      exact ⟨_, fd, F, He.glo_ok X G (d.fact 101 (f := .glo "eight_corners") (by rfl)), (F.binds (ps := ["numbers"]) fun _ _ _ _ _ _ us hl => match us, hl with | [_], _ => rfl)⟩
    sure_part := by
      obtain ⟨fd, F0⟩ := d.def_ 37 (d := d_sure_part) (by rfl)
      have F := fun_ofD (st := s_sure_part) F0
      exact ⟨_, fd, F, He.glo_ok X G (d.fact 102 (f := .glo "sure_part") (by rfl)), (F.binds (ps := ["corners"]) fun _ _ _ _ _ _ us hl => match us, hl with | [_], _ => rfl)⟩
    check_tree := by
      obtain ⟨fd, F0⟩ := d.def_ 38 (d := d_check_tree) (by rfl)
      have F := fun_ofD (st := s_check_tree) F0
      exact ⟨_, fd, F, He.glo_ok X G (d.fact 107 (f := .glo "check_tree") (by rfl)), (F.binds (ps := ["tree"]) fun _ _ _ _ _ _ us hl => match us, hl with | [_], _ => rfl)⟩
    check_at_depth := by
      obtain ⟨fd, F0⟩ := d.def_ 39 (d := d_check_at_depth) (by rfl)
      have F := fun_ofD (st := s_check_at_depth) F0
      exact ⟨_, fd, F, He.glo_ok X G (d.fact 108 (f := .glo "check_at_depth") (by rfl)), (F.binds (ps := ["tree", "depth"]) fun _ _ _ _ _ _ us hl => match us, hl with | [_, _], _ => rfl)⟩
    require := by
      obtain ⟨fd, F0⟩ := d.def_ 40 (d := d_require) (by rfl)
      have F := fun_ofD (st := s_require) F0
      exact ⟨_, fd, F, He.glo_ok X G (d.fact 109 (f := .glo "require") (by rfl)), (F.binds (ps := ["holds", "why"]) fun _ _ _ _ _ _ us hl => match us, hl with | [_, _], _ => rfl)⟩
    check_row := by
      obtain ⟨fd, F0⟩ := d.def_ 41 (d := d_check_row) (by rfl)
      have F := fun_ofD (st := s_check_row) F0
      exact ⟨_, fd, F, He.glo_ok X G (d.fact 110 (f := .glo "check_row") (by rfl)), (F.binds (ps := ["row", "fewest", "most"]) fun _ _ _ _ _ _ us hl => match us, hl with | [_, _, _], _ => rfl)⟩
    is_whole := by
      obtain ⟨fd, F0⟩ := d.def_ 42 (d := d_is_whole) (by rfl)
      have F := fun_ofD (st := s_is_whole) F0
      exact ⟨_, fd, F, He.glo_ok X G (d.fact 111 (f := .glo "is_whole") (by rfl)), (F.binds (ps := ["number"]) fun _ _ _ _ _ _ us hl => match us, hl with | [_], _ => rfl)⟩
    check_fraction := by
      obtain ⟨fd, F0⟩ := d.def_ 43 (d := d_check_fraction) (by rfl)
      have F := fun_ofD (st := s_check_fraction) F0
      exact ⟨_, fd, F, He.glo_ok X G (d.fact 112 (f := .glo "check_fraction") (by rfl)), (F.binds (ps := ["tree", "depth"]) fun _ _ _ _ _ _ us hl => match us, hl with | [_, _], _ => rfl)⟩
    check_root := by
      obtain ⟨fd, F0⟩ := d.def_ 44 (d := d_check_root) (by rfl)
      have F := fun_ofD (st := s_check_root) F0
      exact ⟨_, fd, F, He.glo_ok X G (d.fact 113 (f := .glo "check_root") (by rfl)), (F.binds (ps := ["tree", "depth"]) fun _ _ _ _ _ _ us hl => match us, hl with | [_, _], _ => rfl)⟩
    check_ruled := by
      obtain ⟨fd, F0⟩ := d.def_ 45 (d := d_check_ruled) (by rfl)
      have F := fun_ofD (st := s_check_ruled) F0
      exact ⟨_, fd, F, He.glo_ok X G (d.fact 114 (f := .glo "check_ruled") (by rfl)), (F.binds (ps := ["tree", "depth"]) fun _ _ _ _ _ _ us hl => match us, hl with | [_, _], _ => rfl)⟩
    check_four := by
      obtain ⟨fd, F0⟩ := d.def_ 46 (d := d_check_four) (by rfl)
      have F := fun_ofD (st := s_check_four) F0
      exact ⟨_, fd, F, He.glo_ok X G (d.fact 115 (f := .glo "check_four") (by rfl)), (F.binds (ps := ["tree", "depth"]) fun _ _ _ _ _ _ us hl => match us, hl with | [_, _], _ => rfl)⟩
    check_eight := by
      obtain ⟨fd, F0⟩ := d.def_ 47 (d := d_check_eight) (by rfl)
      have F := fun_ofD (st := s_check_eight) F0
      exact ⟨_, fd, F, He.glo_ok X G (d.fact 116 (f := .glo "check_eight") (by rfl)), (F.binds (ps := ["tree", "depth"]) fun _ _ _ _ _ _ us hl => match us, hl with | [_, _], _ => rfl)⟩
    check_line := by
      obtain ⟨fd, F0⟩ := d.def_ 48 (d := d_check_line) (by rfl)
      have F := fun_ofD (st := s_check_line) F0
      exact ⟨_, fd, F, He.glo_ok X G (d.fact 117 (f := .glo "check_line") (by rfl)), (F.binds (ps := ["numbers"]) fun _ _ _ _ _ _ us hl => match us, hl with | [_], _ => rfl)⟩
    check_power := by
      obtain ⟨fd, F0⟩ := d.def_ 49 (d := d_check_power) (by rfl)
      have F := fun_ofD (st := s_check_power) F0
      exact ⟨_, fd, F, He.glo_ok X G (d.fact 118 (f := .glo "check_power") (by rfl)), (F.binds (ps := ["tree", "depth"]) fun _ _ _ _ _ _ us hl => match us, hl with | [_, _], _ => rfl)⟩
    Reading_init := by
      obtain ⟨fd, F0⟩ := d.def_ 50 (d := d_Reading_init) (by rfl)
      have F := fun_ofD (st := s_Reading_init) F0
      exact ⟨_, fd, F, He.mkr_ok (d.fact 124 (f := .mkr "Reading") (by rfl)), (F.binds (ps := ["self", "box"]) fun _ _ _ _ _ _ us hl => match us, hl with | [_, _], _ => rfl)⟩
    Reading_part := by
      obtain ⟨fd, F0⟩ := d.def_ 51 (d := d_Reading_part) (by rfl)
      have F := fun_ofD (st := s_Reading_part) F0
      exact ⟨_, fd, F, He.meth_ok (d.fact 125 (f := .meth "Reading" "part") (by rfl)), (F.binds (ps := ["self", "most"]) fun _ _ _ _ _ _ us hl => match us, hl with | [_, _], _ => rfl)⟩
    Reading_took := by
      obtain ⟨fd, F0⟩ := d.def_ 52 (d := d_Reading_took) (by rfl)
      have F := fun_ofD (st := s_Reading_took) F0
      exact ⟨_, fd, F, He.meth_ok (d.fact 126 (f := .meth "Reading" "took") (by rfl)), (F.binds (ps := ["self"]) fun _ _ _ _ _ _ us hl => match us, hl with | [_], _ => rfl)⟩
    reader := by
      obtain ⟨fd, F0⟩ := d.def_ 53 (d := d_reader) (by rfl)
      have F := fun_ofD (st := s_reader) F0
      exact ⟨_, fd, F, He.glo_ok X G (d.fact 129 (f := .glo "reader") (by rfl)), (F.binds (ps := ["tree"]) fun _ _ _ _ _ _ us hl => match us, hl with | [_], _ => rfl)⟩
    box_of := by
      obtain ⟨fd, F0⟩ := d.def_ 54 (d := d_box_of) (by rfl)
      have F := fun_ofD (st := s_box_of) F0
      exact ⟨_, fd, F, He.glo_ok X G (d.fact 130 (f := .glo "box_of") (by rfl)), (F.binds (ps := ["tree"]) fun _ _ _ _ _ _ us hl => match us, hl with | [_], _ => rfl)⟩
    power_box := by
      obtain ⟨fd, F0⟩ := d.def_ 55 (d := d_power_box) (by rfl)
      have F := fun_ofD (st := s_power_box) F0
      exact ⟨_, fd, F, He.glo_ok X G (d.fact 131 (f := .glo "power_box") (by rfl)), (F.binds (ps := ["tree", "times"]) fun _ _ _ _ _ _ us hl => match us, hl with | [_, _], _ => rfl)⟩
    law_row := by
      obtain ⟨fd, F0⟩ := d.def_ 56 (d := d_law_row) (by rfl)
      have F := fun_ofD (st := s_law_row) F0
      exact ⟨_, fd, F, He.glo_ok X G (d.fact 132 (f := .glo "_law_row") (by rfl)), (F.binds (ps := ["_law_script"]) fun _ _ _ _ _ _ us hl => match us, hl with | [_], _ => rfl)⟩
    law_taken := by
      obtain ⟨fd, F0⟩ := d.def_ 57 (d := d_law_taken) (by rfl)
      have F := fun_ofD (st := s_law_taken) F0
      exact ⟨_, fd, F, He.glo_ok X G (d.fact 133 (f := .glo "_law_taken") (by rfl)), (F.binds (ps := ["_law_row_here", "_law_many"]) fun _ _ _ _ _ _ us hl => match us, hl with | [_, _], _ => rfl)⟩
    law_whole := by
      obtain ⟨fd, F0⟩ := d.def_ 58 (d := d_law_whole) (by rfl)
      have F := fun_ofD (st := s_law_whole) F0
      exact ⟨_, fd, F, He.glo_ok X G (d.fact 134 (f := .glo "_law_whole") (by rfl)), (F.binds (ps := ["_law_found"]) fun _ _ _ _ _ _ us hl => match us, hl with | [_], _ => rfl)⟩
    law_signed := by
      obtain ⟨fd, F0⟩ := d.def_ 59 (d := d_law_signed) (by rfl)
      have F := fun_ofD (st := s_law_signed) F0
      exact ⟨_, fd, F, He.glo_ok X G (d.fact 135 (f := .glo "_law_signed") (by rfl)), (F.binds (ps := ["_law_row_here", "_law_most"]) fun _ _ _ _ _ _ us hl => match us, hl with | [_, _], _ => rfl)⟩
    law_root := by
      obtain ⟨fd, F0⟩ := d.def_ 60 (d := d_law_root) (by rfl)
      have F := fun_ofD (st := s_law_root) F0
      exact ⟨_, fd, F, He.glo_ok X G (d.fact 136 (f := .glo "_law_root") (by rfl)), (F.binds (ps := ["_law_number"]) fun _ _ _ _ _ _ us hl => match us, hl with | [_], _ => rfl)⟩
    law_common := by
      obtain ⟨fd, F0⟩ := d.def_ 61 (d := d_law_common) (by rfl)
      have F := fun_ofD (st := s_law_common) F0
      exact ⟨_, fd, F, He.glo_ok X G (d.fact 137 (f := .glo "_law_common") (by rfl)), (F.binds (ps := ["_law_one", "_law_other"]) fun _ _ _ _ _ _ us hl => match us, hl with | [_, _], _ => rfl)⟩
    law_lowest := by
      obtain ⟨fd, F0⟩ := d.def_ 62 (d := d_law_lowest) (by rfl)
      have F := fun_ofD (st := s_law_lowest) F0
      exact ⟨_, fd, F, He.glo_ok X G (d.fact 138 (f := .glo "_law_lowest") (by rfl)), (F.binds (ps := ["_law_top", "_law_below_here"]) fun _ _ _ _ _ _ us hl => match us, hl with | [_, _], _ => rfl)⟩
    law_made := by
      obtain ⟨fd, F0⟩ := d.def_ 63 (d := d_law_made) (by rfl)
      have F := fun_ofD (st := s_law_made) F0
      exact ⟨_, fd, F, He.glo_ok X G (d.fact 139 (f := .glo "_law_made") (by rfl)), (F.binds (ps := ["_law_a", "_law_b", "_law_c"]) fun _ _ _ _ _ _ us hl => match us, hl with | [_, _, _], _ => rfl)⟩
    law_sum := by
      obtain ⟨fd, F0⟩ := d.def_ 64 (d := d_law_sum) (by rfl)
      have F := fun_ofD (st := s_law_sum) F0
      exact ⟨_, fd, F, He.glo_ok X G (d.fact 140 (f := .glo "_law_sum") (by rfl)), (F.binds (ps := ["_law_one", "_law_other", "_law_by"]) fun _ _ _ _ _ _ us hl => match us, hl with | [_, _, _], _ => rfl)⟩
    law_product := by
      obtain ⟨fd, F0⟩ := d.def_ 65 (d := d_law_product) (by rfl)
      have F := fun_ofD (st := s_law_product) F0
      exact ⟨_, fd, F, He.glo_ok X G (d.fact 141 (f := .glo "_law_product") (by rfl)), (F.binds (ps := ["_law_one", "_law_other", "_law_d"]) fun _ _ _ _ _ _ us hl => match us, hl with | [_, _, _], _ => rfl)⟩
    law_quotient := by
      obtain ⟨fd, F0⟩ := d.def_ 66 (d := d_law_quotient) (by rfl)
      have F := fun_ofD (st := s_law_quotient) F0
      exact ⟨_, fd, F, He.glo_ok X G (d.fact 142 (f := .glo "_law_quotient") (by rfl)), (F.binds (ps := ["_law_one", "_law_other", "_law_d"]) fun _ _ _ _ _ _ us hl => match us, hl with | [_, _, _], _ => rfl)⟩
    law_below := by
      obtain ⟨fd, F0⟩ := d.def_ 67 (d := d_law_below) (by rfl)
      have F := fun_ofD (st := s_law_below) F0
      exact ⟨_, fd, F, He.glo_ok X G (d.fact 143 (f := .glo "_law_below") (by rfl)), (F.binds (ps := ["_law_one", "_law_d"]) fun _ _ _ _ _ _ us hl => match us, hl with | [_, _], _ => rfl)⟩
    law_parts := by
      obtain ⟨fd, F0⟩ := d.def_ 68 (d := d_law_parts) (by rfl)
      have F := fun_ofD (st := s_law_parts) F0
      exact ⟨_, fd, F, He.glo_ok X G (d.fact 144 (f := .glo "_law_parts") (by rfl)), (F.binds (ps := ["_law_one", "_law_d", "_law_many"]) fun _ _ _ _ _ _ us hl => match us, hl with | [_, _, _], _ => rfl)⟩
    law_mix := by
      obtain ⟨fd, F0⟩ := d.def_ 69 (d := d_law_mix) (by rfl)
      have F := fun_ofD (st := s_law_mix) F0
      exact ⟨_, fd, F, He.glo_ok X G (d.fact 145 (f := .glo "_law_mix") (by rfl)), (F.binds (ps := ["_law_numbers", "_law_values"]) fun _ _ _ _ _ _ us hl => match us, hl with | [_, _], _ => rfl)⟩
    law_boxed := by
      obtain ⟨fd, F0⟩ := d.def_ 70 (d := d_law_boxed) (by rfl)
      have F := fun_ofD (st := s_law_boxed) F0
      exact ⟨_, fd, F, He.glo_ok X G (d.fact 146 (f := .glo "_law_boxed") (by rfl)), (F.binds (ps := ["_law_numbers", "_law_values", "_law_d"]) fun _ _ _ _ _ _ us hl => match us, hl with | [_, _, _], _ => rfl)⟩
    law_square := by
      obtain ⟨fd, F0⟩ := d.def_ 71 (d := d_law_square) (by rfl)
      have F := fun_ofD (st := s_law_square) F0
      exact ⟨_, fd, F, He.glo_ok X G (d.fact 147 (f := .glo "_law_square") (by rfl)), (F.binds (ps := ["_law_row_here"]) fun _ _ _ _ _ _ us hl => match us, hl with | [_], _ => rfl)⟩
    law_read := by
      obtain ⟨fd, F0⟩ := d.def_ 72 (d := d_law_read) (by rfl)
      have F := fun_ofD (st := s_law_read) F0
      exact ⟨_, fd, F, He.glo_ok X G (d.fact 148 (f := .glo "_law_read") (by rfl)), (F.binds (ps := ["_law_made_here", "_law_many", "_law_most"]) fun _ _ _ _ _ _ us hl => match us, hl with | [_, _, _], _ => rfl)⟩
    law_four := by
      obtain ⟨fd, F0⟩ := d.def_ 73 (d := d_law_four) (by rfl)
      have F := fun_ofD (st := s_law_four) F0
      exact ⟨_, fd, F, He.glo_ok X G (d.fact 149 (f := .glo "_law_four") (by rfl)), (F.binds (ps := ["_law_row_here"]) fun _ _ _ _ _ _ us hl => match us, hl with | [_], _ => rfl)⟩
    law := by
      obtain ⟨fd, F0⟩ := d.def_ 74 (d := d_law) (by rfl)
      have F := fun_ofD (st := s_law) F0
      exact ⟨_, fd, F, He.glo_ok X G (d.fact 150 (f := .glo "law") (by rfl)), (F.binds (ps := ["_law_script"]) fun _ _ _ _ _ _ us hl => match us, hl with | [_], _ => rfl)⟩ }
theorem facts {P : Program} [NoTree P] {fa : Addr} (X : K.In h) (G : h.Ns mainGlobals mg) (hfa : mg "law" = some (.ref fa)) (c : He.SaysX faL fnL tsL [] exL w h K) :
    ∃ fd : FuncData, (∀ (s : Shared) (v : Value), BindsTo s fd ⟨[v], []⟩ [("_law_script", v)]) ∧ ∀ base : Heap, K.In base → base.Ns mainGlobals mg → FnOk P w K mg base CX0 66 fa fd ["_law_script"] (sp_law K) := by
  have T := ct_of X G c
  have TT := tb_of X G c
  have D := dt_of X G c
  have XM : PySem.W.exmOne K (.ref (adOf K).c_NoValue) (.ref (adOf K).c_NoValue) = some true := He.exm_ok (c.t.d.fact 17 (f := .exm "NoValue" "NoValue" true) (by rfl))
  obtain ⟨fd0, F0⟩ := c.t.d.def_ 74 (d := d_law) (by rfl)
  have e := hfa.symm.trans (He.glo_ok X G (c.t.d.fact 150 (f := .glo "law") (by rfl)))
  cases e
  refine ⟨fd0, fun s v => ?_, fun base _ _ => ?_⟩
  · exact (FunD.bindsA (ps := ["_law_script"]) F0 fun _ _ _ _ _ _ us hl => match us, hl with | [_], _ => rfl) s [v] rfl
  · exact ok_law T TT XM D (fun_ofD (st := s_law) F0)
end
instance : NoTree (PySem.Challenge.rw_chainparts_k09_four_of_roots).prog := ⟨by kernel_rfl⟩
end Cp
open PySem PySem.W PySem.Calls PyProof.Rows
set_option maxRecDepth 100000 in
set_option maxHeartbeats 0 in
theorem PySem.Challenge.cw_chainparts_k09_four_of_roots_holds : PySem.Challenge.rw_chainparts_k09_four_of_roots.Holds := by
  w_on; o_law
  refine HandSHeadRun.head_any (r := OpenLaw.row PySem.Challenge.rw_chainparts_k09_four_of_roots) (q := view (OpenLaw.row PySem.Challenge.rw_chainparts_k09_four_of_roots).prog [72]) (H := Cp.hk) (ob := Cp.ob) (M := 7500) (loose := Cp.looseL) (d := HandSHeadRun.topDef (OpenLaw.row PySem.Challenge.rw_chainparts_k09_four_of_roots).prog 72) (kwd := []) Cp.ob_eq
    (by kernel_rfl) (fun s => by kernel_rfl) Cp.run (by kernel_rfl) (by kernel_rfl) (by kernel_rfl) (by rfl) (by first | assumption | decide +kernel) (by decide +kernel) ⟨rfl, rfl, rfl, rfl, rfl, by decide +kernel⟩ ?hw ?hc
  case hw => w_witness2
  case hc =>
    refine L2.walk_ofE (l := PySem.Challenge.rw_chainparts_k09_four_of_roots) (n := 63) (k := 66) (x := "_law_script") (CX := L2.CX0) rfl (by decide) (by kernel_rfl) ⟨rfl, by decide, by decide⟩ ?F (fun _ _ _ _ z => z)
    intro w mg fa h Y G hmg0
    obtain ⟨K, KX, c⟩ := Y
    have hmg : mg ("law" : PySem.Str) = some (.ref fa) := by
      have e : (HandSHeadRun.topDef (OpenLaw.row PySem.Challenge.rw_chainparts_k09_four_of_roots).prog 72).name = ("law" : PySem.Str) := by kernel_rfl
      rw [← e]
      exact hmg0
    obtain ⟨fd, hb, hF⟩ := Cp.facts (P := (PySem.Challenge.rw_chainparts_k09_four_of_roots).prog) (w := w) KX G hmg c
    exact ⟨K, fd, Cp.sp_law K, KX, hb, fun H a ns hl hO hS => ⟨a, ns, rfl, Cp.ScrAt.of hO hS, hl, fun _ => rfl⟩, hF⟩
