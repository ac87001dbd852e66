import PyProof.Rows.All
import Wide.All
import OpenK.AllK
import Wide.FinOn
import HandS.RaiseMore
import HandS.TupMul
import HandS.ForMost
import HandS.Style
import KE.KRevSl
import KE.KEqSeq
import HandS.Wide
import HandS.WideBits
import HandS.IsInst
import HandS.Codes
import HandS.More
import HandS.CallLocal
import HandS.TupAny
import HandS.Zip
import HandS.ForExc
import HandS.ExcIs
import HandS.Deep
import HandS.TryOnly
import KE.GoesZip
import KE.GoesMore
import HandS.Rev
import KE.KStateDown
import HandS.ForExc
import HandS.Defaults
import HandS.Head0
import HandS.Head1
import HandS.Head2
import HandS.HeadEnd
import HandS.HeadHook1
import HandS.HeadHook2
import HandS.HeadHook3
import HandS.HeadHook4
import PySem.Challenge.RW_chainparts_k26_whole_any_tree_step_by_st
set_option Elab.async false
set_option linter.all false
set_option maxRecDepth 100000
set_option maxHeartbeats 4000000
namespace Cp
open PySem L2
def topS (i : Nat) : Stmt := PySem.Challenge.pw_chainparts_k26_whole_any_tree_step_by_st.main.body.getD i (.Pass ⟨0, 0, 0, 0⟩)
abbrev s_wall : Stmt := topS 0
theorem sc_wall : FnScope ["k"] ["k"] (defScope s_wall) := ⟨rfl, rfl, rfl, by decide +kernel, rfl, by decide +kernel, by decide +kernel⟩
abbrev s_root_below : Stmt := topS 6
theorem sc_root_below : FnScope ["number", "guess", "better"] ["number"] (defScope s_root_below) := ⟨rfl, rfl, rfl, by decide +kernel, rfl, by decide +kernel, by decide +kernel⟩
abbrev s_Meter_init : Stmt := inClass (topS 10) 0
theorem sc_Meter_init : FnScope ["self"] ["self"] (defScope s_Meter_init) := ⟨rfl, rfl, rfl, by decide +kernel, rfl, by decide +kernel, by decide +kernel⟩
abbrev s_Meter_allow : Stmt := inClass (topS 10) 1
theorem sc_Meter_allow : FnScope ["self", "most"] ["self", "most"] (defScope s_Meter_allow) := ⟨rfl, rfl, rfl, by decide +kernel, rfl, by decide +kernel, by decide +kernel⟩
abbrev s_Meter_pay : Stmt := inClass (topS 10) 2
theorem sc_Meter_pay : FnScope ["self"] ["self"] (defScope s_Meter_pay) := ⟨rfl, rfl, rfl, by decide +kernel, rfl, by decide +kernel, by decide +kernel⟩
abbrev s_FractionChain_init : Stmt := inClass (topS 11) 0
theorem sc_FractionChain_init : FnScope ["self", "top", "below"] ["self", "top", "below"] (defScope s_FractionChain_init) := ⟨rfl, rfl, rfl, by decide +kernel, rfl, by decide +kernel, by decide +kernel⟩
abbrev s_FractionChain_has_ended : Stmt := inClass (topS 11) 1
theorem sc_FractionChain_has_ended : FnScope ["self"] ["self"] (defScope s_FractionChain_has_ended) := ⟨rfl, rfl, rfl, by decide +kernel, rfl, by decide +kernel, by decide +kernel⟩
abbrev s_FractionChain_next_part : Stmt := inClass (topS 11) 2
theorem sc_FractionChain_next_part : FnScope ["self", "part"] ["self"] (defScope s_FractionChain_next_part) := ⟨rfl, rfl, rfl, by decide +kernel, rfl, by decide +kernel, by decide +kernel⟩
abbrev s_RootChain_init : Stmt := inClass (topS 12) 0
theorem sc_RootChain_init : FnScope ["self", "top", "square", "below", "wide"] ["self", "top", "square", "below"] (defScope s_RootChain_init) := ⟨rfl, rfl, rfl, by decide +kernel, rfl, by decide +kernel, by decide +kernel⟩
abbrev s_RootChain_has_ended : Stmt := inClass (topS 12) 1
theorem sc_RootChain_has_ended : FnScope ["self"] ["self"] (defScope s_RootChain_has_ended) := ⟨rfl, rfl, rfl, by decide +kernel, rfl, by decide +kernel, by decide +kernel⟩
abbrev s_RootChain_next_part : Stmt := inClass (topS 12) 2
theorem sc_RootChain_next_part : FnScope ["self", "upward", "part"] ["self"] (defScope s_RootChain_next_part) := ⟨rfl, rfl, rfl, by decide +kernel, rfl, by decide +kernel, by decide +kernel⟩
abbrev s_RootChain_what_is_left : Stmt := inClass (topS 12) 3
theorem sc_RootChain_what_is_left : FnScope ["self"] ["self"] (defScope s_RootChain_what_is_left) := ⟨rfl, rfl, rfl, by decide +kernel, rfl, by decide +kernel, by decide +kernel⟩
abbrev s_RuledChain_init : Stmt := inClass (topS 13) 0
theorem sc_RuledChain_init : FnScope ["self", "parts", "ring", "steps"] ["self", "parts", "ring", "steps"] (defScope s_RuledChain_init) := ⟨rfl, rfl, rfl, by decide +kernel, rfl, by decide +kernel, by decide +kernel⟩
abbrev s_RuledChain_has_ended : Stmt := inClass (topS 13) 1
theorem sc_RuledChain_has_ended : FnScope ["self"] ["self"] (defScope s_RuledChain_has_ended) := ⟨rfl, rfl, rfl, by decide +kernel, rfl, by decide +kernel, by decide +kernel⟩
abbrev s_RuledChain_next_part : Stmt := inClass (topS 13) 2
theorem sc_RuledChain_next_part : FnScope ["self", "at", "turn", "place"] ["self"] (defScope s_RuledChain_next_part) := ⟨rfl, rfl, rfl, by decide +kernel, rfl, by decide +kernel, by decide +kernel⟩
abbrev s_Leaf_init : Stmt := inClass (topS 14) 0
theorem sc_Leaf_init : FnScope ["self", "chain"] ["self", "chain"] (defScope s_Leaf_init) := ⟨rfl, rfl, rfl, by decide +kernel, rfl, by decide +kernel, by decide +kernel⟩
abbrev s_Leaf_ask : Stmt := inClass (topS 14) 1
theorem sc_Leaf_ask : FnScope ["self", "meter"] ["self", "meter"] (defScope s_Leaf_ask) := ⟨rfl, rfl, rfl, by decide +kernel, rfl, by decide +kernel, by decide +kernel⟩
abbrev s_leaf_of : Stmt := topS 15
theorem sc_leaf_of : FnScope ["tree"] ["tree"] (defScope s_leaf_of) := ⟨rfl, rfl, rfl, by decide +kernel, rfl, by decide +kernel, by decide +kernel⟩
abbrev s_root_chain : Stmt := topS 16
theorem sc_root_chain : FnScope ["top", "square", "below", "root"] ["top", "square", "below"] (defScope s_root_chain) := ⟨rfl, rfl, rfl, by decide +kernel, rfl, by decide +kernel, by decide +kernel⟩
abbrev s_FractionBox_init : Stmt := inClass (topS 18) 0
theorem sc_FractionBox_init : FnScope ["self", "top", "below", "told"] ["self", "top", "below", "told"] (defScope s_FractionBox_init) := ⟨rfl, rfl, rfl, by decide +kernel, rfl, by decide +kernel, by decide +kernel⟩
abbrev s_FractionBox_ask : Stmt := inClass (topS 18) 1
theorem sc_FractionBox_ask : FnScope ["self", "meter", "part"] ["self", "meter"] (defScope s_FractionBox_ask) := ⟨rfl, rfl, rfl, by decide +kernel, rfl, by decide +kernel, by decide +kernel⟩
abbrev s_FractionBox_nothing_left : Stmt := inClass (topS 18) 2
theorem sc_FractionBox_nothing_left : FnScope ["self"] ["self"] (defScope s_FractionBox_nothing_left) := ⟨rfl, rfl, rfl, by decide +kernel, rfl, by decide +kernel, by decide +kernel⟩
abbrev s_FourBox_init : Stmt := inClass (topS 19) 0
theorem sc_FourBox_init : FnScope ["self", "numbers", "tree", "started", "told"] ["self", "numbers", "tree", "started", "told"] (defScope s_FourBox_init) := ⟨rfl, rfl, rfl, by decide +kernel, rfl, by decide +kernel, by decide +kernel⟩
abbrev s_FourBox_ask : Stmt := inClass (topS 19) 1
theorem sc_FourBox_ask : FnScope ["self", "meter", "part", "answer"] ["self", "meter"] (defScope s_FourBox_ask) := ⟨rfl, rfl, rfl, by decide +kernel, rfl, by decide +kernel, by decide +kernel⟩
abbrev s_FourBox_tell : Stmt := inClass (topS 19) 2
theorem sc_FourBox_tell : FnScope ["self", "part"] ["self", "part"] (defScope s_FourBox_tell) := ⟨rfl, rfl, rfl, by decide +kernel, rfl, by decide +kernel, by decide +kernel⟩
abbrev s_FourBox_take : Stmt := inClass (topS 19) 3
theorem sc_FourBox_take : FnScope ["self", "answer", "a", "b", "c", "d", "part"] ["self", "answer"] (defScope s_FourBox_take) := ⟨rfl, rfl, rfl, by decide +kernel, rfl, by decide +kernel, by decide +kernel⟩
abbrev s_EightBox_init : Stmt := inClass (topS 20) 0
theorem sc_EightBox_init : FnScope ["self", "numbers", "one", "other"] ["self", "numbers", "one", "other"] (defScope s_EightBox_init) := ⟨rfl, rfl, rfl, by decide +kernel, rfl, by decide +kernel, by decide +kernel⟩
abbrev s_EightBox_ask : Stmt := inClass (topS 20) 1
theorem sc_EightBox_ask : FnScope ["self", "meter", "part", "which", "answer"] ["self", "meter"] (defScope s_EightBox_ask) := ⟨rfl, rfl, rfl, by decide +kernel, rfl, by decide +kernel, by decide +kernel⟩
abbrev s_EightBox_tell : Stmt := inClass (topS 20) 2
theorem sc_EightBox_tell : FnScope ["self", "part"] ["self", "part"] (defScope s_EightBox_tell) := ⟨rfl, rfl, rfl, by decide +kernel, rfl, by decide +kernel, by decide +kernel⟩
abbrev s_EightBox_take : Stmt := inClass (topS 20) 3
theorem sc_EightBox_take : FnScope ["self", "which", "answer"] ["self", "which", "answer"] (defScope s_EightBox_take) := ⟨rfl, rfl, rfl, by decide +kernel, rfl, by decide +kernel, by decide +kernel⟩
abbrev s_EightBox_left_without : Stmt := inClass (topS 20) 4
theorem sc_EightBox_left_without : FnScope ["self", "which", "a", "b", "c", "d", "e", "f", "g", "h"] ["self", "which"] (defScope s_EightBox_left_without) := ⟨rfl, rfl, rfl, by decide +kernel, rfl, by decide +kernel, by decide +kernel⟩
abbrev s_box_of_one : Stmt := topS 21
theorem sc_box_of_one : FnScope ["numbers", "tree", "told", "a", "b", "c", "d"] ["numbers", "tree", "told"] (defScope s_box_of_one) := ⟨rfl, rfl, rfl, by decide +kernel, rfl, by decide +kernel, by decide +kernel⟩
abbrev s_with_first_part : Stmt := topS 22
theorem sc_with_first_part : FnScope ["numbers", "part", "a", "b", "c", "d", "e", "f", "g", "h"] ["numbers", "part"] (defScope s_with_first_part) := ⟨rfl, rfl, rfl, by decide +kernel, rfl, by decide +kernel, by decide +kernel⟩
abbrev s_with_second_part : Stmt := topS 23
theorem sc_with_second_part : FnScope ["numbers", "part", "a", "b", "c", "d", "e", "f", "g", "h"] ["numbers", "part"] (defScope s_with_second_part) := ⟨rfl, rfl, rfl, by decide +kernel, rfl, by decide +kernel, by decide +kernel⟩
abbrev s_turned_over : Stmt := topS 24
theorem sc_turned_over : FnScope ["numbers", "part", "half", "above", "below", "left", "top", "under"] ["numbers", "part"] (defScope s_turned_over) := ⟨rfl, rfl, rfl, by decide +kernel, rfl, by decide +kernel, by decide +kernel⟩
abbrev s_four_corners : Stmt := topS 25
theorem sc_four_corners : FnScope ["numbers", "a", "b", "c", "d"] ["numbers"] (defScope s_four_corners) := ⟨rfl, rfl, rfl, by decide +kernel, rfl, by decide +kernel, by decide +kernel⟩
abbrev s_eight_corners : Stmt := topS 26
theorem sc_eight_corners : FnScope ["numbers", "a", "b", "c", "d", "e", "f", "g", "h"] ["numbers"] (defScope s_eight_corners) := ⟨rfl, rfl, rfl, by decide +kernel, rfl, by decide +kernel, by decide +kernel⟩
abbrev s_sure_part : Stmt := topS 27
theorem sc_sure_part : FnScope ["corners", "top", "below", "part"] ["corners"] (defScope s_sure_part) := ⟨rfl, rfl, rfl, by decide +kernel, rfl, by decide +kernel, by decide +kernel⟩
abbrev s_check_tree : Stmt := topS 33
theorem sc_check_tree : FnScope ["tree"] ["tree"] (defScope s_check_tree) := ⟨rfl, rfl, rfl, by decide +kernel, rfl, by decide +kernel, by decide +kernel⟩
abbrev s_check_at_depth : Stmt := topS 34
theorem sc_check_at_depth : FnScope ["tree", "depth", "word", "check"] ["tree", "depth"] (defScope s_check_at_depth) := ⟨rfl, rfl, rfl, by decide +kernel, rfl, by decide +kernel, by decide +kernel⟩
abbrev s_require : Stmt := topS 35
theorem sc_require : FnScope ["holds", "why"] ["holds", "why"] (defScope s_require) := ⟨rfl, rfl, rfl, by decide +kernel, rfl, by decide +kernel, by decide +kernel⟩
abbrev s_check_row : Stmt := topS 36
theorem sc_check_row : FnScope ["row", "fewest", "most", "number"] ["row", "fewest", "most"] (defScope s_check_row) := ⟨rfl, rfl, rfl, by decide +kernel, rfl, by decide +kernel, by decide +kernel⟩
abbrev s_is_whole : Stmt := topS 37
theorem sc_is_whole : FnScope ["number"] ["number"] (defScope s_is_whole) := ⟨rfl, rfl, rfl, by decide +kernel, rfl, by decide +kernel, by decide +kernel⟩
abbrev s_check_fraction : Stmt := topS 38
theorem sc_check_fraction : FnScope ["tree", "depth"] ["tree", "depth"] (defScope s_check_fraction) := ⟨rfl, rfl, rfl, by decide +kernel, rfl, by decide +kernel, by decide +kernel⟩
abbrev s_check_root : Stmt := topS 39
theorem sc_check_root : FnScope ["tree", "depth"] ["tree", "depth"] (defScope s_check_root) := ⟨rfl, rfl, rfl, by decide +kernel, rfl, by decide +kernel, by decide +kernel⟩
abbrev s_check_ruled : Stmt := topS 40
theorem sc_check_ruled : FnScope ["tree", "depth", "parts", "ring", "steps", "part", "step", "ends"] ["tree", "depth"] (defScope s_check_ruled) := ⟨rfl, rfl, rfl, by decide +kernel, rfl, by decide +kernel, by decide +kernel⟩
abbrev s_check_four : Stmt := topS 41
theorem sc_check_four : FnScope ["tree", "depth"] ["tree", "depth"] (defScope s_check_four) := ⟨rfl, rfl, rfl, by decide +kernel, rfl, by decide +kernel, by decide +kernel⟩
abbrev s_check_eight : Stmt := topS 42
theorem sc_check_eight : FnScope ["tree", "depth"] ["tree", "depth"] (defScope s_check_eight) := ⟨rfl, rfl, rfl, by decide +kernel, rfl, by decide +kernel, by decide +kernel⟩
abbrev s_check_line : Stmt := topS 43
theorem sc_check_line : FnScope ["numbers", "half", "above", "below", "crossed", "i", "k"] ["numbers"] (defScope s_check_line) := ⟨rfl, rfl, rfl, by decide +kernel, rfl, by decide +kernel, by decide +kernel⟩
abbrev s_check_power : Stmt := topS 44
theorem sc_check_power : FnScope ["tree", "depth"] ["tree", "depth"] (defScope s_check_power) := ⟨rfl, rfl, rfl, by decide +kernel, rfl, by decide +kernel, by decide +kernel⟩
abbrev s_Reading_init : Stmt := inClass (topS 49) 0
theorem sc_Reading_init : FnScope ["self", "box"] ["self", "box"] (defScope s_Reading_init) := ⟨rfl, rfl, rfl, by decide +kernel, rfl, by decide +kernel, by decide +kernel⟩
abbrev s_Reading_part : Stmt := inClass (topS 49) 1
theorem sc_Reading_part : FnScope ["self", "most"] ["self", "most"] (defScope s_Reading_part) := ⟨rfl, rfl, rfl, by decide +kernel, rfl, by decide +kernel, by decide +kernel⟩
abbrev s_Reading_took : Stmt := inClass (topS 49) 2
theorem sc_Reading_took : FnScope ["self"] ["self"] (defScope s_Reading_took) := ⟨rfl, rfl, rfl, by decide +kernel, rfl, by decide +kernel, by decide +kernel⟩
abbrev s_reader : Stmt := topS 50
theorem sc_reader : FnScope ["tree"] ["tree"] (defScope s_reader) := ⟨rfl, rfl, rfl, by decide +kernel, rfl, by decide +kernel, by decide +kernel⟩
abbrev s_box_of : Stmt := topS 51
theorem sc_box_of : FnScope ["tree", "word"] ["tree"] (defScope s_box_of) := ⟨rfl, rfl, rfl, by decide +kernel, rfl, by decide +kernel, by decide +kernel⟩
abbrev s_power_box : Stmt := topS 52
theorem sc_power_box : FnScope ["tree", "times"] ["tree", "times"] (defScope s_power_box) := ⟨rfl, rfl, rfl, by decide +kernel, rfl, by decide +kernel, by decide +kernel⟩
abbrev s_law_row : Stmt := topS 54
theorem sc_law_row : FnScope ["_law_script", "_law_mixed", "_law_cell"] ["_law_script"] (defScope s_law_row) := ⟨rfl, rfl, rfl, by decide +kernel, rfl, by decide +kernel, by decide +kernel⟩
abbrev s_law_taken : Stmt := topS 55
theorem sc_law_taken : FnScope ["_law_row_here", "_law_many", "_law_found", "_law_cell"] ["_law_row_here", "_law_many"] (defScope s_law_taken) := ⟨rfl, rfl, rfl, by decide +kernel, rfl, by decide +kernel, by decide +kernel⟩
abbrev s_law_whole : Stmt := topS 56
theorem sc_law_whole : FnScope ["_law_found"] ["_law_found"] (defScope s_law_whole) := ⟨rfl, rfl, rfl, by decide +kernel, rfl, by decide +kernel, by decide +kernel⟩
abbrev s_law_signed : Stmt := topS 57
theorem sc_law_signed : FnScope ["_law_row_here", "_law_most"] ["_law_row_here", "_law_most"] (defScope s_law_signed) := ⟨rfl, rfl, rfl, by decide +kernel, rfl, by decide +kernel, by decide +kernel⟩
abbrev s_law_root : Stmt := topS 58
theorem sc_law_root : FnScope ["_law_number", "_law_low", "_law_high", "_law_middle"] ["_law_number"] (defScope s_law_root) := ⟨rfl, rfl, rfl, by decide +kernel, rfl, by decide +kernel, by decide +kernel⟩
abbrev s_law_common : Stmt := topS 59
theorem sc_law_common : FnScope ["_law_one", "_law_other"] ["_law_one", "_law_other"] (defScope s_law_common) := ⟨rfl, rfl, rfl, by decide +kernel, rfl, by decide +kernel, by decide +kernel⟩
abbrev s_law_lowest : Stmt := topS 60
theorem sc_law_lowest : FnScope ["_law_top", "_law_below_here", "_law_part"] ["_law_top", "_law_below_here"] (defScope s_law_lowest) := ⟨rfl, rfl, rfl, by decide +kernel, rfl, by decide +kernel, by decide +kernel⟩
abbrev s_law_made : Stmt := topS 61
theorem sc_law_made : FnScope ["_law_a", "_law_b", "_law_c", "_law_part"] ["_law_a", "_law_b", "_law_c"] (defScope s_law_made) := ⟨rfl, rfl, rfl, by decide +kernel, rfl, by decide +kernel, by decide +kernel⟩
abbrev s_law_sum : Stmt := topS 62
theorem sc_law_sum : FnScope ["_law_one", "_law_other", "_law_by", "_law_a"] ["_law_one", "_law_other", "_law_by"] (defScope s_law_sum) := ⟨rfl, rfl, rfl, by decide +kernel, rfl, by decide +kernel, by decide +kernel⟩
abbrev s_law_product : Stmt := topS 63
theorem sc_law_product : FnScope ["_law_one", "_law_other", "_law_d", "_law_a"] ["_law_one", "_law_other", "_law_d"] (defScope s_law_product) := ⟨rfl, rfl, rfl, by decide +kernel, rfl, by decide +kernel, by decide +kernel⟩
abbrev s_law_quotient : Stmt := topS 64
theorem sc_law_quotient : FnScope ["_law_one", "_law_other", "_law_d", "_law_size"] ["_law_one", "_law_other", "_law_d"] (defScope s_law_quotient) := ⟨rfl, rfl, rfl, by decide +kernel, rfl, by decide +kernel, by decide +kernel⟩
abbrev s_law_below : Stmt := topS 65
theorem sc_law_below : FnScope ["_law_one", "_law_d", "_law_size", "_law_root_here"] ["_law_one", "_law_d"] (defScope s_law_below) := ⟨rfl, rfl, rfl, by decide +kernel, rfl, by decide +kernel, by decide +kernel⟩
abbrev s_law_ruled : Stmt := topS 66
theorem sc_law_ruled : FnScope ["_law_row_here", "_law_many", "_law_parts", "_law_k", "_law_size", "_law_ring", "_law_steps"] ["_law_row_here"] (defScope s_law_ruled) := ⟨rfl, rfl, rfl, by decide +kernel, rfl, by decide +kernel, by decide +kernel⟩
abbrev s_law_corners : Stmt := topS 67
theorem sc_law_corners : FnScope ["_law_numbers_here", "_law_a", "_law_b", "_law_c", "_law_d", "_law_e", "_law_f", "_law_g", "_law_h"] ["_law_numbers_here"] (defScope s_law_corners) := ⟨rfl, rfl, rfl, by decide +kernel, rfl, by decide +kernel, by decide +kernel⟩
abbrev s_law_sure : Stmt := topS 68
theorem sc_law_sure : FnScope ["_law_corners_here", "_law_unders", "_law_top", "_law_below_here", "_law_part"] ["_law_corners_here"] (defScope s_law_sure) := ⟨rfl, rfl, rfl, by decide +kernel, rfl, by decide +kernel, by decide +kernel⟩
abbrev s_law_moved : Stmt := topS 69
theorem sc_law_moved : FnScope ["_law_numbers_here", "_law_which", "_law_part", "_law_a", "_law_b", "_law_c", "_law_d", "_law_e", "_law_f", "_law_g", "_law_h"] ["_law_numbers_here", "_law_which", "_law_part"] (defScope s_law_moved) := ⟨rfl, rfl, rfl, by decide +kernel, rfl, by decide +kernel, by decide +kernel⟩
abbrev s_law_ended : Stmt := topS 70
theorem sc_law_ended : FnScope ["_law_m", "_law_which", "_law_a", "_law_left"] ["_law_m", "_law_which"] (defScope s_law_ended) := ⟨rfl, rfl, rfl, by decide +kernel, rfl, by decide +kernel, by decide +kernel⟩
abbrev s_law_rest : Stmt := topS 71
theorem sc_law_rest : FnScope ["_law_m", "_law_top", "_law_below_here", "_law_part"] ["_law_m"] (defScope s_law_rest) := ⟨rfl, rfl, rfl, by decide +kernel, rfl, by decide +kernel, by decide +kernel⟩
abbrev s_law_apart : Stmt := topS 72
theorem sc_law_apart : FnScope ["_law_some", "_law_half", "_law_i", "_law_j"] ["_law_some"] (defScope s_law_apart) := ⟨rfl, rfl, rfl, by decide +kernel, rfl, by decide +kernel, by decide +kernel⟩
abbrev s_law_numbers : Stmt := topS 73
theorem sc_law_numbers : FnScope ["_law_row_here", "_law_many", "_law_most", "_law_found", "_law_k", "_law_some"] ["_law_row_here", "_law_many"] (defScope s_law_numbers) := ⟨rfl, rfl, rfl, by decide +kernel, rfl, by decide +kernel, by decide +kernel⟩
abbrev s_law_any_leaf : Stmt := topS 74
theorem sc_law_any_leaf : FnScope ["_law_row_here", "_law_way", "_law_top", "_law_below_here", "_law_square"] ["_law_row_here"] (defScope s_law_any_leaf) := ⟨rfl, rfl, rfl, by decide +kernel, rfl, by decide +kernel, by decide +kernel⟩
abbrev s_law_any : Stmt := topS 75
theorem sc_law_any : FnScope ["_law_row_here", "_law_deep", "_law_way", "_law_numbers_here", "_law_first"] ["_law_row_here", "_law_deep"] (defScope s_law_any) := ⟨rfl, rfl, rfl, by decide +kernel, rfl, by decide +kernel, by decide +kernel⟩
abbrev s_law_opened : Stmt := topS 76
theorem sc_law_opened : FnScope ["_law_tree", "_law_kind", "_law_m", "_law_root_here", "_law_k", "_law_inners"] ["_law_tree"] (defScope s_law_opened) := ⟨rfl, rfl, rfl, by decide +kernel, rfl, by decide +kernel, by decide +kernel⟩
abbrev s_law_took : Stmt := topS 77
theorem sc_law_took : FnScope ["_law_m", "_law_inner"] ["_law_m"] (defScope s_law_took) := ⟨rfl, rfl, rfl, by decide +kernel, rfl, by decide +kernel, by decide +kernel⟩
abbrev s_law_leaf_told : Stmt := topS 78
theorem sc_law_leaf_told : FnScope ["_law_m", "_law_purse", "_law_tree", "_law_at", "_law_turn", "_law_k", "_law_top", "_law_below_here", "_law_part"] ["_law_m", "_law_purse"] (defScope s_law_leaf_told) := ⟨rfl, rfl, rfl, by decide +kernel, rfl, by decide +kernel, by decide +kernel⟩
abbrev s_law_told : Stmt := topS 79
theorem sc_law_told : FnScope ["_law_m", "_law_purse", "_law_which", "_law_ready", "_law_part", "_law_half", "_law_ahead", "_law_under", "_law_k", "_law_got"] ["_law_m", "_law_purse"] (defScope s_law_told) := ⟨rfl, rfl, rfl, by decide +kernel, rfl, by decide +kernel, by decide +kernel⟩
abbrev s_law : Stmt := topS 80
theorem sc_law : FnScope ["_law_script", "_law_row_here", "_law_tree", "_law_made_here", "_law_m", "_law_k", "_law_which", "_law_most", "_law_due", "_law_found", "_law_side", "_law_took_here"] ["_law_script"] (defScope s_law) := ⟨rfl, rfl, rfl, by decide +kernel, rfl, by decide +kernel, by decide +kernel⟩
/-! ### the head: facts by names, the run -/
def d_wall : He.DefD := ⟨("_wall", none), "_wall", "_wall", defArgs s_wall, defBody s_wall, defScope s_wall, [], []⟩
def d_root_below : He.DefD := ⟨("root_below", none), "root_below", "root_below", defArgs s_root_below, defBody s_root_below, defScope s_root_below, [], []⟩
def d_Meter_init : He.DefD := ⟨("Meter", some "__init__"), "__init__", "Meter.__init__", defArgs s_Meter_init, defBody s_Meter_init, defScope s_Meter_init, [], []⟩
def d_Meter_allow : He.DefD := ⟨("Meter", some "allow"), "allow", "Meter.allow", defArgs s_Meter_allow, defBody s_Meter_allow, defScope s_Meter_allow, [], []⟩
def d_Meter_pay : He.DefD := ⟨("Meter", some "pay"), "pay", "Meter.pay", defArgs s_Meter_pay, defBody s_Meter_pay, defScope s_Meter_pay, [], []⟩
def d_FractionChain_init : He.DefD := ⟨("FractionChain", some "__init__"), "__init__", "FractionChain.__init__", defArgs s_FractionChain_init, defBody s_FractionChain_init, defScope s_FractionChain_init, [], []⟩
def d_FractionChain_has_ended : He.DefD := ⟨("FractionChain", some "has_ended"), "has_ended", "FractionChain.has_ended", defArgs s_FractionChain_has_ended, defBody s_FractionChain_has_ended, defScope s_FractionChain_has_ended, [], []⟩
def d_FractionChain_next_part : He.DefD := ⟨("FractionChain", some "next_part"), "next_part", "FractionChain.next_part", defArgs s_FractionChain_next_part, defBody s_FractionChain_next_part, defScope s_FractionChain_next_part, [], []⟩
def d_RootChain_init : He.DefD := ⟨("RootChain", some "__init__"), "__init__", "RootChain.__init__", defArgs s_RootChain_init, defBody s_RootChain_init, defScope s_RootChain_init, [], []⟩
def d_RootChain_has_ended : He.DefD := ⟨("RootChain", some "has_ended"), "has_ended", "RootChain.has_ended", defArgs s_RootChain_has_ended, defBody s_RootChain_has_ended, defScope s_RootChain_has_ended, [], []⟩
def d_RootChain_next_part : He.DefD := ⟨("RootChain", some "next_part"), "next_part", "RootChain.next_part", defArgs s_RootChain_next_part, defBody s_RootChain_next_part, defScope s_RootChain_next_part, [], []⟩
def d_RootChain_what_is_left : He.DefD := ⟨("RootChain", some "what_is_left"), "what_is_left", "RootChain.what_is_left", defArgs s_RootChain_what_is_left, defBody s_RootChain_what_is_left, defScope s_RootChain_what_is_left, [], []⟩
def d_RuledChain_init : He.DefD := ⟨("RuledChain", some "__init__"), "__init__", "RuledChain.__init__", defArgs s_RuledChain_init, defBody s_RuledChain_init, defScope s_RuledChain_init, [], []⟩
def d_RuledChain_has_ended : He.DefD := ⟨("RuledChain", some "has_ended"), "has_ended", "RuledChain.has_ended", defArgs s_RuledChain_has_ended, defBody s_RuledChain_has_ended, defScope s_RuledChain_has_ended, [], []⟩
def d_RuledChain_next_part : He.DefD := ⟨("RuledChain", some "next_part"), "next_part", "RuledChain.next_part", defArgs s_RuledChain_next_part, defBody s_RuledChain_next_part, defScope s_RuledChain_next_part, [], []⟩
def d_Leaf_init : He.DefD := ⟨("Leaf", some "__init__"), "__init__", "Leaf.__init__", defArgs s_Leaf_init, defBody s_Leaf_init, defScope s_Leaf_init, [], []⟩
def d_Leaf_ask : He.DefD := ⟨("Leaf", some "ask"), "ask", "Leaf.ask", defArgs s_Leaf_ask, defBody s_Leaf_ask, defScope s_Leaf_ask, [], []⟩
def d_leaf_of : He.DefD := ⟨("leaf_of", none), "leaf_of", "leaf_of", defArgs s_leaf_of, defBody s_leaf_of, defScope s_leaf_of, [], []⟩
def d_root_chain : He.DefD := ⟨("root_chain", none), "root_chain", "root_chain", defArgs s_root_chain, defBody s_root_chain, defScope s_root_chain, [], []⟩
def d_FractionBox_init : He.DefD := ⟨("FractionBox", some "__init__"), "__init__", "FractionBox.__init__", defArgs s_FractionBox_init, defBody s_FractionBox_init, defScope s_FractionBox_init, [], []⟩
def d_FractionBox_ask : He.DefD := ⟨("FractionBox", some "ask"), "ask", "FractionBox.ask", defArgs s_FractionBox_ask, defBody s_FractionBox_ask, defScope s_FractionBox_ask, [], []⟩
def d_FractionBox_nothing_left : He.DefD := ⟨("FractionBox", some "nothing_left"), "nothing_left", "FractionBox.nothing_left", defArgs s_FractionBox_nothing_left, defBody s_FractionBox_nothing_left, defScope s_FractionBox_nothing_left, [], []⟩
def d_FourBox_init : He.DefD := ⟨("FourBox", some "__init__"), "__init__", "FourBox.__init__", defArgs s_FourBox_init, defBody s_FourBox_init, defScope s_FourBox_init, [], []⟩
def d_FourBox_ask : He.DefD := ⟨("FourBox", some "ask"), "ask", "FourBox.ask", defArgs s_FourBox_ask, defBody s_FourBox_ask, defScope s_FourBox_ask, [], []⟩
def d_FourBox_tell : He.DefD := ⟨("FourBox", some "tell"), "tell", "FourBox.tell", defArgs s_FourBox_tell, defBody s_FourBox_tell, defScope s_FourBox_tell, [], []⟩
def d_FourBox_take : He.DefD := ⟨("FourBox", some "take"), "take", "FourBox.take", defArgs s_FourBox_take, defBody s_FourBox_take, defScope s_FourBox_take, [], []⟩
def d_EightBox_init : He.DefD := ⟨("EightBox", some "__init__"), "__init__", "EightBox.__init__", defArgs s_EightBox_init, defBody s_EightBox_init, defScope s_EightBox_init, [], []⟩
def d_EightBox_ask : He.DefD := ⟨("EightBox", some "ask"), "ask", "EightBox.ask", defArgs s_EightBox_ask, defBody s_EightBox_ask, defScope s_EightBox_ask, [], []⟩
def d_EightBox_tell : He.DefD := ⟨("EightBox", some "tell"), "tell", "EightBox.tell", defArgs s_EightBox_tell, defBody s_EightBox_tell, defScope s_EightBox_tell, [], []⟩
def d_EightBox_take : He.DefD := ⟨("EightBox", some "take"), "take", "EightBox.take", defArgs s_EightBox_take, defBody s_EightBox_take, defScope s_EightBox_take, [], []⟩
def d_EightBox_left_without : He.DefD := ⟨("EightBox", some "left_without"), "left_without", "EightBox.left_without", defArgs s_EightBox_left_without, defBody s_EightBox_left_without, defScope s_EightBox_left_without, [], []⟩
def d_box_of_one : He.DefD := ⟨("box_of_one", none), "box_of_one", "box_of_one", defArgs s_box_of_one, defBody s_box_of_one, defScope s_box_of_one, [], []⟩
def d_with_first_part : He.DefD := ⟨("with_first_part", none), "with_first_part", "with_first_part", defArgs s_with_first_part, defBody s_with_first_part, defScope s_with_first_part, [], []⟩
def d_with_second_part : He.DefD := ⟨("with_second_part", none), "with_second_part", "with_second_part", defArgs s_with_second_part, defBody s_with_second_part, defScope s_with_second_part, [], []⟩
def d_turned_over : He.DefD := ⟨("turned_over", none), "turned_over", "turned_over", defArgs s_turned_over, defBody s_turned_over, defScope s_turned_over, [], []⟩
def d_four_corners : He.DefD := ⟨("four_corners", none), "four_corners", "four_corners", defArgs s_four_corners, defBody s_four_corners, defScope s_four_corners, [], []⟩
def d_eight_corners : He.DefD := ⟨("eight_corners", none), "eight_corners", "eight_corners", defArgs s_eight_corners, defBody s_eight_corners, defScope s_eight_corners, [], []⟩
def d_sure_part : He.DefD := ⟨("sure_part", none), "sure_part", "sure_part", defArgs s_sure_part, defBody s_sure_part, defScope s_sure_part, [], []⟩
def d_check_tree : He.DefD := ⟨("check_tree", none), "check_tree", "check_tree", defArgs s_check_tree, defBody s_check_tree, defScope s_check_tree, [], []⟩
def d_check_at_depth : He.DefD := ⟨("check_at_depth", none), "check_at_depth", "check_at_depth", defArgs s_check_at_depth, defBody s_check_at_depth, defScope s_check_at_depth, [], []⟩
def d_require : He.DefD := ⟨("require", none), "require", "require", defArgs s_require, defBody s_require, defScope s_require, [], []⟩
def d_check_row : He.DefD := ⟨("check_row", none), "check_row", "check_row", defArgs s_check_row, defBody s_check_row, defScope s_check_row, [], []⟩
def d_is_whole : He.DefD := ⟨("is_whole", none), "is_whole", "is_whole", defArgs s_is_whole, defBody s_is_whole, defScope s_is_whole, [], []⟩
def d_check_fraction : He.DefD := ⟨("check_fraction", none), "check_fraction", "check_fraction", defArgs s_check_fraction, defBody s_check_fraction, defScope s_check_fraction, [], []⟩
def d_check_root : He.DefD := ⟨("check_root", none), "check_root", "check_root", defArgs s_check_root, defBody s_check_root, defScope s_check_root, [], []⟩
def d_check_ruled : He.DefD := ⟨("check_ruled", none), "check_ruled", "check_ruled", defArgs s_check_ruled, defBody s_check_ruled, defScope s_check_ruled, [], []⟩
def d_check_four : He.DefD := ⟨("check_four", none), "check_four", "check_four", defArgs s_check_four, defBody s_check_four, defScope s_check_four, [], []⟩
def d_check_eight : He.DefD := ⟨("check_eight", none), "check_eight", "check_eight", defArgs s_check_eight, defBody s_check_eight, defScope s_check_eight, [], []⟩
def d_check_line : He.DefD := ⟨("check_line", none), "check_line", "check_line", defArgs s_check_line, defBody s_check_line, defScope s_check_line, [], []⟩
def d_check_power : He.DefD := ⟨("check_power", none), "check_power", "check_power", defArgs s_check_power, defBody s_check_power, defScope s_check_power, [], []⟩
def d_Reading_init : He.DefD := ⟨("Reading", some "__init__"), "__init__", "Reading.__init__", defArgs s_Reading_init, defBody s_Reading_init, defScope s_Reading_init, [], []⟩
def d_Reading_part : He.DefD := ⟨("Reading", some "part"), "part", "Reading.part", defArgs s_Reading_part, defBody s_Reading_part, defScope s_Reading_part, [], []⟩
def d_Reading_took : He.DefD := ⟨("Reading", some "took"), "took", "Reading.took", defArgs s_Reading_took, defBody s_Reading_took, defScope s_Reading_took, [], []⟩
def d_reader : He.DefD := ⟨("reader", none), "reader", "reader", defArgs s_reader, defBody s_reader, defScope s_reader, [], []⟩
def d_box_of : He.DefD := ⟨("box_of", none), "box_of", "box_of", defArgs s_box_of, defBody s_box_of, defScope s_box_of, [], []⟩
def d_power_box : He.DefD := ⟨("power_box", none), "power_box", "power_box", defArgs s_power_box, defBody s_power_box, defScope s_power_box, [], []⟩
def d_law_row : He.DefD := ⟨("_law_row", none), "_law_row", "_law_row", defArgs s_law_row, defBody s_law_row, defScope s_law_row, [], []⟩
def d_law_taken : He.DefD := ⟨("_law_taken", none), "_law_taken", "_law_taken", defArgs s_law_taken, defBody s_law_taken, defScope s_law_taken, [], []⟩
def d_law_whole : He.DefD := ⟨("_law_whole", none), "_law_whole", "_law_whole", defArgs s_law_whole, defBody s_law_whole, defScope s_law_whole, [], []⟩
def d_law_signed : He.DefD := ⟨("_law_signed", none), "_law_signed", "_law_signed", defArgs s_law_signed, defBody s_law_signed, defScope s_law_signed, [], []⟩
def d_law_root : He.DefD := ⟨("_law_root", none), "_law_root", "_law_root", defArgs s_law_root, defBody s_law_root, defScope s_law_root, [], []⟩
def d_law_common : He.DefD := ⟨("_law_common", none), "_law_common", "_law_common", defArgs s_law_common, defBody s_law_common, defScope s_law_common, [], []⟩
def d_law_lowest : He.DefD := ⟨("_law_lowest", none), "_law_lowest", "_law_lowest", defArgs s_law_lowest, defBody s_law_lowest, defScope s_law_lowest, [], []⟩
def d_law_made : He.DefD := ⟨("_law_made", none), "_law_made", "_law_made", defArgs s_law_made, defBody s_law_made, defScope s_law_made, [], []⟩
def d_law_sum : He.DefD := ⟨("_law_sum", none), "_law_sum", "_law_sum", defArgs s_law_sum, defBody s_law_sum, defScope s_law_sum, [], []⟩
def d_law_product : He.DefD := ⟨("_law_product", none), "_law_product", "_law_product", defArgs s_law_product, defBody s_law_product, defScope s_law_product, [], []⟩
def d_law_quotient : He.DefD := ⟨("_law_quotient", none), "_law_quotient", "_law_quotient", defArgs s_law_quotient, defBody s_law_quotient, defScope s_law_quotient, [], []⟩
def d_law_below : He.DefD := ⟨("_law_below", none), "_law_below", "_law_below", defArgs s_law_below, defBody s_law_below, defScope s_law_below, [], []⟩
def d_law_ruled : He.DefD := ⟨("_law_ruled", none), "_law_ruled", "_law_ruled", defArgs s_law_ruled, defBody s_law_ruled, defScope s_law_ruled, [], []⟩
def d_law_corners : He.DefD := ⟨("_law_corners", none), "_law_corners", "_law_corners", defArgs s_law_corners, defBody s_law_corners, defScope s_law_corners, [], []⟩
def d_law_sure : He.DefD := ⟨("_law_sure", none), "_law_sure", "_law_sure", defArgs s_law_sure, defBody s_law_sure, defScope s_law_sure, [], []⟩
def d_law_moved : He.DefD := ⟨("_law_moved", none), "_law_moved", "_law_moved", defArgs s_law_moved, defBody s_law_moved, defScope s_law_moved, [], []⟩
def d_law_ended : He.DefD := ⟨("_law_ended", none), "_law_ended", "_law_ended", defArgs s_law_ended, defBody s_law_ended, defScope s_law_ended, [], []⟩
def d_law_rest : He.DefD := ⟨("_law_rest", none), "_law_rest", "_law_rest", defArgs s_law_rest, defBody s_law_rest, defScope s_law_rest, [], []⟩
def d_law_apart : He.DefD := ⟨("_law_apart", none), "_law_apart", "_law_apart", defArgs s_law_apart, defBody s_law_apart, defScope s_law_apart, [], []⟩
def d_law_numbers : He.DefD := ⟨("_law_numbers", none), "_law_numbers", "_law_numbers", defArgs s_law_numbers, defBody s_law_numbers, defScope s_law_numbers, [], []⟩
def d_law_any_leaf : He.DefD := ⟨("_law_any_leaf", none), "_law_any_leaf", "_law_any_leaf", defArgs s_law_any_leaf, defBody s_law_any_leaf, defScope s_law_any_leaf, [], []⟩
def d_law_any : He.DefD := ⟨("_law_any", none), "_law_any", "_law_any", defArgs s_law_any, defBody s_law_any, defScope s_law_any, [], []⟩
def d_law_opened : He.DefD := ⟨("_law_opened", none), "_law_opened", "_law_opened", defArgs s_law_opened, defBody s_law_opened, defScope s_law_opened, [], []⟩
def d_law_took : He.DefD := ⟨("_law_took", none), "_law_took", "_law_took", defArgs s_law_took, defBody s_law_took, defScope s_law_took, [], []⟩
def d_law_leaf_told : He.DefD := ⟨("_law_leaf_told", none), "_law_leaf_told", "_law_leaf_told", defArgs s_law_leaf_told, defBody s_law_leaf_told, defScope s_law_leaf_told, [], []⟩
def d_law_told : He.DefD := ⟨("_law_told", none), "_law_told", "_law_told", defArgs s_law_told, defBody s_law_told, defScope s_law_told, [], []⟩
def d_law : He.DefD := ⟨("law", none), "law", "law", defArgs s_law, defBody s_law, defScope s_law, [], []⟩
def fnL : List He.DefD := ([d_wall, d_root_below, d_Meter_init, d_Meter_allow, d_Meter_pay, d_FractionChain_init, d_FractionChain_has_ended, d_FractionChain_next_part, d_RootChain_init, d_RootChain_has_ended, d_RootChain_next_part, d_RootChain_what_is_left, d_RuledChain_init, d_RuledChain_has_ended, d_RuledChain_next_part, d_Leaf_init, d_Leaf_ask, d_leaf_of, d_root_chain, d_FractionBox_init, d_FractionBox_ask, d_FractionBox_nothing_left, d_FourBox_init, d_FourBox_ask, d_FourBox_tell, d_FourBox_take, d_EightBox_init, d_EightBox_ask, d_EightBox_tell, d_EightBox_take] : List He.DefD) ++ ([d_EightBox_left_without, d_box_of_one, d_with_first_part, d_with_second_part, d_turned_over, d_four_corners, d_eight_corners, d_sure_part, d_check_tree, d_check_at_depth, d_require, d_check_row, d_is_whole, d_check_fraction, d_check_root, d_check_ruled, d_check_four, d_check_eight, d_check_line, d_check_power, d_Reading_init, d_Reading_part, d_Reading_took, d_reader, d_box_of, d_power_box, d_law_row, d_law_taken, d_law_whole, d_law_signed] : List He.DefD) ++ ([d_law_root, d_law_common, d_law_lowest, d_law_made, d_law_sum, d_law_product, d_law_quotient, d_law_below, d_law_ruled, d_law_corners, d_law_sure, d_law_moved, d_law_ended, d_law_rest, d_law_apart, d_law_numbers, d_law_any_leaf, d_law_any, d_law_opened, d_law_took, d_law_leaf_told, d_law_told, d_law] : List He.DefD)
def faL : List He.Fa := ([.free "len", .free "isinstance", .free "range", .free "zip", .free "abs", .free "divmod", .free "min", .free "all", .free "any", .free "list", .free "tuple", .free "str", .free "int", .free "bool", .free "sum", .free "max", .free "reversed", .exc "NoValue", .exm "NoValue" "NoValue" true, .glo "_wall", .glo "PartError", .glo "BadTree", .glo "NoValue", .glo "root_below", .glo "END", .glo "WAITS", .glo "Meter", .cls "Meter", .mkr "Meter", .meth "Meter" "allow"] : List He.Fa) ++ ([.meth "Meter" "pay", .noat "Meter" "left", .noat "Meter" "spent", .glo "FractionChain", .cls "FractionChain", .mkr "FractionChain", .meth "FractionChain" "has_ended", .meth "FractionChain" "next_part", .noat "FractionChain" "top", .noat "FractionChain" "below", .glo "RootChain", .cls "RootChain", .mkr "RootChain", .meth "RootChain" "has_ended", .meth "RootChain" "next_part", .meth "RootChain" "what_is_left", .noat "RootChain" "top", .noat "RootChain" "square", .noat "RootChain" "below", .noat "RootChain" "root", .glo "RuledChain", .cls "RuledChain", .mkr "RuledChain", .meth "RuledChain" "has_ended", .meth "RuledChain" "next_part", .noat "RuledChain" "parts", .noat "RuledChain" "ring", .noat "RuledChain" "steps", .noat "RuledChain" "at", .glo "Leaf"] : List He.Fa) ++ ([.cls "Leaf", .mkr "Leaf", .meth "Leaf" "ask", .noat "Leaf" "chain", .glo "leaf_of", .glo "root_chain", .glo "FractionBox", .cls "FractionBox", .mkr "FractionBox", .meth "FractionBox" "ask", .meth "FractionBox" "nothing_left", .noat "FractionBox" "top", .noat "FractionBox" "below", .noat "FractionBox" "told", .glo "FourBox", .cls "FourBox", .mkr "FourBox", .meth "FourBox" "ask", .meth "FourBox" "tell", .meth "FourBox" "take", .noat "FourBox" "numbers", .noat "FourBox" "tree", .noat "FourBox" "started", .noat "FourBox" "told", .noat "FourBox" "rest", .glo "EightBox", .cls "EightBox", .mkr "EightBox", .meth "EightBox" "ask", .meth "EightBox" "tell"] : List He.Fa) ++ ([.meth "EightBox" "take", .meth "EightBox" "left_without", .noat "EightBox" "numbers", .noat "EightBox" "trees", .noat "EightBox" "taken", .noat "EightBox" "told", .noat "EightBox" "rest", .glo "box_of_one", .glo "with_first_part", .glo "with_second_part", .glo "turned_over", .glo "four_corners", .glo "eight_corners", .glo "sure_part", .int "MOST_NUMBER" 1000000000000, .int "MOST_DEPTH" 5, .int "MOST_PARTS" 12, .int "MOST_POWER" 4, .glo "check_tree", .glo "check_at_depth", .glo "require", .glo "check_row", .glo "is_whole", .glo "check_fraction", .glo "check_root", .glo "check_ruled", .glo "check_four", .glo "check_eight", .glo "check_line", .glo "check_power"] : List He.Fa) ++ ([.glo "LENGTHS", .glo "CHECKS", .glo "TIMES", .glo "Reading", .cls "Reading", .mkr "Reading", .meth "Reading" "part", .meth "Reading" "took", .noat "Reading" "box", .noat "Reading" "meter", .glo "reader", .glo "box_of", .glo "power_box", .glo "_law_row", .glo "_law_taken", .glo "_law_whole", .glo "_law_signed", .glo "_law_root", .glo "_law_common", .glo "_law_lowest", .glo "_law_made", .glo "_law_sum", .glo "_law_product", .glo "_law_quotient", .glo "_law_below", .glo "_law_ruled", .glo "_law_corners", .glo "_law_sure", .glo "_law_moved", .glo "_law_ended"] : List He.Fa) ++ ([.glo "_law_rest", .glo "_law_apart", .glo "_law_numbers", .glo "_law_any_leaf", .glo "_law_any", .glo "_law_opened", .glo "_law_took", .glo "_law_leaf_told", .glo "_law_told", .glo "law"] : List He.Fa)
def tsL : List He.Tab := [(fun K => He.ga K "LENGTHS", ["fraction", "root", "ruled", "four", "eight", "power"]), (fun K => He.ga K "CHECKS", ["fraction", "root", "ruled", "four", "eight", "power"])]
/-! ### a head whose piece of the heap holds the interpreter's own tables, too -/
section
open PySem PySem.W PySem.Calls PyProof.Rows
def frY (n : Nat) (g : Addr → Option Obj) : Frag := He.frT g (He.asD g n ++ [cStatics, sysModules])
def obsY (n : Nat) (fa : List He.Fa) (fn : List He.DefD) (ts : List He.Tab) (ex : Frag → Bool) (g : Addr → Option Obj) : He.AlX := (He.obsT fa fn ts (frY n g), ex (frY n g))
def hookY (n : Nat) (fa : List He.Fa) (fn : List He.DefD) (ts : List He.Tab) (ex : Frag → Bool) : Hook where
  α := He.AlX
  val := He.valX fn ts
  obs := fun s => obsY n fa fn ts ex (fun a => s.heap.get? a)
  says := fun w h => ∃ K : Frag, K.In h ∧ He.SaysX fa fn ts [] ex w h K
  of := fun _ s e => ⟨frY n s.heap.get?, He.frT_in, congrArg (fun z : He.AlX => z.1) e, congrArg (fun z : He.AlX => z.2) e, nofun, nofun, nofun⟩
  keeps := fun _ _ _ z k => ⟨z.choose, z.choose_spec.1.keeps k, z.choose_spec.2.t, z.choose_spec.2.more, nofun, nofun, nofun⟩
theorem obsY_eq {n : Nat} {fa : List He.Fa} {fn : List He.DefD} {ts : List He.Tab} {ex : Frag → Bool} {g : Addr → Option Obj} {s : Shared} (h : ∀ a, g a = s.heap.get? a) : obsY n fa fn ts ex g = (hookY n fa fn ts ex).obs s := by
  obtain rfl : g = fun a => s.heap.get? a := funext h
  rfl
def noneB (K : Frag) (a : Addr) (x : Str) : Bool := match nsIn K a x with
  | some none => true
  | _ => false
def modB (K : Frag) : Bool := match nsIn K mainGlobals "__builtins__" with
  | some (some (.ref b)) => (match K.lookup b with
    | some o => (match o.cls with
      | .type x => x == "module" && decide (o.dict = some builtinsNs)
      | _ => false)
    | none => false)
  | _ => false
def seerB (K : Frag) : Bool := nsOkIn K cStatics && (noneB K cStatics "sys.audit-hooks" && (noneB K cStatics "sys.dict" && (nsOkIn K sysModules && (noneB K sysModules "_pylong" && modB K))))
theorem noneB_ok {K : Frag} {a : Addr} {x : Str} (h : noneB K a x = true) : nsIn K a x = some none := by
  unfold noneB at h
  split at h
  · assumption
  · cases h
theorem modB_ok {K : Frag} (h : modB K = true) : ∃ b o, nsIn K mainGlobals "__builtins__" = some (some (.ref b)) ∧ K.lookup b = some o ∧ o.cls = .type "module" ∧ o.dict = some builtinsNs := by
  unfold modB at h
  split at h
  · rename_i b e
    split at h
    · rename_i o lk
      split at h
      · rename_i x ec
        obtain ⟨h1, h2⟩ := He.ba h
        rw [beq_iff_eq.mp h1] at ec
        exact ⟨b, o, e, lk, ec, of_decide_eq_true h2⟩
      · cases h
    · cases h
  · cases h
theorem seer_ok {K : Frag} {mg : Str → Option Value} (h : seerB K = true) : ∀ b : Heap, L2.Mod K mg b → b.NoSeer := by
  intro hp M
  obtain ⟨c1, h⟩ := He.ba h
  obtain ⟨c2, h⟩ := He.ba h
  obtain ⟨c3, h⟩ := He.ba h
  obtain ⟨m1, h⟩ := He.ba h
  obtain ⟨m2, h⟩ := He.ba h
  obtain ⟨b, o, e1, e2, e3, e4⟩ := modB_ok h
  exact ⟨⟨_, .of_isNs (isNs_of_in M.kin c1), nsMap_none_of_in M.kin c1 (noneB_ok c2), nsMap_none_of_in M.kin c1 (noneB_ok c3)⟩, ⟨_, .of_isNs (isNs_of_in M.kin m1), nsMap_none_of_in M.kin m1 (noneB_ok m2)⟩, M.blt, ⟨mg, b, o, M.glob, mg_of M.kin M.glob e1, M.kin _ _ e2, e3, e4⟩⟩
end
open He in
def exL (K : PySem.W.Frag) : Bool := tupB K "END" [.str "end"] && (tupB K "WAITS" [.str "waits"] && (valsB K (ga K "LENGTHS") [("fraction", .int 3), ("root", .int 4), ("ruled", .int 4), ("four", .int 3), ("eight", .int 4), ("power", .int 3)] && (valsB K (ga K "CHECKS") [("fraction", .glo "check_fraction"), ("root", .glo "check_root"), ("ruled", .glo "check_ruled"), ("four", .glo "check_four"), ("eight", .glo "check_eight"), ("power", .glo "check_power")] && (tupB K "TIMES" [.int 1, .int 0, .int 0, .int 0, .int 0, .int 0, .int 0, .int 1] && (seerB K)))))
def looseL : List Str := (["_wall", "PartError", "BadTree", "NoValue", "root_below", "END", "WAITS", "Meter", "FractionChain", "RootChain", "RuledChain", "Leaf", "leaf_of", "root_chain", "FractionBox", "FourBox", "EightBox", "box_of_one", "with_first_part", "with_second_part", "turned_over", "four_corners", "eight_corners", "sure_part", "MOST_NUMBER", "MOST_DEPTH", "MOST_PARTS", "MOST_POWER", "check_tree", "check_at_depth"] : List Str) ++ (["require", "check_row", "is_whole", "check_fraction", "check_root", "check_ruled", "check_four", "check_eight", "check_line", "check_power", "LENGTHS", "CHECKS", "TIMES", "Reading", "reader", "box_of", "power_box", "_law_row", "_law_taken", "_law_whole", "_law_signed", "_law_root", "_law_common", "_law_lowest", "_law_made", "_law_sum", "_law_product", "_law_quotient", "_law_below", "_law_ruled"] : List Str) ++ (["_law_corners", "_law_sure", "_law_moved", "_law_ended", "_law_rest", "_law_apart", "_law_numbers", "_law_any_leaf", "_law_any", "_law_opened", "_law_took", "_law_leaf_told", "_law_told"] : List Str)
abbrev hk : PySem.W.Hook := hookY 4 faL fnL tsL exL
def ob (s : PySem.W.SharedT) : He.AlX := obsY 4 faL fnL tsL exL (HandSHeadRun.getT s)
theorem ob_eq (s : PySem.W.SharedT) : ob s = hk.obs s.abs := obsY_eq (HandSHeadRun.getT_eq s)
section
open PySem PySem.W PySem.Calls PyProof.Rows HandSHeadRun
theorem map3 {α β γ δ : Type _} {o : Option α} {f : α → β} {g : α → γ} {h : α → δ} {x : β} {y : γ} {z : δ} (a : o.map f = some x) (b : o.map g = some y) (c : o.map h = some z) : o.map (fun s => (f s, g s, h s)) = some (x, y, z) := by
  cases o with
  | none => cases a
  | some s => cases a; cases b; cases c; rfl
def RunA (r : OpenRow) (M : Nat) (w : World) : Prop := ∀ os : OsState, (endF (stepQ (denQ tabQ) r.prog w) M r.prog w os).map (fun s => looksF r.prog (boot_heap w.params) s.abs) = some true
def RunB (r : OpenRow) (q : Program) (M : Nat) (loose : List PySem.Str) (w : World) : Prop := ∀ os : OsState, (endF (stepQ (denQ tabQ) r.prog w) M r.prog w os).map (fun s => seenQ q loose (importedModules r.prog.main.body) (fun s => xlAt q [] s && recOk r.toRowW.records s) s.abs) = some (openGood q loose)
def RunC (r : OpenRow) (H : Hook) (ob : SharedT → H.α) (M : Nat) (w : World) : Prop := ∀ os : OsState, (endF (stepQ (denQ tabQ) r.prog w) M r.prog w os).map (fun s => ob s) = some (H.val w)
theorem run_of {r : OpenRow} {q : Program} {H : Hook} {ob : SharedT → H.α} {M : Nat} {loose : List PySem.Str} {w : World} (a : RunA r M w) (b : RunB r q M loose w) (c : RunC r H ob M w) : RunEq r q H ob M loose w := fun os => map3 (a os) (b os) (c os)
end
set_option maxHeartbeats 0 in
theorem run0a (w : World) : RunA (PySem.W.OpenLaw.row PySem.Challenge.rw_chainparts_k26_whole_any_tree_step_by_st) 7500 (w.withFollow "special-get-raises" false) := by
  intro os
  kernel_rfl
set_option maxHeartbeats 0 in
theorem run0b (w : World) : RunB (PySem.W.OpenLaw.row PySem.Challenge.rw_chainparts_k26_whole_any_tree_step_by_st) (PySem.W.view (PySem.W.OpenLaw.row PySem.Challenge.rw_chainparts_k26_whole_any_tree_step_by_st).prog [80]) 7500 looseL (w.withFollow "special-get-raises" false) := by
  intro os
  kernel_rfl
set_option maxHeartbeats 0 in
theorem run0c (w : World) : RunC (PySem.W.OpenLaw.row PySem.Challenge.rw_chainparts_k26_whole_any_tree_step_by_st) hk ob 7500 (w.withFollow "special-get-raises" false) := by
  intro os
  kernel_rfl
theorem run0 (w : World) : HandSHeadRun.RunEq (PySem.W.OpenLaw.row PySem.Challenge.rw_chainparts_k26_whole_any_tree_step_by_st) (PySem.W.view (PySem.W.OpenLaw.row PySem.Challenge.rw_chainparts_k26_whole_any_tree_step_by_st).prog [80]) hk ob 7500 looseL (w.withFollow "special-get-raises" false) := run_of (run0a w) (run0b w) (run0c w)
set_option maxHeartbeats 0 in
theorem run1a (w : World) : RunA (PySem.W.OpenLaw.row PySem.Challenge.rw_chainparts_k26_whole_any_tree_step_by_st) 7500 (w.withFollow "special-get-raises" true) := by
  intro os
  kernel_rfl
set_option maxHeartbeats 0 in
theorem run1b (w : World) : RunB (PySem.W.OpenLaw.row PySem.Challenge.rw_chainparts_k26_whole_any_tree_step_by_st) (PySem.W.view (PySem.W.OpenLaw.row PySem.Challenge.rw_chainparts_k26_whole_any_tree_step_by_st).prog [80]) 7500 looseL (w.withFollow "special-get-raises" true) := by
  intro os
  kernel_rfl
set_option maxHeartbeats 0 in
theorem run1c (w : World) : RunC (PySem.W.OpenLaw.row PySem.Challenge.rw_chainparts_k26_whole_any_tree_step_by_st) hk ob 7500 (w.withFollow "special-get-raises" true) := by
  intro os
  kernel_rfl
theorem run1 (w : World) : HandSHeadRun.RunEq (PySem.W.OpenLaw.row PySem.Challenge.rw_chainparts_k26_whole_any_tree_step_by_st) (PySem.W.view (PySem.W.OpenLaw.row PySem.Challenge.rw_chainparts_k26_whole_any_tree_step_by_st).prog [80]) hk ob 7500 looseL (w.withFollow "special-get-raises" true) := run_of (run1a w) (run1b w) (run1c w)
theorem run (w : World) : HandSHeadRun.RunEq (PySem.W.OpenLaw.row PySem.Challenge.rw_chainparts_k26_whole_any_tree_step_by_st) (PySem.W.view (PySem.W.OpenLaw.row PySem.Challenge.rw_chainparts_k26_whole_any_tree_step_by_st).prog [80]) hk ob 7500 looseL w := PySem.W.byRow2 "special-get-raises" (P := fun w => HandSHeadRun.RunEq (PySem.W.OpenLaw.row PySem.Challenge.rw_chainparts_k26_whole_any_tree_step_by_st) (PySem.W.view (PySem.W.OpenLaw.row PySem.Challenge.rw_chainparts_k26_whole_any_tree_step_by_st).prog [80]) hk ob 7500 looseL w) run0 run1 w
/-! ### calls of defs, in short -/
/-- no files were given with the program -/
class NoTree (P : Program) : Prop where
  tree : P.given.tree = none
/-- * of two factors of together less than a hundred million bits -/
def CMulW (i j : Int) : Prop := i.natAbs.log2 + j.natAbs.log2 < 100000000
theorem CMulW.ok {i j : Int} (h : CMulW i j) : PySem.IntMulOk i j := by
  intro z
  have bd : ∀ x : Int, Builtin.Int.intBits x ≤ x.natAbs.log2 + 1 := by
    intro x
    unfold Builtin.Int.intBits
    split <;> omega
  have b1 := bd i
  have b2 := bd j
  have hh : i.natAbs.log2 + j.natAbs.log2 < 100000000 := h
  have z1 := (Bool.and_eq_true_iff.mp z).2
  unfold Builtin.Int.intTooBig at z1
  have z2 := of_decide_eq_true z1
  rw [show bitsLine = 134217728 from by decide] at z2
  omega
theorem op_mulW {X : Cx} : OpR X (binaryOp .Mult) (rI CMulW fun i j => .int (i * j)) := opI fun i j _ _ _ _ _ c r => PyProof.Rows.mul_int r (CMulW.ok c)
theorem wide_mul {i j : Int} {a b : Nat} (ha : i.natAbs < 2 ^ a) (hb : j.natAbs < 2 ^ b) (h0 : 0 < a) (h1 : 0 < b) (h : a + b ≤ 100000000) : CMulW i j := by
  have l1 := PySem.Flt.log2_lt_of h0 ha
  have l2 := PySem.Flt.log2_lt_of h1 hb
  show i.natAbs.log2 + j.natAbs.log2 < 100000000
  omega
/-- the def x of the text stands at f, no one else bears its name -/
structure DefAt (K : PySem.W.Frag) (mg : Str → Option Value) (x : Str) (st : Stmt) (ps : List Str) (f : Addr) (fd : FuncData) : Prop where
  fn : Fun K x x st f fd
  mgx : mg x = some (.ref f)
  bd : Binds K fd ps []
/-- the def x keeps the promise sp, at level k -/
def COk (P : Program) (w : World) (K : PySem.W.Frag) (mg : Str → Option Value) (base : Heap) (CX : CXT) (k : Nat) (x : Str) (ps : List Str) (sp : Sp) : Prop :=
  ∃ (f : Addr) (fd : FuncData), FnOk P w K mg base CX k f fd ps sp ∧ mg x = some (.ref f) ∧ PySem.W.keepIn K (.ref f) = true ∧ Binds K fd ps []
theorem COk.of {P : Program} {w : World} {K : PySem.W.Frag} {mg : Str → Option Value} {base : Heap} {CX : CXT} {k : Nat} {x : Str} {st : Stmt} {ps : List Str} {sp : Sp} {f : Addr} {fd : FuncData}
    (D : DefAt K mg x st ps f fd) (h : FnOk P w K mg base CX k f fd ps sp) : COk P w K mg base CX k x ps sp := ⟨f, fd, h, D.mgx, D.fn.kp, D.bd⟩
theorem COk.mono {P : Program} {w : World} {K : PySem.W.Frag} {mg : Str → Option Value} {base : Heap} {CX : CXT} {k j : Nat} {x : Str} {ps : List Str} {sp : Sp}
    (h : COk P w K mg base CX k x ps sp) (hk : k ≤ j) : COk P w K mg base CX j x ps sp := by
  obtain ⟨f, fd, F, a, b, c⟩ := h
  exact ⟨f, fd, F.mono hk, a, b, c⟩
section
variable {X : Cx} {k : Nat} {x : Str} {ps : List Str} {sp : Sp} {e : Expr} {es : List Expr} {t : TA} {p pos : Pos}
theorem pe_c (C : COk X.prog X.w X.K X.mg X.base CX0 k x ps sp) (hr : Room k X.A) (ha : PA X (e :: es) t) (hg : Gl X x := by rfl)
    (hdb : (x == ("__debug__" : Str)) = false := by decide) (he : starEach (e :: es) X.env = (false, eval e X.env) :: starEach es X.env := by rfl) (hpl : (backTo pos (starEach es X.env)).any (·.1) = false := by rfl) :
    PE X (.Call (.Name x p) (e :: es) [] pos) (tCall sp [] E0 t) := by
  obtain ⟨f, fd, F, a, b, c⟩ := C
  exact pe_call F hr hg a b c .nil pass0 ha hdb he hpl
/-- one of two readings -/
theorem pe_alt {e : Expr} {t u : TE} (h : PE X e t) (h' : PE X e u) : PE X e (fun σ H Q => t σ H Q ∨ u σ H Q) :=
  ⟨fun pins s σ H Q I q => q.elim (h.run pins s σ H Q I) (h'.run pins s σ H Q I)⟩
/-- // by any divisor but nought -/
def CDivS (_ j : Int) : Prop := j ≠ 0 ∧ j.natAbs < 2 ^ 8000
theorem op_fdivS : OpR X (binaryOp .FloorDiv) (rI CDivS fun i j => .int (i.fdiv j)) := opI fun _ _ _ _ _ _ _ hc q =>
  PyProof.Rows.floordiv_int hc.1 q (.inl (PyProof.noPylong_of_log2 (Nat.lt_of_lt_of_le (PySem.Flt.log2_lt_of (k := 8000) (by decide) hc.2) (by decide))))
/-- ** of great ints -/
def CPowW (i j : Int) : Prop := 0 ≤ j ∧ (Builtin.Int.intBits i : Int) * j ≤ 2 ^ 27
/-- a written power -/
theorem pe_powc {a n v : Int} {j j' : Nat} {p p' pos : Pos} (h : a ^ n.toNat = v) (hc : CPow a n) : PE X (.BinOp (.Constant (.int a) j p) .Pow (.Constant (.int n) j' p') pos) (tC (.int v)) := by
  refine ⟨fun pins s σ H Q I q => ?_⟩
  have q' : Q (.int (a ^ n.toNat)) H := by rw [h]; exact q
  exact (pe_op op_pow pe_int pe_int).run pins s σ H Q I ⟨a, n, rfl, rfl, hc, q'⟩
/-- x ** 2 -/
def CSq (i : Int) : Prop := (Builtin.Int.intBits i : Int) * 2 ≤ 2 ^ 27
theorem op_sq : OpR X (binaryOp .Pow) (fun x y H Q => ∃ i, x = .int i ∧ y = .int 2 ∧ CSq i ∧ Q (.int (i * i)) H) := by
  intro pins s σ H x y v u Q I rx ry h
  obtain ⟨i, rfl, rfl, hc, q⟩ := h
  have e : i ^ (2 : Int).toNat = i * i := by
    show i ^ 2 = i * i
    grind
  exact (opI fun _ _ _ _ _ _ _ hc q => PyProof.Rows.pow_int hc.1 hc.2 q : OpR X (binaryOp .Pow) (rI CPowW fun i j => .int (i ^ j.toNat))) pins s σ H _ _ v u Q I rx ry ⟨i, 2, rfl, rfl, ⟨by decide, hc⟩, by show Q (.int (i ^ (2 : Int).toNat)) H; rw [e]; exact q⟩
theorem op_powW : OpR X (binaryOp .Pow) (rI CPowW fun i j => .int (i ^ j.toNat)) := opI fun _ _ _ _ _ _ _ hc q => PyProof.Rows.pow_int hc.1 hc.2 q
end
theorem same_upd {H : Hp} {p : Addr} {o : HO} (h : H p = none) : Same H (upd H p o) := fun b x e => by
  rw [upd_ne (ne_of_none e h)]
  exact e
theorem defAt_mk {K : PySem.W.Frag} {mg : Str → Option Value} {h : Heap} {x : Str} {st : Stmt} {ps : List Str} {f : Addr} {oc : Value} {od an : Option Addr} {osl : Array (Option Value)} {kV doc pm cdv ct : Value}
    (X : K.In h) (G : h.Ns mainGlobals mg) (a : PySem.W.nsIn K mainGlobals x = some (some (.ref f)))
    (l : K.lookup f = some ⟨oc, od, .func (PySem.W.fnOf x x (defArgs st) (defBody st) (defScope st) .none kV doc pm an cdv ct), osl⟩) (c : PySem.W.codeIn K cdv x = true) (k : PySem.W.keepIn K (.ref f) = true)
    (hb : ∀ (kV doc pm : Value) (an : Option Addr) (cdv ct : Value) (us : List Value), us.length = ps.length → bindArgs (PySem.W.fnOf x x (defArgs st) (defBody st) (defScope st) .none kV doc pm an cdv ct) ⟨us, []⟩ = pure (ps.zip us)) :
    DefAt K mg x st ps f (PySem.W.fnOf x x (defArgs st) (defBody st) (defScope st) .none kV doc pm an cdv ct) :=
  ⟨fun_mk l c k, PySem.W.mg_of X G a, (fun_mk (st := st) l c k).binds hb⟩
/-- the built-ins' names are still their own -/
structure BT (mg : Str → Option Value) : Prop where
  b_len : mg "len" = none
  b_isinstance : mg "isinstance" = none
  b_range : mg "range" = none
  b_zip : mg "zip" = none
  b_abs : mg "abs" = none
  b_divmod : mg "divmod" = none
  b_min : mg "min" = none
  b_all : mg "all" = none
  b_any : mg "any" = none
  b_list : mg "list" = none
  b_tuple : mg "tuple" = none
  b_str : mg "str" = none
  b_int : mg "int" = none
  b_bool : mg "bool" = none
  b_sum : mg "sum" = none
  b_max : mg "max" = none
  b_reversed : mg "reversed" = none
/-! ### what the laws' own helpers do: a row of numbers is drawn from the script -/
/-- the script at a: known, never written -/
def ScrAt (K : PySem.W.Frag) (H : Hp) (a : Addr) (ns : List Int) : Prop := (∃ o, H a = some (.frz o (.lst (ns.map V.int)))) ∨ ∀ H', SqL K H' a (ns.map V.int)
theorem ScrAt.seq {K : PySem.W.Frag} {H : Hp} {a : Addr} {ns : List Int} (h : ScrAt K H a ns) : SqL K H a (ns.map V.int) := by
  rcases h with ⟨o, h⟩ | h
  · exact .inl (.inr ⟨o, h⟩)
  · exact h H
theorem ScrAt.of {K : PySem.W.Frag} {H : Hp} {a : Addr} {ns : List Int} (hO : Only H) (h : SqL K H a (ns.map V.int)) : ScrAt K H a ns := by
  rcases h with (h | ⟨o, h⟩) | h
  · rcases hO a with z | ⟨o, xs, z⟩
    · rw [z] at h; cases h
    · rw [z] at h; cases h
  · exact .inl ⟨o, h⟩
  · exact .inr fun _ => .inr h
theorem ScrAt.same {K : PySem.W.Frag} {H H' : Hp} {a : Addr} {ns : List Int} (h : ScrAt K H a ns) (s : Same H H') : ScrAt K H' a ns := by
  rcases h with ⟨o, h⟩ | h
  · exact .inl ⟨o, s _ _ h⟩
  · exact .inr h
/-- what is no locked thing may be written -/
theorem ScrAt.but {K : PySem.W.Frag} {H H' : Hp} {a r : Addr} {ns : List Int} (h : ScrAt K H a ns) (hr : ∀ o u, H r ≠ some (.frz o u)) (k : ∀ b o, H b = some o → b ≠ r → H' b = some o) : ScrAt K H' a ns := by
  rcases h with ⟨o, h⟩ | h
  · exact .inl ⟨o, k _ _ h fun z => by rw [z] at h; exact hr _ _ h⟩
  · exact .inr h
theorem no_frz {H : Hp} {r : Addr} {xs : List V} (h : H r = some (.lst xs)) : ∀ o u, H r ≠ some (.frz o u) := fun o u z => by rw [h] at z; cases z
/-- the row at r: the script at a (ns), a place in it, what is left of a great number, a mixed number -/
structure RowAt (K : PySem.W.Frag) (H : Hp) (r a : Addr) (ns : List Int) : Prop where
  row : ∃ (i : Nat) (left mixed : Int), H r = some (.lst [.ref a, .int i, .int left, .int mixed]) ∧ i ≤ ns.length ∧ 0 ≤ left ∧ 0 ≤ mixed ∧ mixed < 2147483647
  scr : ScrAt K H a ns
theorem ref_ne {a : Addr} {xs : List V} (ns : List Int) : V.ref a :: xs ≠ ns.map V.int := by
  cases ns with
  | nil => intro z; cases z
  | cons n r => intro z; rw [List.map_cons] at z; cases (List.cons.inj z).1
theorem RowAt.same {K : PySem.W.Frag} {H H' : Hp} {r a : Addr} {ns : List Int} (R : RowAt K H r a ns) (s : Same H H') : RowAt K H' r a ns := by
  obtain ⟨⟨i, l, m, e, z⟩, hS⟩ := R
  exact ⟨⟨i, l, m, s _ _ e, z⟩, hS.same s⟩
/-- a list other than the row is written -/
theorem RowAt.put {K : PySem.W.Frag} {H : Hp} {r a d : Addr} {ns : List Int} {xs ys : List V} (R : RowAt K H r a ns) (hd : H d = some (.lst xs)) (ne : d ≠ r) : RowAt K (upd H d (.lst ys)) r a ns := by
  obtain ⟨⟨i, l, m, e, z⟩, hS⟩ := R
  exact ⟨⟨i, l, m, by rw [upd_ne ne.symm]; exact e, z⟩, hS.but (no_frz hd) fun b o h hb => by rw [upd_ne hb]; exact h⟩
theorem RowAt.at_ {K : PySem.W.Frag} {H : Hp} {r a : Addr} {ns : List Int} (R : RowAt K H r a ns) : ∃ x xs, H r = some (.lst (.ref x :: xs)) := by
  obtain ⟨⟨i, l, m, e, z⟩, hS⟩ := R
  exact ⟨_, _, e⟩
def sp_law_row (K : PySem.W.Frag) : Sp := fun vs H Q _ => ∃ (a : Addr) (ns : List Int), vs = [.ref a] ∧ ScrAt K H a ns ∧ ns.length ≤ 63 ∧
  ∀ r H', H r = none → Same H H' → RowAt K H' r a ns → Q (.ref r) H'
/-- a drawn number: any one below many; only the row's list changes -/
def sp_law_taken (K : PySem.W.Frag) : Sp := fun vs H Q _ => ∃ (r a : Addr) (ns : List Int) (many : Int), vs = [.ref r, .int many] ∧ RowAt K H r a ns ∧ 0 < many ∧ many < 2 ^ 8000 ∧
  ∀ v H', 0 ≤ v → v < many → RowAt K H' r a ns → (∀ b o, H b = some o → b ≠ r → H' b = some o) → Q (.int v) H'
section
variable {P : Program} {w : World} {K : PySem.W.Frag} {mg : Str → Option Value} {base : Heap}
theorem ok_law_row {f : Addr} {fd : FuncData} (F : Fun K "_law_row" "_law_row" s_law_row f fd) : FnOk P w K mg base CX0 1 f fd ["_law_script"] (sp_law_row K) := by
  refine F.ok sc_law_row (fun vs H Q E h => ?_) (fun cdv A outer s H vs Q E hr h => ?_)
  · obtain ⟨a, ns, rfl, _⟩ := h
    rfl
  · obtain ⟨a, ns, rfl, hC, hlen, k⟩ := h
    have hS := hC.seq
    refine ⟨_, (pss_cons (ps_set (i := 1) sc_law_row.nd rfl (Or.inl rfl) pe_int)
    (pss_cons (ps_for PassesOwn.never rfl (pi_list (pv 0)) (pg_name (i := 2) sc_law_row.nd rfl (Or.inl rfl))
      (pss_one (ps_set (i := 1) sc_law_row.nd rfl (Or.inl rfl) (pe_op op_mod (pe_op op_add (pe_op op_add (pe_op op_mul (pv 1) pe_int) (pv 2)) pe_int) pe_int))))
    (pss_one (ps_ret (pe_lst (pa_cons (pv 0) (pa_cons pe_int (pa_cons pe_int (pa_cons (pv 1) pa_nil))))))))), ?_⟩
    refine ⟨_, rfl, a, rfl, ⟨_, hS⟩, for_list (K := K) (a := a) (xs := ns.map V.int) (fun i σ H2 => ∃ (m : Int) (v : Option V), σ = [some (.ref a), some (.int m), v] ∧ 0 ≤ m ∧ m < 2147483647 ∧ H2 = H)
      ⟨7, none, rfl, by decide, by decide, rfl⟩ (fun i σ H2 _ ⟨_, _, _, _, _, e⟩ => by rw [e]; exact hS) ?_ ?_⟩
    · rintro i y σ H2 hi ⟨m, v, rfl, h0, h1, rfl⟩
      obtain ⟨z, rfl⟩ : ∃ z, y = V.int z := by
        rw [List.getElem?_map] at hi
        cases e : ns[i]? with
        | none => rw [e] at hi; cases hi
        | some z => rw [e] at hi; exact ⟨z, (Option.some.inj hi).symm⟩
      refine ⟨_, rfl, _, _, rfl, rfl, .inl ⟨by omega, by omega⟩, _, rfl, _, _, rfl, rfl, _, _, rfl, rfl, _, _, rfl, rfl, (by show (0 : Int) < 2147483647; decide), ?_⟩
      exact ⟨_, _, rfl, Int.emod_nonneg _ (by decide), Int.emod_lt_of_pos _ (by decide), rfl⟩
    · rintro σ H2 ⟨m, v, rfl, h0, h1, rfl⟩
      refine ⟨_, rfl, _, rfl, (by show 4 ≤ sizeLine; decide), fun p hp => ?_⟩
      exact k p _ hp (same_upd hp) ⟨⟨0, 0, m, upd_same, Nat.zero_le _, by decide, h0, h1⟩, hC.same (same_upd hp)⟩
theorem natAbs_lt_pow {z : Int} {n : Nat} (h0 : 0 ≤ z) (h : z < 2 ^ n) : z.natAbs < 2 ^ n := by
  have e : ((2 ^ n : Nat) : Int) = 2 ^ n := by norm_cast
  omega
theorem ok_law_taken {f : Addr} {fd : FuncData} (F : Fun K "_law_taken" "_law_taken" s_law_taken f fd) (T : BT mg) : FnOk P w K mg base CX0 1 f fd ["_law_row_here", "_law_many"] (sp_law_taken K) := by
  refine F.ok sc_law_taken (fun vs H Q E h => ?_) (fun cdv A outer s H vs Q E hr h => ?_)
  · obtain ⟨r, a, ns, many, rfl, _⟩ := h
    rfl
  · obtain ⟨r, a, ns, many, rfl, ⟨⟨i, left, mixed, hr0, hi, hl, hm0, hm1⟩, hC⟩, hm, hmw, k⟩ := h
    have hS := hC.seq
    have mw : ∀ z, CDivW z many := fun z => wide_div (b := 8000) hm (natAbs_lt_pow (Int.le_of_lt hm) hmw) (by decide) (by decide)
    have nra : ∀ o, ScrAt K (upd H r o) a ns := fun o => hC.but (no_frz hr0) fun b z e hb => by rw [upd_ne hb]; exact e
    have kp : ∀ o b z, H b = some z → b ≠ r → (upd H r o) b = some z := fun o b z e hb => by rw [upd_ne hb]; exact e
    refine ⟨_, (pss_cons (ps_if (pt_cmpR op_gt (pe_ix ix_list (pv 0) pe_int (fun _ _ => rfl)) pe_int (nomark _))
      (pss_cons (ps_set (i := 2) sc_law_taken.nd rfl (Or.inl rfl) (pe_op op_mod (pe_ix ix_list (pv 0) pe_int (fun _ _ => rfl)) (pv 1)))
    (pss_cons (ps_asg (pe_op op_fdivW (pe_ix ix_list (pv 0) pe_int (fun _ _ => rfl)) (pv 1)) (pg_sub (pv 0) pe_int set_list))
    (pss_one (ps_ret (pv 2))))) pss_nil)
    (pss_cons (ps_if (pt_cmpR op_lt (pe_ix ix_list (pv 0) pe_int (fun _ _ => rfl)) (pe_callB call_len_seq (by rfl) T.b_len (by decide +kernel) (pa_cons (pe_ix ix_list (pv 0) pe_int (fun _ _ => rfl)) pa_nil)) (nomark _))
      (pss_cons (ps_set (i := 3) sc_law_taken.nd rfl (Or.inl rfl) (pe_ix ix_list (pe_ix ix_list (pv 0) pe_int (fun _ _ => rfl)) (pe_ix ix_list (pv 0) pe_int (fun _ _ => rfl)) (fun _ _ => rfl)))
    (pss_cons (ps_asg (pe_op op_add (pe_ix ix_list (pv 0) pe_int (fun _ _ => rfl)) pe_int) (pg_sub (pv 0) pe_int set_list))
    (pss_cons (ps_if (pt_cmpR op_ge (pv 3) (pe_powc (v := 1000000000000000000) (by decide) ⟨by decide, by decide, by decide⟩) (nomark _))
      (pss_one (ps_asg (pe_op op_fdivW (pv 3) (pv 1)) (pg_sub (pv 0) pe_int set_list))) pss_nil)
    (pss_one (ps_ret (pe_op op_mod (pv 3) (pv 1))))))) pss_nil)
    (pss_cons (ps_asg (pe_op op_mod (pe_op op_add (pe_op op_mul (pe_ix ix_list (pv 0) pe_int (fun _ _ => rfl)) pe_int) pe_int) pe_int) (pg_sub (pv 0) pe_int set_list))
    (pss_one (ps_ret (pe_op op_mod (pe_op op_fdiv (pe_ix ix_list (pv 0) pe_int (fun _ _ => rfl)) pe_int) (pv 1))))))), ?_⟩
    refine ⟨_, rfl, r, _, 2, .int left, rfl, rfl, SqL.of hr0, atI_nat (j := 2) rfl, _, _, rfl, rfl, _, rfl, ite2 (fun c => ?_) (fun c => ?_)⟩
    · -- what is left of a great number
      refine ⟨_, rfl, r, _, 2, .int left, rfl, rfl, SqL.of hr0, atI_nat (j := 2) rfl, _, rfl, _, _, rfl, rfl, hm, ?_⟩
      refine ⟨_, rfl, r, _, 2, .int left, rfl, rfl, SqL.of hr0, atI_nat (j := 2) rfl, _, rfl, _, _, rfl, rfl, mw _, ?_⟩
      refine ⟨_, rfl, r, _, 2, 2, rfl, rfl, hr0, rfl, ?_⟩
      refine ⟨_, rfl, k _ _ (Int.emod_nonneg _ (by omega)) (Int.emod_lt_of_pos _ hm) ⟨⟨i, left / many, mixed, upd_same, hi, Int.ediv_nonneg hl (by omega), hm0, hm1⟩, nra _⟩ (kp _)⟩
    · refine ⟨_, rfl, r, _, 1, .int i, rfl, rfl, SqL.of hr0, atI_nat (j := 1) rfl, _, rfl, r, _, 0, .ref a, rfl, rfl, SqL.of hr0, atI_nat (j := 0) rfl, a, _, rfl, .inl hS, _, _, rfl, rfl, _, rfl, ite2 (fun c2 => ?_) (fun c2 => ?_)⟩
      · have hi2 : i < ns.length := by
          have := of_decide_eq_true c2
          rw [List.length_map] at this
          omega
        have hz : (ns.map V.int)[i]? = some (.int ns[i]) := by
          rw [List.getElem?_map, List.getElem?_eq_getElem hi2]
          rfl
        refine ⟨_, rfl, r, _, 0, .ref a, rfl, rfl, SqL.of hr0, atI_nat (j := 0) rfl, _, rfl, r, _, 1, .int i, rfl, rfl, SqL.of hr0, atI_nat (j := 1) rfl, a, _, i, _, rfl, rfl, hS, atI_nat hz, ?_⟩
        generalize ns[i] = cell
        refine ⟨_, rfl, r, _, 1, .int i, rfl, rfl, SqL.of hr0, atI_nat (j := 1) rfl, _, _, rfl, rfl, _, rfl, r, _, 1, 1, rfl, rfl, hr0, rfl, ?_⟩
        have h1 : (upd H r (.lst [V.ref a, .int ((i : Int) + 1), .int left, .int mixed])) r = _ := upd_same
        refine ⟨_, rfl, _, _, rfl, rfl, _, rfl, ite2 (fun c3 => ?_) (fun c3 => ?_)⟩
        · have hc : 0 ≤ cell := by
            have := of_decide_eq_true c3
            omega
          refine ⟨_, rfl, _, rfl, _, _, rfl, rfl, mw _, _, rfl, r, _, 2, 2, rfl, rfl, h1, rfl, ?_⟩
          refine ⟨_, rfl, _, rfl, _, _, rfl, rfl, hm, ?_⟩
          rw [upd_upd]
          exact k _ _ (Int.emod_nonneg _ (by omega)) (Int.emod_lt_of_pos _ hm) ⟨⟨i + 1, cell / many, mixed, upd_same, hi2, Int.ediv_nonneg hc (by omega), hm0, hm1⟩, nra _⟩ (kp _)
        · refine ⟨_, rfl, _, rfl, _, _, rfl, rfl, hm, ?_⟩
          exact k _ _ (Int.emod_nonneg _ (by omega)) (Int.emod_lt_of_pos _ hm) ⟨⟨i + 1, left, mixed, upd_same, hi2, hl, hm0, hm1⟩, nra _⟩ (kp _)
      · refine ⟨_, rfl, r, _, 3, .int mixed, rfl, rfl, SqL.of hr0, atI_nat (j := 3) rfl, _, _, rfl, rfl, .inl ⟨by omega, by omega⟩, _, _, rfl, rfl, _, _, rfl, rfl, (by show (0 : Int) < 2147483647; decide), _, rfl, r, _, 3, 3, rfl, rfl, hr0, rfl, ?_⟩
        have h1 : (upd H r (.lst [V.ref a, .int (i : Int), .int left, .int ((mixed * 48271 + 12345) % 2147483647)])) r = _ := upd_same
        refine ⟨_, rfl, r, _, 3, _, rfl, rfl, SqL.of h1, atI_nat (j := 3) rfl, _, _, rfl, rfl, ⟨by decide, by decide⟩, _, rfl, _, _, rfl, rfl, hm, ?_⟩
        exact k _ _ (Int.emod_nonneg _ (by omega)) (Int.emod_lt_of_pos _ hm) ⟨⟨i, left, _, upd_same, hi, hl, Int.emod_nonneg _ (by decide), Int.emod_lt_of_pos _ (by decide)⟩, nra _⟩ (kp _)
def sp_law_whole : Sp := fun vs H Q _ => ∃ i : Int, vs = [.int i] ∧ Q (.bl true) H
theorem ok_law_whole {f : Addr} {fd : FuncData} (F : Fun K "_law_whole" "_law_whole" s_law_whole f fd) (T : BT mg) : FnOk P w K mg base CX0 1 f fd ["_law_found"] sp_law_whole := by
  refine F.ok sc_law_whole (fun vs H Q E h => ?_) (fun cdv A outer s H vs Q E hr h => ?_)
  · obtain ⟨i, rfl, _⟩ := h
    rfl
  · obtain ⟨i, rfl, k⟩ := h
    refine ⟨_, (pss_one (ps_ret (pe_and (pe_callB call_isi (by rfl) T.b_isinstance (by decide +kernel) (pa_cons (pv 0) (pa_cons (pe_bltn (v := .ty "int") (by rfl) T.b_int (by decide +kernel) rfl) pa_nil))) (pe_one (pe_not (pe_callB call_isi (by rfl) T.b_isinstance (by decide +kernel) (pa_cons (pv 0) (pa_cons (pe_bltn (v := .ty "bool") (by rfl) T.b_bool (by decide +kernel) rfl) pa_nil)))))))), ?_⟩
    refine ⟨_, rfl, _, _, _, _, true, rfl, .ty "int", .base (.int i), kit_ty (by decide +kernel), _, rfl, iteT ?_⟩
    exact ⟨_, rfl, _, _, _, _, false, rfl, .ty "bool", .base (.int i), kit_ty (by decide +kernel), _, rfl, k⟩
def sp_law_signed (K : PySem.W.Frag) : Sp := fun vs H Q _ => ∃ (r a : Addr) (ns : List Int) (most : Int), vs = [.ref r, .int most] ∧ RowAt K H r a ns ∧ 0 ≤ most ∧ most < 2 ^ 60 ∧
  ∀ v H', -most ≤ v → v ≤ most → RowAt K H' r a ns → (∀ b o, H b = some o → b ≠ r → H' b = some o) → Q (.int v) H'
theorem ok_law_signed {f : Addr} {fd : FuncData} (F : Fun K "_law_signed" "_law_signed" s_law_signed f fd) (G_law_taken : COk P w K mg base CX0 1 "_law_taken" ["_law_row_here", "_law_many"] (sp_law_taken K)) : FnOk P w K mg base CX0 2 f fd ["_law_row_here", "_law_most"] (sp_law_signed K) := by
  refine F.ok sc_law_signed (fun vs H Q E h => ?_) (fun cdv A outer s H vs Q E hr h => ?_)
  · obtain ⟨r, a, ns, most, rfl, _⟩ := h
    rfl
  · obtain ⟨r, a, ns, most, rfl, R, h0, h1, k⟩ := h
    refine ⟨_, (pss_one (ps_ret (pe_op op_sub (pe_c G_law_taken (hr.mono (by first | decide | omega)) (pa_cons (pv 0) (pa_cons (pe_op op_add (pe_op op_mul pe_int (pv 1)) pe_int) pa_nil))) (pv 1)))), ?_⟩
    have b60 : (2 : Int) ^ 60 = 1152921504606846976 := by decide
    have b8 : (2 : Int) ^ 62 < 2 ^ 8000 := by decide +kernel
    have b62 : (2 : Int) ^ 62 = 4611686018427387904 := by decide
    refine ⟨_, rfl, _, rfl, _, _, rfl, rfl, .inl ⟨by decide, by decide⟩, _, _, rfl, rfl, r, a, ns, _, rfl, R, by omega, by omega, fun v H' v0 v1 R' kp => ?_⟩
    exact ⟨_, rfl, _, _, rfl, rfl, k _ _ (by omega) (by omega) R' kp⟩
end

/-! ### root_below -/
/-- r is the greatest whole number whose square is no greater than n -/
def IsRoot (n r : Int) : Prop := 0 ≤ r ∧ r * r ≤ n ∧ n < (r + 1) * (r + 1)
theorem sq_nonneg (x : Int) : 0 ≤ x * x := by
  rcases Int.le_total 0 x with h | h
  · exact Int.mul_nonneg h h
  · exact Int.mul_nonneg_of_nonpos_of_nonpos h h
theorem IsRoot.unique {n r s : Int} (a : IsRoot n r) (b : IsRoot n s) : r = s := by
  obtain ⟨a0, a1, a2⟩ := a
  obtain ⟨b0, b1, b2⟩ := b
  have key : ∀ x y : Int, 0 ≤ x → 0 ≤ y → x * x ≤ n → n < (y + 1) * (y + 1) → x ≤ y := fun x y hx hy h1 h2 => by
    rcases Int.lt_or_le y x with h | h
    · have := Int.mul_le_mul (show y + 1 ≤ x by omega) (show y + 1 ≤ x by omega) (by omega) hx
      omega
    · exact h
  have h1 := key r s a0 b0 a1 b2
  have h2 := key s r b0 a0 b1 a2
  omega
theorem newton {n g q b : Int} (hg : 0 < g) (hq : q = n / g) (hb : b = (g + q) / 2) : n < (b + 1) * (b + 1) := by
  have h1 : n < g * (q + 1) := by
    have := Int.lt_mul_ediv_self_add (x := n) (k := g) hg
    rw [← hq] at this
    have e : g * (q + 1) = g * q + g := by grind
    omega
  have h2 : g + q + 1 ≤ 2 * (b + 1) := by omega
  have h3 : 4 * (g * (q + 1)) ≤ (g + q + 1) * (g + q + 1) := by
    have h : (g + q + 1) * (g + q + 1) - 4 * (g * (q + 1)) = (g - q - 1) * (g - q - 1) := by grind
    have := sq_nonneg (g - q - 1)
    omega
  rcases Int.lt_or_le n 0 with hn | hn
  · have := sq_nonneg (b + 1)
    omega
  · have hq0 : 0 ≤ q := by rw [hq]; exact Int.ediv_nonneg hn (by omega)
    have h4 : (g + q + 1) * (g + q + 1) ≤ (2 * (b + 1)) * (2 * (b + 1)) := Int.mul_le_mul h2 h2 (by omega) (by omega)
    have h5 : (2 * (b + 1)) * (2 * (b + 1)) = 4 * ((b + 1) * (b + 1)) := by grind
    omega
theorem newton_end {n g : Int} (hg : 0 < g) (hn : 0 ≤ n) (h : g ≤ (g + n / g) / 2) : g * g ≤ n := by
  have h1 : g ≤ n / g := by omega
  have h2 := Int.mul_le_mul_of_nonneg_left h1 (show 0 ≤ g by omega)
  have h3 := Int.mul_ediv_self_le (x := n) (k := g) (by omega)
  omega
theorem first_guess {n : Int} (h : 0 ≤ n) : n < ((2 : Int) ^ ((Builtin.Int.intBits n + 1) / 2) + 1) * ((2 : Int) ^ ((Builtin.Int.intBits n + 1) / 2) + 1) := by
  have hb : n < (2 : Int) ^ Builtin.Int.intBits n := by
    unfold Builtin.Int.intBits
    split
    · rename_i z
      have : n = 0 := by simpa using z
      subst this
      decide
    · have := Nat.lt_log2_self (n := n.natAbs)
      have e : ((2 ^ (n.natAbs.log2 + 1) : Nat) : Int) = 2 ^ (n.natAbs.log2 + 1) := by norm_cast
      omega
  generalize Builtin.Int.intBits n = m at *
  have hp : ∀ k : Nat, (0 : Int) < 2 ^ k := fun k => Int.pow_pos (by decide)
  have h1 : (2 : Int) ^ m ≤ 2 ^ ((m + 1) / 2) * 2 ^ ((m + 1) / 2) := by
    rw [← Int.pow_add]
    have z := Nat.pow_le_pow_right (n := 2) (by decide) (show m ≤ (m + 1) / 2 + (m + 1) / 2 by omega)
    exact_mod_cast z
  have h2 := hp ((m + 1) / 2)
  generalize (2 : Int) ^ ((m + 1) / 2) = g at *
  have e : (g + 1) * (g + 1) = g * g + 2 * g + 1 := by grind
  omega
def sp_root_below : Sp := fun vs H Q _ => ∃ n : Int, vs = [.int n] ∧ 0 ≤ n ∧ n < 2 ^ 4000 ∧ ∀ r, IsRoot n r → Q (.int r) H
section
variable {P : Program} {w : World} {K : PySem.W.Frag} {mg : Str → Option Value} {base : Heap}
theorem ok_root_below {f : Addr} {fd : FuncData} (F : Fun K "root_below" "root_below" s_root_below f fd) : FnOk P w K mg base CX0 1 f fd ["number"] sp_root_below := by
  refine F.ok sc_root_below (fun vs H Q E h => ?_) (fun cdv A outer s H vs Q E hr h => ?_)
  · obtain ⟨n, rfl, _⟩ := h
    rfl
  · obtain ⟨n, rfl, h0, hw, k⟩ := h
    refine ⟨_, (pss_cons (ps_if (pt_cmpR op_eq (pv 0) pe_int (nomark _))
      (pss_one (ps_ret pe_int)) pss_nil)
    (pss_cons (ps_set (i := 1) sc_root_below.nd rfl (Or.inl rfl) (pe_op op_shl pe_int (pe_op op_fdiv (pe_op op_add (pe_bits (pv 0)) pe_int) pe_int)))
    (pss_one (ps_while PassesOwn.never (pt_val pe_bl)
      (pss_cons (ps_set (i := 2) sc_root_below.nd rfl (Or.inl rfl) (pe_op op_fdiv (pe_op op_add (pv 1) (pe_op op_fdivW (pv 0) (pv 1))) pe_int))
    (pss_cons (ps_if (pt_cmpR op_ge (pv 2) (pv 1) (nomark _))
      (pss_one (ps_ret (pv 1))) pss_nil)
    (pss_one (ps_set (i := 1) sc_root_below.nd rfl (Or.inl rfl) (pv 2))))))))), ?_⟩
    refine ⟨_, rfl, rfl, _, rfl, ite2 (fun c => ?_) (fun c => ?_)⟩
    · have e : n = 0 := V.int.inj (of_decide_eq_true c)
      subst e
      exact k 0 ⟨by decide, by decide, by decide⟩
    · have hn : 0 < n := by
        have : n ≠ 0 := fun z => c (decide_eq_true (by rw [z]))
        omega
      have hbits : Builtin.Int.intBits n ≤ 4000 := PyProof.Rows.intBits_le (natAbs_lt_pow h0 hw)
      refine ⟨_, rfl, _, rfl, _, _, rfl, rfl, _, _, rfl, rfl, ⟨by decide, by decide⟩, _, _, rfl, rfl, ⟨by omega, by omega, by decide⟩, ?_⟩
      have e0 : (((Builtin.Int.intBits n : Nat) : Int) + 1) / 2 = (((Builtin.Int.intBits n + 1) / 2 : Nat) : Int) := by omega
      have e1 : (1 : Int) * 2 ^ ((((Builtin.Int.intBits n : Nat) : Int) + 1) / 2).toNat = 2 ^ ((Builtin.Int.intBits n + 1) / 2) := by rw [e0, Int.toNat_natCast, Int.one_mul]
      show tWhile _ _ _ [some (V.int n), some (V.int ((1 : Int) * 2 ^ ((((Builtin.Int.intBits n : Nat) : Int) + 1) / 2).toNat)), none] H
      rw [e1]
      refine while_by (fun σ H2 => ∃ (g : Int) (b : Option V), σ = [some (.int n), some (.int g), b] ∧ 0 < g ∧ g < 2 ^ 4001 ∧ n < (g + 1) * (g + 1) ∧ H2 = H)
        (fun σ _ => match σ with | [_, some (.int g), _] => g.toNat | _ => 0) ⟨_, none, rfl, Int.pow_pos (by decide), ?_, first_guess h0, rfl⟩ ?_ ?_
      · exact Int.pow_lt_pow_of_lt (by decide) (by omega)
      · rintro σ H2 ⟨g, b, rfl, hg, hgw, hlt, rfl⟩
        refine ⟨_, rfl, iteT ?_⟩
        refine ⟨_, rfl, _, rfl, _, rfl, _, _, rfl, rfl, wide_div (b := 4001) hg (natAbs_lt_pow (Int.le_of_lt hg) hgw) (by decide) (by decide), _, _, rfl, rfl, _, _, rfl, rfl, ⟨by decide, by decide⟩, ?_⟩
        have hb := newton (n := n) hg rfl rfl
        refine ⟨_, rfl, _, rfl, _, _, rfl, rfl, _, rfl, ite2 (fun c2 => ?_) (fun c2 => ?_)⟩
        · exact ⟨_, rfl, k g ⟨by omega, newton_end hg h0 (of_decide_eq_true c2), hlt⟩⟩
        · have c3 : ¬ g ≤ (g + n / g) / 2 := fun z => c2 (decide_eq_true z)
          have hd : 0 ≤ n / g := Int.ediv_nonneg h0 (by omega)
          have hb0 : 0 < (g + n / g) / 2 := by
            rcases Int.lt_or_le 0 ((g + n / g) / 2) with z | z
            · exact z
            · exfalso
              have e1 : g = 1 := by omega
              subst e1
              have : n / 1 = n := Int.ediv_one n
              omega
          exact ⟨_, rfl, ⟨_, _, rfl, hb0, by omega, hb, rfl⟩, by show ((g + n / g) / 2).toNat < g.toNat; omega⟩
      · intro σ H2 Q1 Q2 im hq
        exact hq.elim fun c ⟨e, z⟩ => ⟨c, e, im _ _ z⟩
end
/-! ### chains of fractions, in plain Lean -/
theorem fmod_pos {a b : Int} (h : 0 < b) : 0 ≤ a.fmod b ∧ a.fmod b < b := ⟨Int.fmod_nonneg_of_pos a h, Int.fmod_lt_of_pos a h⟩
theorem fmod_neg {a b : Int} (h : b < 0) : b < a.fmod b ∧ a.fmod b ≤ 0 := by
  have h1 := Int.fmod_nonneg_of_pos (-a) (show 0 < -b by omega)
  have h2 := Int.fmod_lt_of_pos (-a) (show 0 < -b by omega)
  rw [Int.neg_fmod_neg] at h1 h2
  omega
theorem fmod_abs {a b : Int} (h : b ≠ 0) : (a.fmod b).natAbs < b.natAbs := by
  rcases Int.lt_or_gt_of_ne h with h | h
  · have := fmod_neg (a := a) h; omega
  · have := fmod_pos (a := a) h; omega
theorem fdm (a b : Int) : b * a.fdiv b + a.fmod b = a := Int.mul_fdiv_add_fmod a b
theorem fmod_eq (a b : Int) : a - a.fdiv b * b = a.fmod b := by
  have := fdm a b
  rw [Int.mul_comm] at this
  omega
/-- the parts of the fraction t / b -/
def chain (t b : Int) : List Int := if h : b = 0 then [] else t.fdiv b :: chain b (t.fmod b)
termination_by b.natAbs
decreasing_by exact fmod_abs h
theorem chain_zero (t : Int) : chain t 0 = [] := by rw [chain, dif_pos rfl]
theorem chain_cons {t b : Int} (h : b ≠ 0) : chain t b = t.fdiv b :: chain b (t.fmod b) := by rw [chain, dif_neg h]
theorem chain_len : ∀ (n : Nat) (t b : Int), b.natAbs < 2 ^ n → (chain t b).length ≤ 2 * n
  | 0, t, b, h => by
    have e : b = 0 := by simp at h; exact h
    rw [e, chain_zero]; simp
  | n + 1, t, b, h => by
    by_cases hb : b = 0
    · rw [hb, chain_zero]; simp
    · rw [chain_cons hb, List.length_cons]
      by_cases hr : t.fmod b = 0
      · rw [hr, chain_zero, List.length_nil]; omega
      · rw [chain_cons hr, List.length_cons]
        have key : (b.fmod (t.fmod b)).natAbs < 2 ^ n := by
          have h1 := fdm b (t.fmod b)
          have hrp : 0 < b → 0 ≤ t.fmod b ∧ t.fmod b < b := fun z => fmod_pos z
          have hrn : b < 0 → b < t.fmod b ∧ t.fmod b ≤ 0 := fun z => fmod_neg z
          generalize t.fmod b = r at *
          have hd : ∀ q s : Int, r * q + s = b → ((0 < b ∧ 0 ≤ r ∧ r < b) ∨ (b < 0 ∧ b < r ∧ r ≤ 0)) → ((0 ≤ s ∧ s < r) ∨ (r < s ∧ s ≤ 0)) → 2 * s.natAbs < b.natAbs := by
            intro q s e c1 c2
            rcases c1 with ⟨p1, p2, p3⟩ | ⟨p1, p2, p3⟩
            · rcases c2 with ⟨p4, p5⟩ | ⟨p4, p5⟩
              · have hq : 0 < q := by
                  rcases Int.lt_or_le 0 q with z | z
                  · exact z
                  · have := Int.mul_le_mul_of_nonneg_left z p2
                    rw [Int.mul_zero] at this
                    omega
                have := Int.mul_le_mul_of_nonneg_left (show 1 ≤ q from hq) p2
                omega
              · omega
            · rcases c2 with ⟨p4, p5⟩ | ⟨p4, p5⟩
              · omega
              · have hq : 0 < q := by
                  rcases Int.lt_or_le 0 q with z | z
                  · exact z
                  · have := Int.mul_nonneg_of_nonpos_of_nonpos p3 z
                    omega
                have := Int.mul_nonneg (show 0 ≤ -r by omega) (show 0 ≤ q - 1 by omega)
                have e3 : -r * (q - 1) = r - r * q := by grind
                omega
          have c1 : (0 < b ∧ 0 ≤ r ∧ r < b) ∨ (b < 0 ∧ b < r ∧ r ≤ 0) := by
            rcases Int.lt_or_gt_of_ne hb with z | z
            · exact .inr ⟨z, hrn z⟩
            · exact .inl ⟨z, hrp z⟩
          have c2 : (0 ≤ b.fmod r ∧ b.fmod r < r) ∨ (r < b.fmod r ∧ b.fmod r ≤ 0) := by
            rcases Int.lt_or_gt_of_ne hr with z | z
            · exact .inr (fmod_neg z)
            · exact .inl (fmod_pos z)
          have := hd _ _ h1 c1 c2
          have e2 : 2 ^ (n + 1) = 2 * 2 ^ n := by rw [Nat.pow_succ]; omega
          omega
        have := chain_len n (t.fmod b) (b.fmod (t.fmod b)) key
        omega
/-- what a row of parts comes to -/
def fold : List Int → Int × Int
  | [] => (1, 0)
  | p :: r => (p * (fold r).1 + (fold r).2, (fold r).1)
theorem fold_pos : ∀ r : List Int, (∀ p ∈ r, 1 ≤ p) → 1 ≤ (fold r).1 ∧ 0 ≤ (fold r).2 ∧ (r ≠ [] → 1 ≤ (fold r).2)
  | [], _ => ⟨by decide, by decide, fun h => absurd rfl h⟩
  | p :: r, h => by
    obtain ⟨h1, h2, _⟩ := fold_pos r fun q hq => h q (List.mem_cons_of_mem _ hq)
    have hp := h p List.mem_cons_self
    have := Int.mul_le_mul hp h1 (by decide) (by omega)
    show 1 ≤ p * (fold r).1 + (fold r).2 ∧ 0 ≤ (fold r).1 ∧ (_ → 1 ≤ (fold r).1)
    omega
/-- parts as a chain has them behind the first: 1 or more, the last 2 or more -/
def Tail (r : List Int) : Prop := (∀ p ∈ r, 1 ≤ p) ∧ ∀ x, r.getLast? = some x → 2 ≤ x
theorem Tail.tail {p : Int} {r : List Int} (h : Tail (p :: r)) : Tail r := by
  refine ⟨fun q hq => h.1 q (List.mem_cons_of_mem _ hq), fun x hx => h.2 x ?_⟩
  cases r with
  | nil => cases hx
  | cons y s => rw [List.getLast?_cons_cons]; exact hx
theorem fold_tail : ∀ r : List Int, r ≠ [] → Tail r → (fold r).2 < (fold r).1
  | [], h, _ => absurd rfl h
  | [p], _, h => by
    have := h.2 p rfl
    show (1 : Int) < p * 1 + 0
    omega
  | p :: q :: r, _, h => by
    obtain ⟨h1, h2, h3⟩ := fold_pos (q :: r) fun x hx => h.1 x (List.mem_cons_of_mem _ hx)
    have hp := h.1 p List.mem_cons_self
    have := Int.mul_le_mul_of_nonneg_right hp (show 0 ≤ (fold (q :: r)).1 by omega)
    have h4 := h3 (List.cons_ne_nil _ _)
    show (fold (q :: r)).1 < p * (fold (q :: r)).1 + (fold (q :: r)).2
    omega
theorem fdiv_unique {a b q r : Int} (hb : 0 < b) (h : a = q * b + r) (h0 : 0 ≤ r) (h1 : r < b) : a.fdiv b = q ∧ a.fmod b = r := by
  have e := fdm a b
  obtain ⟨m0, m1⟩ := fmod_pos (a := a) hb
  have k : a.fdiv b = q := by
    generalize a.fdiv b = x at *
    generalize a.fmod b = y at *
    rcases Int.lt_trichotomy x q with z | z | z
    · have := Int.mul_le_mul_of_nonneg_left (show x + 1 ≤ q by omega) (show 0 ≤ b by omega)
      have e1 : b * (x + 1) = b * x + b := by grind
      have e2 : b * q = q * b := Int.mul_comm _ _
      omega
    · exact z
    · have := Int.mul_le_mul_of_nonneg_left (show q + 1 ≤ x by omega) (show 0 ≤ b by omega)
      have e1 : b * (q + 1) = b * q + b := by grind
      have e2 : b * q = q * b := Int.mul_comm _ _
      omega
  refine ⟨k, ?_⟩
  rw [k, Int.mul_comm] at e
  omega
theorem chain_fold : ∀ (p : Int) (r : List Int), Tail r → chain (fold (p :: r)).1 (fold (p :: r)).2 = p :: r
  | p, [], _ => by
    show chain (p * 1 + 0) 1 = [p]
    obtain ⟨e1, e2⟩ := fdiv_unique (a := p * 1 + 0) (b := 1) (q := p) (r := 0) (by decide) (by omega) (by decide) (by decide)
    rw [chain_cons (by decide), e1, e2, chain_zero]
  | p, q :: r, h => by
    obtain ⟨h1, h2, h3⟩ := fold_pos (q :: r) h.1
    have h4 := fold_tail (q :: r) (List.cons_ne_nil _ _) h
    have ih := chain_fold q r h.tail
    show chain (p * (fold (q :: r)).1 + (fold (q :: r)).2) (fold (q :: r)).1 = p :: q :: r
    obtain ⟨e1, e2⟩ := fdiv_unique (a := p * (fold (q :: r)).1 + (fold (q :: r)).2) (b := (fold (q :: r)).1) (q := p) (r := (fold (q :: r)).2) (by omega) rfl h2 h4
    rw [chain_cons (by omega), e1, e2, ih]
theorem gcd_fold : ∀ r : List Int, Int.gcd (fold r).1 (fold r).2 = 1
  | [] => by decide
  | p :: r => by
    have ih := gcd_fold r
    show Int.gcd (p * (fold r).1 + (fold r).2) (fold r).1 = 1
    rw [Int.gcd_comm, Int.add_comm, Int.mul_comm, Int.gcd_add_mul_left_right]
    exact ih
/-- a fraction is what its chain comes to, but for a factor -/
theorem fold_chain : ∀ (n : Nat) (t b : Int), b.natAbs ≤ n → ∃ g : Int, t = g * (fold (chain t b)).1 ∧ b = g * (fold (chain t b)).2 ∧ (0 < b → 0 < g) ∧ (b < 0 → g < 0) ∧ (b = 0 → g = t)
  | n, t, b, hn => by
    by_cases hb : b = 0
    · subst hb
      rw [chain_zero]
      exact ⟨t, by show t = t * 1; omega, by show (0 : Int) = t * 0; omega, fun h => by omega, fun h => by omega, fun _ => rfl⟩
    · have hm := fmod_abs (a := t) hb
      match n, hn with
      | n + 1, hn =>
        obtain ⟨g, e1, e2, p1, p2, p3⟩ := fold_chain n b (t.fmod b) (by omega)
        rw [chain_cons hb]
        refine ⟨g, ?_, e1, fun z => ?_, fun z => ?_, fun z => absurd z hb⟩
        · have e := fdm t b
          show t = g * (t.fdiv b * (fold (chain b (t.fmod b))).1 + (fold (chain b (t.fmod b))).2)
          generalize fold (chain b (t.fmod b)) = x at *
          generalize t.fmod b = r at *
          generalize t.fdiv b = q at *
          grind
        · obtain ⟨m0, m1⟩ := fmod_pos (a := t) z
          rcases Int.lt_or_eq_of_le m0 with y | y
          · exact p1 y
          · rw [p3 y.symm]; exact z
        · obtain ⟨m0, m1⟩ := fmod_neg (a := t) z
          rcases Int.lt_or_eq_of_le m1 with y | y
          · exact p2 y
          · rw [p3 y]; exact z
      | 0, hn => omega
theorem fold_low {t b : Int} (hb : b ≠ 0) : ∃ g : Int, t = g * (fold (chain t b)).1 ∧ b = g * (fold (chain t b)).2 ∧ g ≠ 0 ∧ (0 < g ↔ 0 < b) ∧ (g.natAbs = Int.gcd t b) := by
  obtain ⟨g, e1, e2, p1, p2, p3⟩ := fold_chain b.natAbs t b (Nat.le_refl _)
  have hg : g ≠ 0 := by
    rcases Int.lt_or_gt_of_ne hb with z | z
    · have := p2 z; omega
    · have := p1 z; omega
  refine ⟨g, e1, e2, hg, ⟨fun z => ?_, p1⟩, ?_⟩
  · rcases Int.lt_or_gt_of_ne hb with y | y
    · have := p2 y; omega
    · exact y
  · have h := gcd_fold (chain t b)
    generalize fold (chain t b) = x at *
    rw [e1, e2, Int.gcd_mul_left, h, Nat.mul_one]
theorem fold_bound : ∀ (r : List Int), (∀ p ∈ r, p.natAbs ≤ 2 ^ 39) → (fold r).1.natAbs ≤ 2 ^ (40 * r.length) ∧ (fold r).2.natAbs ≤ 2 ^ (40 * r.length)
  | [], _ => ⟨by decide, by decide⟩
  | p :: r, h => by
    obtain ⟨h1, h2⟩ := fold_bound r fun q hq => h q (List.mem_cons_of_mem _ hq)
    have hp := h p List.mem_cons_self
    have e : 2 ^ (40 * (r.length + 1)) = 2 ^ 39 * 2 ^ (40 * r.length) + 2 ^ 39 * 2 ^ (40 * r.length) := by
      rw [Nat.mul_add, Nat.pow_add]
      omega
    have e3 : 2 ^ (40 * r.length) ≤ 2 ^ 39 * 2 ^ (40 * r.length) := Nat.le_mul_of_pos_left _ (by decide)
    show (p * (fold r).1 + (fold r).2).natAbs ≤ 2 ^ (40 * (r.length + 1)) ∧ (fold r).1.natAbs ≤ 2 ^ (40 * (r.length + 1))
    have e4 := Int.natAbs_add_le (p * (fold r).1) (fold r).2
    have e5 : (p * (fold r).1).natAbs ≤ 2 ^ 39 * 2 ^ (40 * r.length) := by
      rw [Int.natAbs_mul]
      exact Nat.mul_le_mul hp h1
    omega
/-! ### further helpers of the laws -/
section
variable {P : Program} {w : World} {K : PySem.W.Frag} {mg : Str → Option Value} {base : Heap}
theorem dpAll_ints {H : Hp} : ∀ ns : List Int, DpAll K H (ns.map V.int) (ns.map PyData.int)
  | [] => .nil
  | n :: r => .cons (.int n) (dpAll_ints r)
theorem shaped_ints (ns : List Int) : SeqAt.shaped (.list (ns.map PyData.int)) = true := PySem.W.ke_shaped_ints ns
def small (z : Int) : Prop := z.natAbs < 2 ^ 1000
theorem small_fdiv {z : Int} (h : small z) (h0 : z ≠ 0) (y : Int) : CDivS y z := ⟨h0, Nat.lt_of_lt_of_le h (Nat.pow_le_pow_right (by decide) (by decide))⟩
theorem small_mul {x y : Int} (h : small x) (h' : small y) : CMulW x y := wide_mul (a := 1000) (b := 1000) h h' (by decide) (by decide) (by decide)
theorem fdiv_abs {a b : Int} (hb : b ≠ 0) : (a.fdiv b).natAbs ≤ a.natAbs := by
  have key : ∀ (x y q r : Int), 0 < y → y * q + r = x → 0 ≤ r → r < y → q.natAbs ≤ x.natAbs := by
    intro x y q r hy e r0 r1
    rcases Int.lt_or_le q 0 with z | z
    · have := Int.mul_nonneg (show 0 ≤ y - 1 by omega) (show 0 ≤ -q - 1 by omega)
      have e2 : (y - 1) * (-q - 1) = -(y * q) - y + q + 1 := by grind
      omega
    · have := Int.mul_nonneg (show 0 ≤ y - 1 by omega) z
      have e2 : (y - 1) * q = y * q - q := by grind
      omega
  rcases Int.lt_or_gt_of_ne hb with z | z
  · have h1 := fdm (-a) (-b)
    rw [Int.neg_fdiv_neg] at h1
    have := fmod_pos (a := -a) (show 0 < -b by omega)
    have := key (-a) (-b) _ _ (by omega) h1 this.1 this.2
    omega
  · exact key a b _ _ z (fdm a b) (fmod_pos z).1 (fmod_pos z).2
theorem small_fd {a b : Int} (h : small a) (hb : b ≠ 0) : small (a.fdiv b) := Nat.lt_of_le_of_lt (fdiv_abs hb) h
theorem small_fm {a b : Int} (h : small b) (hb : b ≠ 0) : small (a.fmod b) := Nat.lt_trans (fmod_abs hb) h
def sp_law_common : Sp := fun vs H Q _ => ∃ x y : Int, vs = [.int x, .int y] ∧ Q (.int (Int.gcd x y : Nat)) H
theorem ok_law_common {f : Addr} {fd : FuncData} (F : Fun K "_law_common" "_law_common" s_law_common f fd) (T : BT mg) : FnOk P w K mg base CX0 1 f fd ["_law_one", "_law_other"] sp_law_common := by
  refine F.ok sc_law_common (fun vs H Q E h => ?_) (fun cdv A outer s H vs Q E hr h => ?_)
  · obtain ⟨x, y, rfl, _⟩ := h
    rfl
  · obtain ⟨x, y, rfl, k⟩ := h
    refine ⟨_, (pss_cons (ps_while PassesOwn.never (pt_cmpR op_ne (pv 1) pe_int (nomark _))
      (pss_one (ps_par (i := 0) (j := 1) (by rfl) sc_law_common.nd rfl rfl (by decide) rfl rfl (pa_cons (pv 1) (pa_cons (pe_op op_modN (pv 0) (pv 1)) pa_nil)) (by rfl))))
    (pss_one (ps_ret (pe_callB call_abs (by rfl) T.b_abs (by decide +kernel) (pa_cons (pv 0) pa_nil))))), ?_⟩
    refine while_by (fun σ H2 => ∃ x' y' : Int, σ = [some (.int x'), some (.int y')] ∧ Int.gcd x' y' = Int.gcd x y ∧ H2 = H) (fun σ _ => match σ with | [_, some (.int y')] => y'.natAbs | _ => 0) ⟨x, y, rfl, rfl, rfl⟩ ?_ ?_
    · rintro σ H2 ⟨x', y', rfl, eg, rfl⟩
      refine ⟨_, rfl, rfl, _, rfl, ?_⟩
      by_cases hz : y' = 0
      · subst hz
        rw [decide_eq_true rfl]
        refine iteF ⟨_, rfl, _, rfl, ?_⟩
        have e : (if x' < 0 then -x' else x') = ((Int.gcd x y : Nat) : Int) := by
          rw [← eg, Int.gcd_zero_right]
          split <;> omega
        show Q (.int (if x' < 0 then -x' else x')) H2
        rw [e]
        exact k
      · rw [decide_eq_false (fun z => hz (V.int.inj z))]
        refine iteT ⟨_, rfl, _, rfl, _, rfl, _, _, rfl, rfl, hz, _, _, rfl, ⟨_, _, rfl, ?_, rfl⟩, fmod_abs hz⟩
        rw [← eg, Int.gcd_comm x' y']
        have e := fdm x' y'
        have e2 := Int.gcd_add_mul_left_right y' (x'.fmod y') (x'.fdiv y')
        rw [show x'.fmod y' + y' * x'.fdiv y' = x' by omega] at e2
        exact e2.symm
    · intro σ H2 Q1 Q2 im hq
      obtain ⟨v, e, e2, c, e3, z⟩ := hq
      exact ⟨v, e, e2, c, e3, im _ _ z⟩
/-- a fraction in lowest terms, below 1 or more: a new tuple -/
def sp_law_lowest : Sp := fun vs H Q _ => ∃ t b : Int, vs = [.int t, .int b] ∧ b ≠ 0 ∧ small t ∧ small b ∧ ∀ p, H p = none → Q (.ref p) (upd H p (.tup [.int (fold (chain t b)).1, .int (fold (chain t b)).2]))
theorem ok_law_lowest {f : Addr} {fd : FuncData} (F : Fun K "_law_lowest" "_law_lowest" s_law_lowest f fd) (G_law_common : COk P w K mg base CX0 1 "_law_common" ["_law_one", "_law_other"] sp_law_common) : FnOk P w K mg base CX0 2 f fd ["_law_top", "_law_below_here"] sp_law_lowest := by
  refine F.ok sc_law_lowest (fun vs H Q E h => ?_) (fun cdv A outer s H vs Q E hr h => ?_)
  · obtain ⟨t, b, rfl, _⟩ := h
    rfl
  · obtain ⟨t, b, rfl, hb, st, sb, k⟩ := h
    refine ⟨_, (pss_cons (ps_set (i := 2) sc_law_lowest.nd rfl (Or.inl rfl) (pe_c G_law_common (hr.mono (by first | decide | omega)) (pa_cons (pv 0) (pa_cons (pv 1) pa_nil))))
    (C8.pss_cut (ps_if (pt_cmpR op_lt (pv 1) pe_int (nomark _))
      (pss_one (ps_set (i := 2) sc_law_lowest.nd rfl (Or.inl rfl) (pe_op op_sub pe_int (pv 2)))) pss_nil)
    (pss_one (ps_ret (pe_tup (pa_cons (pe_op op_fdivS (pv 0) (pv 2)) (pa_cons (pe_op op_fdivS (pv 1) (pv 2)) pa_nil))))))), ?_⟩
    obtain ⟨g, e1, e2, hg, hs, hgcd⟩ := fold_low (t := t) hb
    generalize fold (chain t b) = x at *
    have sg : small g := by
      have h2 : x.2 ≠ 0 := fun z => hb (by rw [e2, z, Int.mul_zero])
      have := congrArg Int.natAbs e2
      rw [Int.natAbs_mul] at this
      have h3 : g.natAbs * 1 ≤ g.natAbs * x.2.natAbs := Nat.mul_le_mul_left _ (by omega)
      exact Nat.lt_of_le_of_lt (show g.natAbs ≤ b.natAbs by omega) sb
    refine ⟨_, rfl, _, rfl, t, b, rfl, ?_⟩
    have fin : ∀ y : Int, g * y = g * y → (g * y).fdiv g = y := fun y _ => by
      have := Int.mul_fdiv_cancel_left y hg
      exact this
    have q1 : t.fdiv g = x.1 := by rw [e1]; exact fin _ rfl
    have q2 : b.fdiv g = x.2 := by rw [e2]; exact fin _ rfl
    refine ⟨fun σ H2 => σ = [some (.int t), some (.int b), some (.int g)] ∧ H2 = H, ?_, ?_⟩
    · refine ⟨_, rfl, _, _, rfl, rfl, _, rfl, ite2 (fun c => ?_) (fun c => ?_)⟩
      · have c' : b < 0 := of_decide_eq_true c
        refine ⟨_, rfl, _, _, rfl, rfl, ?_, rfl⟩
        have : (0 : Int) - (Int.gcd t b : Nat) = g := by
          have : ¬ 0 < g := fun z => by have := hs.mp z; omega
          omega
        show [some (V.int t), some (V.int b), some (V.int (0 - ((Int.gcd t b : Nat) : Int)))] = _
        rw [this]
      · have c' : ¬ b < 0 := fun z => c (decide_eq_true z)
        refine ⟨?_, rfl⟩
        have : ((Int.gcd t b : Nat) : Int) = g := by
          have : 0 < g := hs.mpr (by omega)
          omega
        show [some (V.int t), some (V.int b), some (V.int ((Int.gcd t b : Nat) : Int))] = _
        rw [this]
    · rintro σ H2 ⟨rfl, rfl⟩
      refine ⟨_, rfl, _, rfl, _, _, rfl, rfl, small_fdiv sg hg _, _, rfl, _, rfl, _, _, rfl, rfl, small_fdiv sg hg _, (by show 2 ≤ sizeLine; decide), fun p hp => ?_⟩
      show Q (.ref p) (upd H2 p (.tup [.int (t.fdiv g), .int (b.fdiv g)]))
      rw [q1, q2]
      exact k p hp
end
/-! ### methods and makers, in short -/
def MOk (P : Program) (w : World) (K : PySem.W.Frag) (mg : Str → Option Value) (base : Heap) (CX : CXT) (k : Nat) (C : Addr) (m : Str) (ps : List Str) (sp : Sp) : Prop :=
  Cls K C ∧ ∃ (f : Addr) (fd : FuncData), FnOk P w K mg base CX k f fd ps sp ∧ Meth K C m f ∧ Binds K fd ps []
def IOk (P : Program) (w : World) (K : PySem.W.Frag) (mg : Str → Option Value) (base : Heap) (k : Nat) (x : Str) (C : Addr) (ps : List Str) (sp : Sp) : Prop :=
  mg x = some (.ref C) ∧ ∃ (f : Addr) (fd : FuncData), FnOk P w K mg base CX0 k f fd ps sp ∧ Mk K C f ∧ Binds K fd ps []
theorem MOk.of {P : Program} {w : World} {K : PySem.W.Frag} {mg : Str → Option Value} {base : Heap} {CX : CXT} {k : Nat} {C : Addr} {m qual : Str} {ps : List Str} {sp : Sp} {st : Stmt}
    (c : Cls K C) (D : ∃ f fd, Fun K m qual st f fd ∧ Meth K C m f ∧ Binds K fd ps []) (h : ∀ f fd, Fun K m qual st f fd → FnOk P w K mg base CX k f fd ps sp) : MOk P w K mg base CX k C m ps sp := by
  obtain ⟨f, fd, F, M, B⟩ := D
  exact ⟨c, f, fd, h f fd F, M, B⟩
theorem IOk.of {P : Program} {w : World} {K : PySem.W.Frag} {mg : Str → Option Value} {base : Heap} {k : Nat} {x : Str} {C : Addr} {m qual : Str} {ps : List Str} {sp : Sp} {st : Stmt}
    (g : mg x = some (.ref C)) (D : ∃ f fd, Fun K m qual st f fd ∧ Mk K C f ∧ Binds K fd ps []) (h : ∀ f fd, Fun K m qual st f fd → FnOk P w K mg base CX0 k f fd ps sp) : IOk P w K mg base k x C ps sp := by
  obtain ⟨f, fd, F, M, B⟩ := D
  exact ⟨g, f, fd, h f fd F, M, B⟩
theorem COk.by {P : Program} {w : World} {K : PySem.W.Frag} {mg : Str → Option Value} {base : Heap} {CX : CXT} {k : Nat} {x : Str} {st : Stmt} {ps : List Str} {sp : Sp}
    (D : ∃ f fd, DefAt K mg x st ps f fd) (h : ∀ f fd, Fun K x x st f fd → FnOk P w K mg base CX k f fd ps sp) : COk P w K mg base CX k x ps sp := by
  obtain ⟨f, fd, F⟩ := D
  exact .of F (h f fd F.fn)
section
variable {X : Cx} {k : Nat} {x m : Str} {ps : List Str} {sp : Sp} {o e : Expr} {es : List Expr} {ta : TE} {t : TA} {p pos apos : Pos} {C : Addr}
theorem pe_m {pl : Sem Bool} (M : MOk X.prog X.w X.K X.mg X.base CX0 k C m ps sp) (hr : Room k X.A) (he : PE X o ta) (ha : PA X (e :: es) t)
    (hst : starEach (e :: es) X.env = (false, eval e X.env) :: starEach es X.env := by rfl) (hpl : (backTo pos (starEach es X.env)).any (·.1) = false := by rfl)
    (ht : eval (.Call (.Attribute o m apos) (e :: es) [] pos) X.env = (do
      let ov ← eval o X.env; standAt apos.atName
      let (f, first) ← holding [ov] (getMethod ov m pl)
      callWith pos f first (backTo pos (starEach (e :: es) X.env)) (backToKw pos (keywordEach [] X.env))) := by rfl) :
    PE X (.Call (.Attribute o m apos) (e :: es) [] pos) (tMeth C m sp [] E0 ta t) := by
  obtain ⟨c, f, fd, F, M, B⟩ := M
  exact pe_meth (pl := pl) he c M F hr B .nil pass0 ha hst hpl ht
theorem pe_m0 {pl : Sem Bool} (M : MOk X.prog X.w X.K X.mg X.base CX0 k C m ps sp) (hr : Room k X.A) (he : PE X o ta)
    (ht : eval (.Call (.Attribute o m apos) [] [] pos) X.env = (do
      let ov ← eval o X.env; standAt apos.atName
      let (f, first) ← holding [ov] (getMethod ov m pl)
      callWith pos f first (backTo pos (starEach [] X.env)) (backToKw pos (keywordEach [] X.env))) := by rfl) :
    PE X (.Call (.Attribute o m apos) [] [] pos) (tMeth C m sp [] E0 ta tNil) := by
  obtain ⟨c, f, fd, F, M, B⟩ := M
  exact pe_meth0 (pl := pl) he c M F hr B .nil pass0 ht
theorem pe_mk (I : IOk X.prog X.w X.K X.mg X.base k x C ps sp) (hr : Room (k + 1) X.A) (ha : PA X (e :: es) t) (hg : Gl X x := by rfl)
    (hdb : (x == ("__debug__" : Str)) = false := by decide) (he : starEach (e :: es) X.env = (false, eval e X.env) :: starEach es X.env := by rfl) (hpl : (backTo pos (starEach es X.env)).any (·.1) = false := by rfl) :
    PE X (.Call (.Name x p) (e :: es) [] pos) (tMake C sp [] E0 t) := by
  obtain ⟨g, f, fd, F, M, B⟩ := I
  exact pe_make M F hr hg g B .nil pass0 ha hdb he hpl
theorem pe_mk0 (I : IOk X.prog X.w X.K X.mg X.base k x C ps sp) (hr : Room (k + 1) X.A) (hg : Gl X x := by rfl) (hdb : (x == ("__debug__" : Str)) = false := by decide) :
    PE X (.Call (.Name x p) [] [] pos) (tMake C sp [] E0 tNil) := by
  obtain ⟨g, f, fd, F, M, B⟩ := I
  exact pe_make0 M F hr hg g B .nil pass0 hdb
/-- what a call lets out, the def lets out -/
theorem passes_tk {E : XK} (tk : Takes X (fun cls d _ H => E cls d H)) : Passes (L2.CX X.prog X.w) X E := fun pins σ H s e s' I c => passAt (W := fun cls d _ H => E cls d H) tk σ pins H s e s' I c
theorem pe_mX {E : XK} {pl : Sem Bool} (M : MOk X.prog X.w X.K X.mg X.base (L2.CX X.prog X.w) k C m ps sp) (hr : Room k X.A) (hx : Passes (L2.CX X.prog X.w) X E) (he : PE X o ta) (ha : PA X (e :: es) t)
    (hst : starEach (e :: es) X.env = (false, eval e X.env) :: starEach es X.env := by rfl) (hpl : (backTo pos (starEach es X.env)).any (·.1) = false := by rfl)
    (ht : eval (.Call (.Attribute o m apos) (e :: es) [] pos) X.env = (do
      let ov ← eval o X.env; standAt apos.atName
      let (f, first) ← holding [ov] (getMethod ov m pl)
      callWith pos f first (backTo pos (starEach (e :: es) X.env)) (backToKw pos (keywordEach [] X.env))) := by rfl) :
    PE X (.Call (.Attribute o m apos) (e :: es) [] pos) (tMeth C m sp [] E ta t) := by
  obtain ⟨c, f, fd, F, M, B⟩ := M
  exact pe_meth (pl := pl) he c M F hr B .nil hx ha hst hpl ht
theorem pe_mX0 {E : XK} {pl : Sem Bool} (M : MOk X.prog X.w X.K X.mg X.base (L2.CX X.prog X.w) k C m ps sp) (hr : Room k X.A) (hx : Passes (L2.CX X.prog X.w) X E) (he : PE X o ta)
    (ht : eval (.Call (.Attribute o m apos) [] [] pos) X.env = (do
      let ov ← eval o X.env; standAt apos.atName
      let (f, first) ← holding [ov] (getMethod ov m pl)
      callWith pos f first (backTo pos (starEach [] X.env)) (backToKw pos (keywordEach [] X.env))) := by rfl) :
    PE X (.Call (.Attribute o m apos) [] [] pos) (tMeth C m sp [] E ta tNil) := by
  obtain ⟨c, f, fd, F, M, B⟩ := M
  exact pe_meth0 (pl := pl) he c M F hr B .nil hx ht
/-- o.f as a target -/
def gFld (K : PySem.W.Frag) (to : TE) (f : Str) : TG := fun v σ H Q => to σ H fun x H1 => ∃ a C dx fs, x = .ref a ∧ H1 a = some (.ins C dx fs) ∧ Cls K C ∧ NoAttr K C f ∧ fs.length < 1000 ∧ Q σ (upd H1 a (.ins C dx (putF f v fs)))
open PySem.Spec PyProof.Rows in
theorem pg_fld {o : Expr} {to : TE} {f : Str} {pos : Pos} (ho : PE X o to)
    (ha : ∀ v, assign (.Attribute o f pos) X.env v = (do
      let ov ← holding [v] (eval o X.env); standAt pos.atName
      holding [v, ov] (setAttr ov f v); release [v, ov] []) := by intro _; rfl) : PG X (.Attribute o f pos) (gFld X.K to f) := by
  refine ⟨fun pins s σ H v u Q I r h => ?_⟩
  rw [ha]
  refine wpAny_bind (wpAny_holding (thn (ho.run pins s σ H _ I h) fun ov sA hA => ?_))
  obtain ⟨x, HA, IA, rA, a, C, dx, fs, rfl, ea, c, n, l, q⟩ := hA
  cases rA
  refine wpAny_bind (wpAny_standAt (wpAny_bind (wpAny_holding (setattr_ok IA ea c n l r fun sB IB => ?_))))
  exact wpAny_release ⟨σ, _, IB, q⟩
end
/-- an own class over ValueError -/
structure XC (K : PySem.W.Frag) (mg : Str → Option Value) (C : Addr) (n : Str) : Prop where
  g : mg n = some (.ref C)
  x : PySem.W.excIn K C [.type "ValueError", .type "Exception", .type "BaseException", .type "object"] "ValueError.__new__" = true
  k : PySem.W.keepIn K (.ref C) = true
  b : PySem.W.subIn K (.ref C) (.type "BaseException") = some true
  t : PySem.W.typeIn K (.ref C) = some (.type "type")
/-- where the classes and the tuples of the top stand -/
structure Ad where
  c_Meter : Addr
  c_FractionChain : Addr
  c_RootChain : Addr
  c_RuledChain : Addr
  c_Leaf : Addr
  c_FractionBox : Addr
  c_FourBox : Addr
  c_EightBox : Addr
  c_Reading : Addr
  k_END : Addr
  k_WAITS : Addr
  k_TIMES : Addr
  k_LENGTHS : Addr
  k_CHECKS : Addr
  c_NoValue : Addr
structure CT (K : PySem.W.Frag) (mg : Str → Option Value) (A : Ad) : Prop extends BT mg where
  seer : ∀ b : Heap, Mod K mg b → b.NoSeer
  cl_Meter : Cls K A.c_Meter
  n_Meter_left : NoAttr K A.c_Meter "left"
  n_Meter_spent : NoAttr K A.c_Meter "spent"
  g_Meter : mg "Meter" = some (.ref A.c_Meter)
  cl_FractionChain : Cls K A.c_FractionChain
  n_FractionChain_top : NoAttr K A.c_FractionChain "top"
  n_FractionChain_below : NoAttr K A.c_FractionChain "below"
  g_FractionChain : mg "FractionChain" = some (.ref A.c_FractionChain)
  cl_RootChain : Cls K A.c_RootChain
  n_RootChain_top : NoAttr K A.c_RootChain "top"
  n_RootChain_square : NoAttr K A.c_RootChain "square"
  n_RootChain_below : NoAttr K A.c_RootChain "below"
  n_RootChain_root : NoAttr K A.c_RootChain "root"
  g_RootChain : mg "RootChain" = some (.ref A.c_RootChain)
  cl_RuledChain : Cls K A.c_RuledChain
  n_RuledChain_parts : NoAttr K A.c_RuledChain "parts"
  n_RuledChain_ring : NoAttr K A.c_RuledChain "ring"
  n_RuledChain_steps : NoAttr K A.c_RuledChain "steps"
  n_RuledChain_at : NoAttr K A.c_RuledChain "at"
  g_RuledChain : mg "RuledChain" = some (.ref A.c_RuledChain)
  cl_Leaf : Cls K A.c_Leaf
  n_Leaf_chain : NoAttr K A.c_Leaf "chain"
  g_Leaf : mg "Leaf" = some (.ref A.c_Leaf)
  cl_FractionBox : Cls K A.c_FractionBox
  n_FractionBox_top : NoAttr K A.c_FractionBox "top"
  n_FractionBox_below : NoAttr K A.c_FractionBox "below"
  n_FractionBox_told : NoAttr K A.c_FractionBox "told"
  g_FractionBox : mg "FractionBox" = some (.ref A.c_FractionBox)
  cl_FourBox : Cls K A.c_FourBox
  n_FourBox_numbers : NoAttr K A.c_FourBox "numbers"
  n_FourBox_tree : NoAttr K A.c_FourBox "tree"
  n_FourBox_started : NoAttr K A.c_FourBox "started"
  n_FourBox_told : NoAttr K A.c_FourBox "told"
  n_FourBox_rest : NoAttr K A.c_FourBox "rest"
  g_FourBox : mg "FourBox" = some (.ref A.c_FourBox)
  cl_EightBox : Cls K A.c_EightBox
  n_EightBox_numbers : NoAttr K A.c_EightBox "numbers"
  n_EightBox_trees : NoAttr K A.c_EightBox "trees"
  n_EightBox_taken : NoAttr K A.c_EightBox "taken"
  n_EightBox_told : NoAttr K A.c_EightBox "told"
  n_EightBox_rest : NoAttr K A.c_EightBox "rest"
  g_EightBox : mg "EightBox" = some (.ref A.c_EightBox)
  cl_Reading : Cls K A.c_Reading
  n_Reading_box : NoAttr K A.c_Reading "box"
  n_Reading_meter : NoAttr K A.c_Reading "meter"
  g_Reading : mg "Reading" = some (.ref A.c_Reading)
  g_END : mg "END" = some (.ref A.k_END)
  t_END : ∀ H, SqT K H A.k_END [.str "end"]
  g_WAITS : mg "WAITS" = some (.ref A.k_WAITS)
  t_WAITS : ∀ H, SqT K H A.k_WAITS [.str "waits"]
  g_TIMES : mg "TIMES" = some (.ref A.k_TIMES)
  t_TIMES : ∀ H, SqT K H A.k_TIMES [.int 1, .int 0, .int 0, .int 0, .int 0, .int 0, .int 0, .int 1]
  i_MOST_NUMBER : ∃ t, mg "MOST_NUMBER" = some (.int 1000000000000 t)
  i_MOST_DEPTH : ∃ t, mg "MOST_DEPTH" = some (.int 5 t)
  i_MOST_PARTS : ∃ t, mg "MOST_PARTS" = some (.int 12 t)
  i_MOST_POWER : ∃ t, mg "MOST_POWER" = some (.int 4 t)
  g_LENGTHS : mg "LENGTHS" = some (.ref A.k_LENGTHS)
  g_CHECKS : mg "CHECKS" = some (.ref A.k_CHECKS)
  x_NoValue : XC K mg A.c_NoValue "NoValue"
structure DT (K : PySem.W.Frag) (mg : Str → Option Value) (A : Ad) : Prop where
  wall : ∃ f fd, DefAt K mg "_wall" s_wall ["k"] f fd
  root_below : ∃ f fd, DefAt K mg "root_below" s_root_below ["number"] f fd
  Meter_init : ∃ f fd, Fun K "__init__" "Meter.__init__" s_Meter_init f fd ∧ Mk K A.c_Meter f ∧ Binds K fd ["self"] []
  Meter_allow : ∃ f fd, Fun K "allow" "Meter.allow" s_Meter_allow f fd ∧ Meth K A.c_Meter "allow" f ∧ Binds K fd ["self", "most"] []
  Meter_pay : ∃ f fd, Fun K "pay" "Meter.pay" s_Meter_pay f fd ∧ Meth K A.c_Meter "pay" f ∧ Binds K fd ["self"] []
  FractionChain_init : ∃ f fd, Fun K "__init__" "FractionChain.__init__" s_FractionChain_init f fd ∧ Mk K A.c_FractionChain f ∧ Binds K fd ["self", "top", "below"] []
  FractionChain_has_ended : ∃ f fd, Fun K "has_ended" "FractionChain.has_ended" s_FractionChain_has_ended f fd ∧ Meth K A.c_FractionChain "has_ended" f ∧ Binds K fd ["self"] []
  FractionChain_next_part : ∃ f fd, Fun K "next_part" "FractionChain.next_part" s_FractionChain_next_part f fd ∧ Meth K A.c_FractionChain "next_part" f ∧ Binds K fd ["self"] []
  RootChain_init : ∃ f fd, Fun K "__init__" "RootChain.__init__" s_RootChain_init f fd ∧ Mk K A.c_RootChain f ∧ Binds K fd ["self", "top", "square", "below"] []
  RootChain_has_ended : ∃ f fd, Fun K "has_ended" "RootChain.has_ended" s_RootChain_has_ended f fd ∧ Meth K A.c_RootChain "has_ended" f ∧ Binds K fd ["self"] []
  RootChain_next_part : ∃ f fd, Fun K "next_part" "RootChain.next_part" s_RootChain_next_part f fd ∧ Meth K A.c_RootChain "next_part" f ∧ Binds K fd ["self"] []
  RootChain_what_is_left : ∃ f fd, Fun K "what_is_left" "RootChain.what_is_left" s_RootChain_what_is_left f fd ∧ Meth K A.c_RootChain "what_is_left" f ∧ Binds K fd ["self"] []
  RuledChain_init : ∃ f fd, Fun K "__init__" "RuledChain.__init__" s_RuledChain_init f fd ∧ Mk K A.c_RuledChain f ∧ Binds K fd ["self", "parts", "ring", "steps"] []
  RuledChain_has_ended : ∃ f fd, Fun K "has_ended" "RuledChain.has_ended" s_RuledChain_has_ended f fd ∧ Meth K A.c_RuledChain "has_ended" f ∧ Binds K fd ["self"] []
  RuledChain_next_part : ∃ f fd, Fun K "next_part" "RuledChain.next_part" s_RuledChain_next_part f fd ∧ Meth K A.c_RuledChain "next_part" f ∧ Binds K fd ["self"] []
  Leaf_init : ∃ f fd, Fun K "__init__" "Leaf.__init__" s_Leaf_init f fd ∧ Mk K A.c_Leaf f ∧ Binds K fd ["self", "chain"] []
  Leaf_ask : ∃ f fd, Fun K "ask" "Leaf.ask" s_Leaf_ask f fd ∧ Meth K A.c_Leaf "ask" f ∧ Binds K fd ["self", "meter"] []
  leaf_of : ∃ f fd, DefAt K mg "leaf_of" s_leaf_of ["tree"] f fd
  root_chain : ∃ f fd, DefAt K mg "root_chain" s_root_chain ["top", "square", "below"] f fd
  FractionBox_init : ∃ f fd, Fun K "__init__" "FractionBox.__init__" s_FractionBox_init f fd ∧ Mk K A.c_FractionBox f ∧ Binds K fd ["self", "top", "below", "told"] []
  FractionBox_ask : ∃ f fd, Fun K "ask" "FractionBox.ask" s_FractionBox_ask f fd ∧ Meth K A.c_FractionBox "ask" f ∧ Binds K fd ["self", "meter"] []
  FractionBox_nothing_left : ∃ f fd, Fun K "nothing_left" "FractionBox.nothing_left" s_FractionBox_nothing_left f fd ∧ Meth K A.c_FractionBox "nothing_left" f ∧ Binds K fd ["self"] []
  FourBox_init : ∃ f fd, Fun K "__init__" "FourBox.__init__" s_FourBox_init f fd ∧ Mk K A.c_FourBox f ∧ Binds K fd ["self", "numbers", "tree", "started", "told"] []
  FourBox_ask : ∃ f fd, Fun K "ask" "FourBox.ask" s_FourBox_ask f fd ∧ Meth K A.c_FourBox "ask" f ∧ Binds K fd ["self", "meter"] []
  FourBox_tell : ∃ f fd, Fun K "tell" "FourBox.tell" s_FourBox_tell f fd ∧ Meth K A.c_FourBox "tell" f ∧ Binds K fd ["self", "part"] []
  FourBox_take : ∃ f fd, Fun K "take" "FourBox.take" s_FourBox_take f fd ∧ Meth K A.c_FourBox "take" f ∧ Binds K fd ["self", "answer"] []
  EightBox_init : ∃ f fd, Fun K "__init__" "EightBox.__init__" s_EightBox_init f fd ∧ Mk K A.c_EightBox f ∧ Binds K fd ["self", "numbers", "one", "other"] []
  EightBox_ask : ∃ f fd, Fun K "ask" "EightBox.ask" s_EightBox_ask f fd ∧ Meth K A.c_EightBox "ask" f ∧ Binds K fd ["self", "meter"] []
  EightBox_tell : ∃ f fd, Fun K "tell" "EightBox.tell" s_EightBox_tell f fd ∧ Meth K A.c_EightBox "tell" f ∧ Binds K fd ["self", "part"] []
  EightBox_take : ∃ f fd, Fun K "take" "EightBox.take" s_EightBox_take f fd ∧ Meth K A.c_EightBox "take" f ∧ Binds K fd ["self", "which", "answer"] []
  EightBox_left_without : ∃ f fd, Fun K "left_without" "EightBox.left_without" s_EightBox_left_without f fd ∧ Meth K A.c_EightBox "left_without" f ∧ Binds K fd ["self", "which"] []
  box_of_one : ∃ f fd, DefAt K mg "box_of_one" s_box_of_one ["numbers", "tree", "told"] f fd
  with_first_part : ∃ f fd, DefAt K mg "with_first_part" s_with_first_part ["numbers", "part"] f fd
  with_second_part : ∃ f fd, DefAt K mg "with_second_part" s_with_second_part ["numbers", "part"] f fd
  turned_over : ∃ f fd, DefAt K mg "turned_over" s_turned_over ["numbers", "part"] f fd
  four_corners : ∃ f fd, DefAt K mg "four_corners" s_four_corners ["numbers"] f fd
  eight_corners : ∃ f fd, DefAt K mg "eight_corners" s_eight_corners ["numbers"] f fd
  sure_part : ∃ f fd, DefAt K mg "sure_part" s_sure_part ["corners"] f fd
  check_tree : ∃ f fd, DefAt K mg "check_tree" s_check_tree ["tree"] f fd
  check_at_depth : ∃ f fd, DefAt K mg "check_at_depth" s_check_at_depth ["tree", "depth"] f fd
  require : ∃ f fd, DefAt K mg "require" s_require ["holds", "why"] f fd
  check_row : ∃ f fd, DefAt K mg "check_row" s_check_row ["row", "fewest", "most"] f fd
  is_whole : ∃ f fd, DefAt K mg "is_whole" s_is_whole ["number"] f fd
  check_fraction : ∃ f fd, DefAt K mg "check_fraction" s_check_fraction ["tree", "depth"] f fd
  check_root : ∃ f fd, DefAt K mg "check_root" s_check_root ["tree", "depth"] f fd
  check_ruled : ∃ f fd, DefAt K mg "check_ruled" s_check_ruled ["tree", "depth"] f fd
  check_four : ∃ f fd, DefAt K mg "check_four" s_check_four ["tree", "depth"] f fd
  check_eight : ∃ f fd, DefAt K mg "check_eight" s_check_eight ["tree", "depth"] f fd
  check_line : ∃ f fd, DefAt K mg "check_line" s_check_line ["numbers"] f fd
  check_power : ∃ f fd, DefAt K mg "check_power" s_check_power ["tree", "depth"] f fd
  Reading_init : ∃ f fd, Fun K "__init__" "Reading.__init__" s_Reading_init f fd ∧ Mk K A.c_Reading f ∧ Binds K fd ["self", "box"] []
  Reading_part : ∃ f fd, Fun K "part" "Reading.part" s_Reading_part f fd ∧ Meth K A.c_Reading "part" f ∧ Binds K fd ["self", "most"] []
  Reading_took : ∃ f fd, Fun K "took" "Reading.took" s_Reading_took f fd ∧ Meth K A.c_Reading "took" f ∧ Binds K fd ["self"] []
  reader : ∃ f fd, DefAt K mg "reader" s_reader ["tree"] f fd
  box_of : ∃ f fd, DefAt K mg "box_of" s_box_of ["tree"] f fd
  power_box : ∃ f fd, DefAt K mg "power_box" s_power_box ["tree", "times"] f fd
  law_row : ∃ f fd, DefAt K mg "_law_row" s_law_row ["_law_script"] f fd
  law_taken : ∃ f fd, DefAt K mg "_law_taken" s_law_taken ["_law_row_here", "_law_many"] f fd
  law_whole : ∃ f fd, DefAt K mg "_law_whole" s_law_whole ["_law_found"] f fd
  law_signed : ∃ f fd, DefAt K mg "_law_signed" s_law_signed ["_law_row_here", "_law_most"] f fd
  law_root : ∃ f fd, DefAt K mg "_law_root" s_law_root ["_law_number"] f fd
  law_common : ∃ f fd, DefAt K mg "_law_common" s_law_common ["_law_one", "_law_other"] f fd
  law_lowest : ∃ f fd, DefAt K mg "_law_lowest" s_law_lowest ["_law_top", "_law_below_here"] f fd
  law_made : ∃ f fd, DefAt K mg "_law_made" s_law_made ["_law_a", "_law_b", "_law_c"] f fd
  law_sum : ∃ f fd, DefAt K mg "_law_sum" s_law_sum ["_law_one", "_law_other", "_law_by"] f fd
  law_product : ∃ f fd, DefAt K mg "_law_product" s_law_product ["_law_one", "_law_other", "_law_d"] f fd
  law_quotient : ∃ f fd, DefAt K mg "_law_quotient" s_law_quotient ["_law_one", "_law_other", "_law_d"] f fd
  law_below : ∃ f fd, DefAt K mg "_law_below" s_law_below ["_law_one", "_law_d"] f fd
  law_ruled : ∃ f fd, DefAt K mg "_law_ruled" s_law_ruled ["_law_row_here"] f fd
  law_corners : ∃ f fd, DefAt K mg "_law_corners" s_law_corners ["_law_numbers_here"] f fd
  law_sure : ∃ f fd, DefAt K mg "_law_sure" s_law_sure ["_law_corners_here"] f fd
  law_moved : ∃ f fd, DefAt K mg "_law_moved" s_law_moved ["_law_numbers_here", "_law_which", "_law_part"] f fd
  law_ended : ∃ f fd, DefAt K mg "_law_ended" s_law_ended ["_law_m", "_law_which"] f fd
  law_rest : ∃ f fd, DefAt K mg "_law_rest" s_law_rest ["_law_m"] f fd
  law_apart : ∃ f fd, DefAt K mg "_law_apart" s_law_apart ["_law_some"] f fd
  law_numbers : ∃ f fd, DefAt K mg "_law_numbers" s_law_numbers ["_law_row_here", "_law_many"] f fd
  law_any_leaf : ∃ f fd, DefAt K mg "_law_any_leaf" s_law_any_leaf ["_law_row_here"] f fd
  law_any : ∃ f fd, DefAt K mg "_law_any" s_law_any ["_law_row_here", "_law_deep"] f fd
  law_opened : ∃ f fd, DefAt K mg "_law_opened" s_law_opened ["_law_tree"] f fd
  law_took : ∃ f fd, DefAt K mg "_law_took" s_law_took ["_law_m"] f fd
  law_leaf_told : ∃ f fd, DefAt K mg "_law_leaf_told" s_law_leaf_told ["_law_m", "_law_purse"] f fd
  law_told : ∃ f fd, DefAt K mg "_law_told" s_law_told ["_law_m", "_law_purse"] f fd
  law : ∃ f fd, DefAt K mg "law" s_law ["_law_script"] f fd

/-! ### the leaves: what they are, in plain Lean -/
inductive Chain where
  | frac (t b : Int)
  | root (t s b r : Int)
  | ruled (ps ring steps : List Int) (i : Nat)
def Chain.ended : Chain → Bool
  | .frac _ b => decide (b = 0)
  | .root _ _ _ _ => false
  | .ruled ps ring _ i => decide (ring = []) && decide (ps.length ≤ i)
def ruledAt (ps ring steps : List Int) (i : Nat) : Int :=
  if i < ps.length then ps.getD i 0 else ring.getD ((i - ps.length) % ring.length) 0 + (((i - ps.length) / ring.length : Nat) : Int) * steps.getD ((i - ps.length) % ring.length) 0
def rootPart (t b r : Int) : Int := (t + r + (if b < 0 then 1 else 0)).fdiv b
def Chain.part : Chain → Int
  | .frac t b => t.fdiv b
  | .root t _ b r => rootPart t b r
  | .ruled ps ring steps i => ruledAt ps ring steps i
def Chain.next : Chain → Chain
  | .frac t b => .frac b (t.fmod b)
  | .root t s b r => .root (rootPart t b r * b - t) s ((s - (rootPart t b r * b - t) * (rootPart t b r * b - t)).fdiv b) r
  | .ruled ps ring steps i => .ruled ps ring steps (i + 1)
/-- numbers of a root's chain, bounded for good -/
structure RootOk (t s b r : Int) : Prop where
  rt : IsRoot s r
  ns : r * r ≠ s
  nz : b ≠ 0
  dv : ∃ q, s - t * t = q * b
  sw : s < 2 ^ 400
  bn : b < 0 → -b ≤ 2 ^ 150
  bp : 0 < b → b ≤ 2 * r + 1 + 2 ^ 150
  tw : t.natAbs < 2 ^ 300
def tame (z : Int) : Prop := -1000000000000 ≤ z ∧ z ≤ 1000000000000
structure RuledOk (ps ring steps : List Int) : Prop where
  p1 : ps ≠ []
  p12 : ps.length ≤ 12
  r12 : ring.length ≤ 12
  same : steps.length = ring.length
  tp : ∀ z ∈ ps, tame z
  tr : ∀ z ∈ ring, tame z
  ts : ∀ z ∈ steps, tame z
def Chain.Ok : Chain → Prop
  | .frac t b => small t ∧ small b
  | .root t s b r => RootOk t s b r
  | .ruled ps ring steps _ => RuledOk ps ring steps
/-! ### what stands in the heap -/
abbrev Flds := List (Str × V)
def chF (t b : Int) : Flds := [("top", .int t), ("below", .int b)]
def rtF (t s b r : Int) : Flds := [("top", .int t), ("square", .int s), ("below", .int b), ("root", .int r)]
def ruF (p q u : Addr) (i : Nat) : Flds := [("parts", .ref p), ("ring", .ref q), ("steps", .ref u), ("at", .int i)]
def meF (l s : Int) : Flds := [("left", .int l), ("spent", .int s)]
def leF (c : Addr) : Flds := [("chain", .ref c)]
def reF (b m : Addr) : Flds := [("box", .ref b), ("meter", .ref m)]
def Chain.At (A : Ad) (K : PySem.W.Frag) (H : Hp) (a : Addr) : Chain → Prop
  | .frac t b => ∃ dx, H a = some (.ins A.c_FractionChain dx (chF t b))
  | .root t s b r => ∃ dx, H a = some (.ins A.c_RootChain dx (rtF t s b r))
  | .ruled ps ring steps i => ∃ dx p q u, H a = some (.ins A.c_RuledChain dx (ruF p q u i)) ∧ SqT K H p (ps.map V.int) ∧ SqT K H q (ring.map V.int) ∧ SqT K H u (steps.map V.int)
def MeterAt (A : Ad) (H : Hp) (m : Addr) (l s : Int) : Prop := ∃ dx, H m = some (.ins A.c_Meter dx (meF l s))
/-- a tuple stays one where all that was tracked but some instances and lists stays -/
theorem sqT_but {K : PySem.W.Frag} {H H' : Hp} {a : Addr} {xs : List V} {N : Addr → Prop} (h : SqT K H a xs) (k : ∀ b o, H b = some o → ¬ N b → H' b = some o) (hN : ∀ b o, N b → H b = some o → (∀ ys, o ≠ .tup ys) ∧ ∀ ob u, o ≠ .frz ob u) : SqT K H' a xs := by
  rcases h with (h | ⟨o, h⟩) | h
  · exact .inl (.inl (k _ _ h fun z => (hN _ _ z h).1 _ rfl))
  · exact .inl (.inr ⟨o, k _ _ h fun z => (hN _ _ z h).2 _ _ rfl⟩)
  · exact .inr h
theorem sqT_same {K : PySem.W.Frag} {H H' : Hp} {a : Addr} {xs : List V} (h : SqT K H a xs) (k : Same H H') : SqT K H' a xs := by
  rcases h with (h | ⟨o, h⟩) | h
  · exact .inl (.inl (k _ _ h))
  · exact .inl (.inr ⟨o, k _ _ h⟩)
  · exact .inr h
theorem sqT_ins {K : PySem.W.Frag} {H : Hp} {a b C dx : Addr} {xs : List V} {fs : Flds} {o : HO} (h : SqT K H a xs) (hb : H b = some (.ins C dx fs)) : SqT K (upd H b o) a xs :=
  sqT_but (N := fun c => c = b) h (fun c u e n => by rw [upd_ne n]; exact e) fun c u e z => by
    subst e
    rw [hb] at z
    cases z
    exact ⟨fun _ q => (by cases q), fun _ _ q => (by cases q)⟩
/-- a maker that lays its arguments down -/
def sp_ini (C : Addr) (n : Nat) (mk : List V → Flds) : Sp := fun vs H Q _ => ∃ (p dx : Addr) (us : List V), vs = .ref p :: us ∧ us.length = n ∧ H p = some (.ins C dx []) ∧ Q .non (upd H p (.ins C dx (mk us)))
section
variable {P : Program} {w : World} {K : PySem.W.Frag} {mg : Str → Option Value} {base : Heap} {A : Ad}
theorem ok_FractionChain_init (T : CT K mg A) (D : DT K mg A) : IOk P w K mg base 1 "FractionChain" A.c_FractionChain ["self", "top", "below"] (sp_ini A.c_FractionChain 2 fun us => [("top", us.getD 0 .non), ("below", us.getD 1 .non)]) := by
  refine IOk.of T.g_FractionChain D.FractionChain_init fun f fd F => ?_
  refine F.ok sc_FractionChain_init (fun vs H Q E h => ?_) (fun cdv Ar outer s H vs Q E hr h => ?_)
  · obtain ⟨p, dx, us, rfl, hl, _⟩ := h
    show us.length + 1 = 3
    omega
  · obtain ⟨p, dx, us, rfl, hl, hp, k⟩ := h
    match us, hl with
    | [u0, u1], _ =>
      refine ⟨_, (pss_cons (ps_fld (pv 0) (pv 1) rfl)
    (pss_one (ps_fld (pv 0) (pv 2) rfl))), ?_⟩
      refine ⟨_, rfl, _, rfl, p, _, dx, [], rfl, hp, T.cl_FractionChain, T.n_FractionChain_top, (by show 0 < 1000; decide), ?_⟩
      refine ⟨_, rfl, _, rfl, p, _, dx, _, rfl, upd_same, T.cl_FractionChain, T.n_FractionChain_below, (by show 1 < 1000; decide), ?_⟩
      refine cast (congrArg (Q V.non) ?_) k
      rw [upd_upd]
      rfl
theorem ok_FractionChain_has_ended (T : CT K mg A) (D : DT K mg A) : MOk P w K mg base CX0 1 A.c_FractionChain "has_ended" ["self"] (fun vs H Q _ => ∃ a t b, vs = [.ref a] ∧ Chain.At A K H a (.frac t b) ∧ Q (.bl (decide (b = 0))) H) := by
  refine MOk.of T.cl_FractionChain D.FractionChain_has_ended fun f fd F => ?_
  refine F.ok sc_FractionChain_has_ended (fun vs H Q E h => ?_) (fun cdv Ar outer s H vs Q E hr h => ?_)
  · obtain ⟨a, t, b, rfl, _⟩ := h
    rfl
  · obtain ⟨a, t, b, rfl, ⟨dx, ha⟩, k⟩ := h
    refine ⟨_, (pss_one (ps_ret (pe_cmpR op_eq (pe_fld (pv 0) rfl) pe_int (nomark _)))), ?_⟩
    refine ⟨_, rfl, a, _, dx, _, _, rfl, ha, T.cl_FractionChain, T.n_FractionChain_below, rfl, rfl, ?_⟩
    show Q (.bl (decide (V.int b = V.int 0))) H
    rw [dec_int]
    exact cast (congrArg (fun z => Q (V.bl z) H) (by rw [Bool.beq_eq_decide_eq])) k
theorem ok_FractionChain_next_part (T : CT K mg A) (D : DT K mg A) : MOk P w K mg base CX0 1 A.c_FractionChain "next_part" ["self"] (fun vs H Q _ => ∃ a t b, vs = [.ref a] ∧ Chain.At A K H a (.frac t b) ∧ b ≠ 0 ∧ small t ∧ small b ∧
    ∀ H', Chain.At A K H' a (.frac b (t.fmod b)) → (∀ c o, H c = some o → c ≠ a → H' c = some o) → Q (.int (t.fdiv b)) H') := by
  refine MOk.of T.cl_FractionChain D.FractionChain_next_part fun f fd F => ?_
  refine F.ok sc_FractionChain_next_part (fun vs H Q E h => ?_) (fun cdv Ar outer s H vs Q E hr h => ?_)
  · obtain ⟨a, t, b, rfl, _⟩ := h
    rfl
  · obtain ⟨a, t, b, rfl, ⟨dx, ha⟩, hb, st, sb, k⟩ := h
    refine ⟨_, (pss_cons (ps_set (i := 1) sc_FractionChain_next_part.nd rfl (Or.inl rfl) (pe_op op_fdivS (pe_fld (pv 0) rfl) (pe_fld (pv 0) rfl)))
    (pss_cons (ps_asg (pe_tup (pa_cons (pe_fld (pv 0) rfl) (pa_cons (pe_op op_sub (pe_fld (pv 0) rfl) (pe_op op_mulW (pv 1) (pe_fld (pv 0) rfl))) pa_nil))) (pg_tup rfl (pgs_cons (pg_fld (pv 0)) (pgs_cons (pg_fld (pv 0)) pgs_nil))))
    (pss_one (ps_ret (pv 1))))), ?_⟩
    have cl := T.cl_FractionChain
    refine ⟨_, rfl, a, _, dx, _, _, rfl, ha, cl, T.n_FractionChain_top, rfl, _, rfl, a, _, dx, _, _, rfl, ha, cl, T.n_FractionChain_below, rfl, _, _, rfl, rfl, small_fdiv sb hb _, ?_⟩
    refine ⟨_, rfl, a, _, dx, _, _, rfl, ha, cl, T.n_FractionChain_below, rfl, _, rfl, a, _, dx, _, _, rfl, ha, cl, T.n_FractionChain_top, rfl, _, rfl, _, rfl, a, _, dx, _, _, rfl, ha, cl, T.n_FractionChain_below, rfl, _, _, rfl, rfl, small_mul (small_fd st hb) sb, _, _, rfl, rfl, ?_⟩
    refine ⟨(by show 2 ≤ sizeLine; decide), fun q nq => ?_⟩
    have s1 := same_upd (o := .tup [V.int b, .int (t - t.fdiv b * b)]) nq
    refine ⟨q, _, rfl, SqT.of upd_same, rfl, _, _, rfl, _, rfl, a, _, dx, _, rfl, s1 _ _ ha, cl, T.n_FractionChain_top, (by show 2 < 1000; decide), ?_⟩
    refine ⟨_, _, rfl, _, rfl, a, _, dx, _, rfl, upd_same, cl, T.n_FractionChain_below, (by show 2 < 1000; decide), rfl, ?_⟩
    refine ⟨_, rfl, k _ ⟨dx, ?_⟩ fun c o e hc => ?_⟩
    · rw [upd_same, ← fmod_eq t b]
      rfl
    · rw [upd_ne hc, upd_ne hc]
      exact s1 _ _ e
end
/-! ### a root's chain stays within its bounds -/
theorem IsRoot.abs {s t : Int} (h : t * t = s) : IsRoot s t.natAbs := by
  have e : (t.natAbs : Int) * t.natAbs = s := by rw [← h]; exact Int.natAbs_mul_self
  refine ⟨by omega, by omega, ?_⟩
  have e2 : ((t.natAbs : Int) + 1) * ((t.natAbs : Int) + 1) = t.natAbs * t.natAbs + 2 * t.natAbs + 1 := by grind
  omega
theorem lt_of_sq {r n : Int} {k : Nat} (h0 : 0 ≤ r) (h : r * r ≤ n) (hn : n < 2 ^ (k + k)) : r < 2 ^ k := by
  rcases Int.lt_or_le r (2 ^ k) with z | z
  · exact z
  · exfalso
    have h1 := Int.mul_le_mul z z (Int.le_of_lt (Int.pow_pos (by decide))) h0
    rw [← Int.pow_add] at h1
    omega
/-- x b < y b, b above nought -/
theorem lt_of_mul {x y b : Int} (hb : 0 < b) (h : x * b < y * b) : x < y := by
  rcases Int.lt_or_le x y with z | z
  · exact z
  · have := Int.mul_le_mul_of_nonneg_right z (Int.le_of_lt hb)
    omega
theorem le_of_mul {x y b : Int} (hb : 0 < b) (h : x * b ≤ y * b) : x ≤ y := by
  rcases Int.lt_or_le y x with z | z
  · have := Int.mul_le_mul_of_nonneg_right (show y + 1 ≤ x from z) (Int.le_of_lt hb)
    have e : (y + 1) * b = y * b + b := by grind
    omega
  · exact z
theorem root_step {t s b r a : Int} (h : RootOk t s b r) (ha : a = rootPart t b r) :
    (0 < b → a * b - t ≤ r ∧ r + 1 ≤ a * b - t + b) ∧ (b < 0 → r + 1 ≤ a * b - t ∧ a * b - t ≤ r - b) := by
  subst ha
  refine ⟨fun hb => ?_, fun hb => ?_⟩
  · have e := fdm (t + r + 0) b
    have := fmod_pos (a := t + r + 0) hb
    unfold rootPart
    rw [if_neg (by omega), Int.mul_comm]
    omega
  · have e := fdm (t + r + 1) b
    have := fmod_neg (a := t + r + 1) hb
    unfold rootPart
    rw [if_pos hb, Int.mul_comm]
    omega
theorem root_next {t s b r : Int} (h : RootOk t s b r) : RootOk (rootPart t b r * b - t) s ((s - (rootPart t b r * b - t) * (rootPart t b r * b - t)).fdiv b) r := by
  obtain ⟨sp, sn⟩ := root_step h rfl
  obtain ⟨rt, ns, nz, ⟨q, hq⟩, sw, bn, bp, tw⟩ := h
  generalize rootPart t b r = a at *
  obtain ⟨r0, r1, r2⟩ := rt
  have hr : r < 2 ^ 200 := lt_of_sq r0 r1 sw
  have p150 : (2 : Int) ^ 150 = 1427247692705959881058285969449495136382746624 := by decide
  have p200 : (2 : Int) ^ 200 = 1606938044258990275541962092341162602522202993782792835301376 := by decide
  have p300 : (2 : Nat) ^ 300 = 2037035976334486086268445688409378161051468393665936250636140449354381299763336706183397376 := by decide
  have hd : s - (a * b - t) * (a * b - t) = (q - a * (a * b - 2 * t)) * b := by
    have e : s - (a * b - t) * (a * b - t) = (s - t * t) - (a * (a * b - 2 * t)) * b := by grind
    rw [e, hq]
    grind
  have e2 : (s - (a * b - t) * (a * b - t)).fdiv b = q - a * (a * b - 2 * t) := by
    rw [hd]
    exact Int.mul_fdiv_cancel _ nz
  rw [e2]
  generalize q - a * (a * b - 2 * t) = c at *
  generalize a * b - t = u at *
  have ex : (r + 1) * (r + 1) = r * r + 2 * r + 1 := by grind
  have c0 : c ≠ 0 := fun z => by
    rw [z, Int.zero_mul] at hd
    have e : u * u = s := by omega
    have hu := (IsRoot.abs e).unique ⟨r0, r1, r2⟩
    have : (u.natAbs : Int) * u.natAbs = u * u := Int.natAbs_mul_self
    rw [hu] at this
    omega
  refine ⟨⟨r0, r1, r2⟩, ns, c0, ⟨b, by rw [hd, Int.mul_comm]⟩, sw, ?_, ?_, ?_⟩
  · intro hc
    rcases Int.lt_or_gt_of_ne nz with hb | hb
    · exfalso
      obtain ⟨u1, u2⟩ := sn hb
      have k1 := Int.mul_nonneg_of_nonpos_of_nonpos (Int.le_of_lt hc) (Int.le_of_lt hb)
      have k2 := Int.mul_le_mul u1 u1 (by omega) (by omega)
      omega
    · obtain ⟨u1, u2⟩ := sp hb
      have hu : u ≤ -r - 1 := by
        rcases Int.lt_or_le u (-r) with z | z
        · omega
        · exfalso
          have k1 : u * u ≤ r * r := by
            have := Int.mul_nonneg (show 0 ≤ r - u by omega) (show 0 ≤ r + u by omega)
            have e : (r - u) * (r + u) = r * r - u * u := by grind
            omega
          have k2 := Int.mul_nonneg (show 0 ≤ -c - 1 by omega) (Int.le_of_lt hb)
          have e3 : (-c - 1) * b = -(c * b) - b := by grind
          omega
      have k3 : (-c) * b ≤ (-u - r) * b := by
        have k4 := Int.mul_le_mul_of_nonneg_left (show -u + r ≤ b by omega) (show 0 ≤ -u - r by omega)
        have e4 : (-u - r) * (-u + r) = u * u - r * r := by grind
        have e5 : -c * b = -(c * b) := by grind
        omega
      have k5 := le_of_mul hb k3
      have := bp hb
      omega
  · intro hc
    rcases Int.lt_or_gt_of_ne nz with hb | hb
    · obtain ⟨u1, u2⟩ := sn hb
      have k3 : c * (-b) ≤ (u + r) * (-b) := by
        have k4 := Int.mul_le_mul_of_nonneg_left (show u - r ≤ -b by omega) (show 0 ≤ u + r by omega)
        have e4 : (u + r) * (u - r) = u * u - r * r := by grind
        have e5 : c * -b = -(c * b) := by grind
        omega
      have k5 := le_of_mul (show 0 < -b by omega) k3
      have := bn hb
      omega
    · obtain ⟨u1, u2⟩ := sp hb
      have hu : -r ≤ u := by
        rcases Int.lt_or_le u (-r) with z | z
        · exfalso
          have k1 := Int.mul_le_mul (show r + 1 ≤ -u by omega) (show r + 1 ≤ -u by omega) (by omega) (by omega)
          have e : -u * -u = u * u := by grind
          have k2 := Int.mul_nonneg (Int.le_of_lt hc) (Int.le_of_lt hb)
          omega
        · exact z
      have k3 : c * b < (r + 1 + u) * b := by
        have k4 := Int.mul_le_mul_of_nonneg_left (show r + 1 - u ≤ b by omega) (show 0 ≤ r + 1 + u by omega)
        have e4 : (r + 1 + u) * (r + 1 - u) = (r + 1) * (r + 1) - u * u := by grind
        omega
      have k5 := lt_of_mul hb k3
      omega
  · rcases Int.lt_or_gt_of_ne nz with hb | hb
    · obtain ⟨u1, u2⟩ := sn hb
      have := bn hb
      omega
    · obtain ⟨u1, u2⟩ := sp hb
      have := bp hb
      omega
theorem dvd_of_sq {w r s : Int} (hw : w ≠ 0) (h : r * r = s * (w * w)) : ∃ k, r = k * w := by
  have h1 : w ^ 2 ∣ r ^ 2 := ⟨s, by
    have e1 : r ^ 2 = r * r := by grind
    have e2 : w ^ 2 = w * w := by grind
    rw [e1, e2, h, Int.mul_comm]⟩
  have h2 : w ∣ r := (Int.pow_dvd_pow_iff (by decide)).mp h1
  obtain ⟨k, hk⟩ := h2
  exact ⟨k, by rw [hk, Int.mul_comm]⟩
/-- a root's first numbers, widened -/
theorem root_first {t s b r q : Int} (ht : tame t) (hs0 : 0 ≤ s) (hs : s ≤ 1000000000000) (hb : tame b) (h0 : b ≠ 0) (hr : IsRoot s r) (hn : r * r ≠ s) (hq : IsRoot (s * (b.natAbs : Int) * (b.natAbs : Int)) q) :
    RootOk (t * (b.natAbs : Int)) (s * (b.natAbs : Int) * (b.natAbs : Int)) (b * (b.natAbs : Int)) q := by
  obtain ⟨t1, t2⟩ := ht
  obtain ⟨b1, b2⟩ := hb
  have w0 : (0 : Int) < b.natAbs := by omega
  have w1 : (b.natAbs : Int) ≤ 1000000000000 := by omega
  have hbw : b = b.natAbs ∨ b = -(b.natAbs : Int) := by omega
  generalize (b.natAbs : Int) = w at *
  have ww : w * w ≤ 1000000000000 * 1000000000000 := Int.mul_le_mul w1 w1 (by omega) (by decide)
  have ww0 : 0 < w * w := Int.mul_pos w0 w0
  have sww : s * w * w ≤ 1000000000000 * (1000000000000 * 1000000000000) := by
    rw [Int.mul_assoc]
    exact Int.mul_le_mul hs ww (by omega) (by decide)
  have p150 : (2 : Int) ^ 150 = 1427247692705959881058285969449495136382746624 := by decide
  refine ⟨hq, fun z => ?_, ?_, ?_, Int.lt_of_le_of_lt sww (by decide +kernel), ?_, ?_, ?_⟩
  · obtain ⟨k, hk⟩ := dvd_of_sq (w := w) (r := q) (s := s) (by omega) (by rw [z, Int.mul_assoc])
    have e : k * k = s := by
      have e1 : (k * k - s) * (w * w) = 0 := by
        have : q * q = s * w * w := z
        rw [hk] at this
        grind
      rcases Int.mul_eq_zero.mp e1 with y | y <;> omega
    have hk2 := (IsRoot.abs e).unique hr
    have : (k.natAbs : Int) * k.natAbs = k * k := Int.natAbs_mul_self
    rw [hk2] at this
    omega
  · rcases hbw with e | e <;> rw [e]
    · omega
    · intro z
      have : -w * w = -(w * w) := by grind
      omega
  · rcases hbw with e | e <;> rw [e]
    · exact ⟨s - t * t, by grind⟩
    · exact ⟨-(s - t * t), by grind⟩
  · intro z
    have : -(b * w) ≤ w * w := by
      rcases hbw with e | e <;> rw [e]
      · omega
      · have : -w * w = -(w * w) := by grind
        omega
    omega
  · intro z
    have : b * w ≤ w * w := by
      rcases hbw with e | e <;> rw [e]
      · exact Int.le_refl _
      · have : -w * w = -(w * w) := by grind
        omega
    have := hq.1
    omega
  · rw [Int.natAbs_mul]
    have : t.natAbs * w.natAbs ≤ 1000000000000 * 1000000000000 := Nat.mul_le_mul (by omega) (by omega)
    exact Nat.lt_of_le_of_lt this (by decide +kernel)
section
variable {P : Program} {w : World} {K : PySem.W.Frag} {mg : Str → Option Value} {base : Heap} {A : Ad}
theorem root_small {t s b r : Int} (h : RootOk t s b r) : small t ∧ small b ∧ small r ∧ small s ∧ small (t + r + (if b < 0 then 1 else 0)) ∧ small (rootPart t b r) ∧ small (rootPart t b r * b - t) := by
  have n := root_next h
  obtain ⟨⟨r0, r1, r2⟩, ns, nz, dv, sw, bn, bp, tw⟩ := h
  have hr : r < 2 ^ 200 := lt_of_sq r0 r1 sw
  have p150 : (2 : Int) ^ 150 = 1427247692705959881058285969449495136382746624 := by decide
  have p200 : (2 : Int) ^ 200 = 1606938044258990275541962092341162602522202993782792835301376 := by decide
  have p300 : (2 : Nat) ^ 300 = 2037035976334486086268445688409378161051468393665936250636140449354381299763336706183397376 := by decide
  have up : ∀ z : Int, z.natAbs < 2 ^ 302 → small z := fun z hz => Nat.lt_trans hz (Nat.pow_lt_pow_right (by decide) (by decide))
  have p302 : (2 : Nat) ^ 302 = 4 * 2 ^ 300 := by decide
  have st : (t + r + (if b < 0 then 1 else 0)).natAbs < 2 ^ 302 := by split <;> omega
  have hs0 : 0 ≤ s := Int.le_trans (sq_nonneg r) r1
  refine ⟨up _ (by omega), up _ ?_, up _ (by omega), ?_, up _ st, ?_, up _ (by have := n.tw; omega)⟩
  · rcases Int.lt_or_gt_of_ne nz with z | z
    · have := bn z; omega
    · have := bp z; omega
  · exact Nat.lt_trans (natAbs_lt_pow hs0 sw) (Nat.pow_lt_pow_right (by decide) (by decide))
  · exact Nat.lt_of_le_of_lt (fdiv_abs nz) (up _ st)
def sp_RootChain_init (A : Ad) : Sp := fun vs H Q _ => ∃ (p dx : Addr) (t s b : Int), vs = [.ref p, .int t, .int s, .int b] ∧ H p = some (.ins A.c_RootChain dx []) ∧ tame t ∧ 0 ≤ s ∧ s ≤ 1000000000000 ∧ tame b ∧ b ≠ 0 ∧ (∀ r, IsRoot s r → r * r ≠ s) ∧
  ∀ q, RootOk (t * (b.natAbs : Int)) (s * (b.natAbs : Int) * (b.natAbs : Int)) (b * (b.natAbs : Int)) q → Q .non (upd H p (.ins A.c_RootChain dx (rtF (t * (b.natAbs : Int)) (s * (b.natAbs : Int) * (b.natAbs : Int)) (b * (b.natAbs : Int)) q)))
theorem small_tame {z : Int} (h : tame z) : small z := by
  obtain ⟨h1, h2⟩ := h
  have p40 : (2 : Nat) ^ 40 = 1099511627776 := by decide
  exact Nat.lt_trans (show z.natAbs < 2 ^ 40 by omega) (Nat.pow_lt_pow_right (by decide) (by decide))
theorem ok_RootChain_init (T : CT K mg A) (D : DT K mg A) (G_root_below : COk P w K mg base CX0 1 "root_below" ["number"] sp_root_below) (hroot : ∀ s : Int, 0 ≤ s → ∃ r, IsRoot s r) : IOk P w K mg base 2 "RootChain" A.c_RootChain ["self", "top", "square", "below"] (sp_RootChain_init A) := by
  refine IOk.of T.g_RootChain D.RootChain_init fun f fd F => ?_
  refine F.ok sc_RootChain_init (fun vs H Q E h => ?_) (fun cdv Ar outer s H vs Q E hr h => ?_)
  · obtain ⟨p, dx, t, s, b, rfl, _⟩ := h
    rfl
  · obtain ⟨p, dx, t, sq, b, rfl, hp, ht, hs0, hs1, hb, hb0, hns, k⟩ := h
    refine ⟨_, (pss_cons (ps_set (i := 4) sc_RootChain_init.nd rfl (Or.inl rfl) (pe_callB call_abs (by rfl) T.b_abs (by decide +kernel) (pa_cons (pv 3) pa_nil)))
    (pss_cons (ps_fld (pv 0) (pe_op op_mul (pv 1) (pv 4)) rfl)
    (pss_cons (ps_fld (pv 0) (pe_op op_mul (pe_op op_mul (pv 2) (pv 4)) (pv 4)) rfl)
    (pss_cons (ps_fld (pv 0) (pe_op op_mul (pv 3) (pv 4)) rfl)
    (pss_one (ps_fld (pv 0) (pe_c G_root_below (hr.mono (by first | decide | omega)) (pa_cons (pe_fld (pv 0) rfl) pa_nil)) rfl)))))), ?_⟩
    have cl := T.cl_RootChain
    have ew : (if b < 0 then -b else b) = (b.natAbs : Int) := by split <;> omega
    obtain ⟨b1, b2⟩ := id hb
    obtain ⟨t1, t2⟩ := id ht
    have w64 : -(2 ^ 64) < ((b.natAbs : Int)) ∧ ((b.natAbs : Int)) < 2 ^ 64 := by
      have : (2 : Int) ^ 64 = 18446744073709551616 := by decide
      omega
    refine ⟨_, rfl, b, rfl, ?_⟩
    show tSeq _ _ _ [some (V.ref p), some (V.int t), some (V.int sq), some (V.int b), some (V.int (if b < 0 then -b else b))] H
    rw [ew]
    refine ⟨_, rfl, _, rfl, _, _, rfl, rfl, .inr w64, _, rfl, p, _, dx, [], rfl, hp, cl, T.n_RootChain_top, (by show 0 < 1000; decide), ?_⟩
    refine ⟨_, rfl, _, rfl, _, _, rfl, rfl, .inr w64, _, rfl, _, _, rfl, rfl, .inr w64, _, rfl, p, _, dx, _, rfl, upd_same, cl, T.n_RootChain_square, (by show 1 < 1000; decide), ?_⟩
    refine ⟨_, rfl, _, rfl, _, _, rfl, rfl, .inr w64, _, rfl, p, _, dx, _, rfl, upd_same, cl, T.n_RootChain_below, (by show 2 < 1000; decide), ?_⟩
    have w1 : (b.natAbs : Int) ≤ 1000000000000 := by omega
    have ww : (b.natAbs : Int) * b.natAbs ≤ 1000000000000 * 1000000000000 := Int.mul_le_mul w1 w1 (by omega) (by decide)
    have ww0 : 0 ≤ (b.natAbs : Int) * b.natAbs := Int.mul_nonneg (by omega) (by omega)
    have sww : sq * (b.natAbs : Int) * b.natAbs ≤ 1000000000000 * (1000000000000 * 1000000000000) := by
      rw [Int.mul_assoc]
      exact Int.mul_le_mul hs1 ww ww0 (by decide)
    have sw0 : 0 ≤ sq * (b.natAbs : Int) * b.natAbs := by rw [Int.mul_assoc]; exact Int.mul_nonneg hs0 ww0
    refine ⟨_, rfl, p, _, dx, _, _, rfl, upd_same, cl, T.n_RootChain_square, rfl, _, rfl, sw0, Int.lt_of_le_of_lt sww (by decide +kernel), fun q hq => ?_⟩
    refine ⟨_, rfl, p, _, dx, _, rfl, upd_same, cl, T.n_RootChain_root, (by show 3 < 1000; decide), ?_⟩
    obtain ⟨r, hr0⟩ := hroot sq hs0
    refine cast (congrArg (Q V.non) ?_) (k q (root_first ht hs0 hs1 hb hb0 hr0 (hns r hr0) hq))
    rw [upd_upd, upd_upd, upd_upd]
    rfl
theorem ok_RootChain_has_ended (T : CT K mg A) (D : DT K mg A) : MOk P w K mg base CX0 1 A.c_RootChain "has_ended" ["self"] (fun vs H Q _ => ∃ a, vs = [.ref a] ∧ Q (.bl false) H) := by
  refine MOk.of T.cl_RootChain D.RootChain_has_ended fun f fd F => ?_
  refine F.ok sc_RootChain_has_ended (fun vs H Q E h => ?_) (fun cdv Ar outer s H vs Q E hr h => ?_)
  · obtain ⟨a, rfl, _⟩ := h
    rfl
  · obtain ⟨a, rfl, k⟩ := h
    exact ⟨_, (pss_one (ps_ret pe_bl)), k⟩
theorem ok_RootChain_next_part (T : CT K mg A) (D : DT K mg A) : MOk P w K mg base CX0 1 A.c_RootChain "next_part" ["self"] (fun vs H Q _ => ∃ a t s b r, vs = [.ref a] ∧ Chain.At A K H a (.root t s b r) ∧ RootOk t s b r ∧
    ∀ H', Chain.At A K H' a (Chain.next (.root t s b r)) → (∀ c o, H c = some o → c ≠ a → H' c = some o) → Q (.int (rootPart t b r)) H') := by
  refine MOk.of T.cl_RootChain D.RootChain_next_part fun f fd F => ?_
  refine F.ok sc_RootChain_next_part (fun vs H Q E h => ?_) (fun cdv Ar outer s H vs Q E hr h => ?_)
  · obtain ⟨a, t, s, b, r, rfl, _⟩ := h
    rfl
  · obtain ⟨a, t, sq, b, r, rfl, ⟨dx, ha⟩, ok, k⟩ := h
    refine ⟨_, (pss_cons (ps_set (i := 1) sc_RootChain_next_part.nd rfl (Or.inl rfl) (pe_ifExp (pt_cmpR op_lt (pe_fld (pv 0) rfl) pe_int (nomark _)) pe_int pe_int))
    (pss_cons (ps_set (i := 2) sc_RootChain_next_part.nd rfl (Or.inl rfl) (pe_op op_fdivS (pe_op op_add (pe_op op_add (pe_fld (pv 0) rfl) (pe_fld (pv 0) rfl)) (pv 1)) (pe_fld (pv 0) rfl)))
    (pss_cons (ps_fld (pv 0) (pe_op op_sub (pe_op op_mulW (pv 2) (pe_fld (pv 0) rfl)) (pe_fld (pv 0) rfl)) rfl)
    (pss_cons (ps_fld (pv 0) (pe_op op_fdivS (pe_op op_sub (pe_fld (pv 0) rfl) (pe_op op_mulW (pe_fld (pv 0) rfl) (pe_fld (pv 0) rfl))) (pe_fld (pv 0) rfl)) rfl)
    (pss_one (ps_ret (pv 2))))))), ?_⟩
    have cl := T.cl_RootChain
    obtain ⟨st, sb, sr, ss, sx, sp, su⟩ := root_small ok
    have nz := ok.nz
    refine ⟨_, rfl, a, _, dx, _, _, rfl, ha, cl, T.n_RootChain_below, rfl, _, _, rfl, rfl, _, rfl, ?_⟩
    have up : ∀ {Z : Int → Prop}, Z (if b < 0 then 1 else 0) → (if decide (b < 0) = true then Z 1 else Z 0) := fun {Z} hz => by
      by_cases c : b < 0
      · rw [decide_eq_true c, if_pos rfl]; rw [if_pos c] at hz; exact hz
      · rw [decide_eq_false c, if_neg (by decide)]; rw [if_neg c] at hz; exact hz
    refine up (Z := fun e => tSeq _ _ _ [some (V.ref a), some (V.int e), none] H) ?_
    refine ⟨_, rfl, a, _, dx, _, _, rfl, ha, cl, T.n_RootChain_top, rfl, _, rfl, a, _, dx, _, _, rfl, ha, cl, T.n_RootChain_root, rfl, _, _, rfl, rfl, _, rfl, _, _, rfl, rfl, _, rfl, a, _, dx, _, _, rfl, ha, cl, T.n_RootChain_below, rfl, _, _, rfl, rfl, small_fdiv sb nz _, ?_⟩
    refine ⟨_, rfl, _, rfl, a, _, dx, _, _, rfl, ha, cl, T.n_RootChain_below, rfl, _, _, rfl, rfl, small_mul sp sb, _, rfl, a, _, dx, _, _, rfl, ha, cl, T.n_RootChain_top, rfl, _, _, rfl, rfl, _, rfl, a, _, dx, _, rfl, ha, cl, T.n_RootChain_top, (by show 4 < 1000; decide), ?_⟩
    refine ⟨_, rfl, a, _, dx, _, _, rfl, upd_same, cl, T.n_RootChain_square, rfl, _, rfl, a, _, dx, _, _, rfl, upd_same, cl, T.n_RootChain_top, rfl, _, rfl, a, _, dx, _, _, rfl, upd_same, cl, T.n_RootChain_top, rfl, _, _, rfl, rfl, small_mul su su, _, _, rfl, rfl, _, rfl, a, _, dx, _, _, rfl, upd_same, cl, T.n_RootChain_below, rfl, _, _, rfl, rfl, small_fdiv sb nz _, _, rfl, a, _, dx, _, rfl, upd_same, cl, T.n_RootChain_below, (by show 4 < 1000; decide), ?_⟩
    refine ⟨_, rfl, k _ ⟨dx, ?_⟩ fun c o e hc => ?_⟩
    · rw [upd_same]
      rfl
    · rw [upd_ne hc, upd_ne hc]
      exact e
/-! ruled chains -/
theorem ok_RuledChain_init (T : CT K mg A) (D : DT K mg A) : IOk P w K mg base 1 "RuledChain" A.c_RuledChain ["self", "parts", "ring", "steps"] (sp_ini A.c_RuledChain 3 fun us => [("parts", us.getD 0 .non), ("ring", us.getD 1 .non), ("steps", us.getD 2 .non), ("at", .int 0)]) := by
  refine IOk.of T.g_RuledChain D.RuledChain_init fun f fd F => ?_
  refine F.ok sc_RuledChain_init (fun vs H Q E h => ?_) (fun cdv Ar outer s H vs Q E hr h => ?_)
  · obtain ⟨p, dx, us, rfl, hl, _⟩ := h
    show us.length + 1 = 4
    omega
  · obtain ⟨p, dx, us, rfl, hl, hp, k⟩ := h
    match us, hl with
    | [u0, u1, u2], _ =>
      refine ⟨_, (pss_cons (ps_fld (pv 0) (pv 1) rfl)
    (pss_cons (ps_fld (pv 0) (pv 2) rfl)
    (pss_cons (ps_fld (pv 0) (pv 3) rfl)
    (pss_one (ps_fld (pv 0) pe_int rfl))))), ?_⟩
      have cl := T.cl_RuledChain
      refine ⟨_, rfl, _, rfl, p, _, dx, [], rfl, hp, cl, T.n_RuledChain_parts, (by show 0 < 1000; decide), ?_⟩
      refine ⟨_, rfl, _, rfl, p, _, dx, _, rfl, upd_same, cl, T.n_RuledChain_ring, (by show 1 < 1000; decide), ?_⟩
      refine ⟨_, rfl, _, rfl, p, _, dx, _, rfl, upd_same, cl, T.n_RuledChain_steps, (by show 2 < 1000; decide), ?_⟩
      refine ⟨_, rfl, p, _, dx, _, rfl, upd_same, cl, T.n_RuledChain_at, (by show 3 < 1000; decide), ?_⟩
      refine cast (congrArg (Q V.non) ?_) k
      rw [upd_upd, upd_upd, upd_upd]
      rfl
theorem len_eq_nil {l : List Int} : decide (V.int (((l.map V.int).length : Nat) : Int) = V.int 0) = decide (l = []) := by
  cases l with
  | nil => rfl
  | cons x r =>
    rw [decide_eq_false (show ¬ (x :: r) = [] from List.cons_ne_nil _ _)]
    refine decide_eq_false fun z => ?_
    have := V.int.inj z
    rw [List.length_map, List.length_cons] at this
    omega
theorem ok_RuledChain_has_ended (T : CT K mg A) (D : DT K mg A) : MOk P w K mg base CX0 1 A.c_RuledChain "has_ended" ["self"] (fun vs H Q _ => ∃ a ps ring steps i, vs = [.ref a] ∧ Chain.At A K H a (.ruled ps ring steps i) ∧ Q (.bl (decide (ring = []) && decide (ps.length ≤ i))) H) := by
  refine MOk.of T.cl_RuledChain D.RuledChain_has_ended fun f fd F => ?_
  refine F.ok sc_RuledChain_has_ended (fun vs H Q E h => ?_) (fun cdv Ar outer s H vs Q E hr h => ?_)
  · obtain ⟨a, ps, ring, steps, i, rfl, _⟩ := h
    rfl
  · obtain ⟨a, ps, ring, steps, i, rfl, ⟨dx, p, q, u, ha, hp, hq, hu⟩, k⟩ := h
    refine ⟨_, (pss_one (ps_ret (pe_and (pe_cmpR op_eq (pe_callB call_len_seq (by rfl) T.b_len (by decide +kernel) (pa_cons (pe_fld (pv 0) rfl) pa_nil)) pe_int (nomark _)) (pe_one (pe_cmpR op_ge (pe_fld (pv 0) rfl) (pe_callB call_len_seq (by rfl) T.b_len (by decide +kernel) (pa_cons (pe_fld (pv 0) rfl) pa_nil)) (nomark _)))))), ?_⟩
    have cl := T.cl_RuledChain
    refine ⟨_, rfl, a, _, dx, _, _, rfl, ha, cl, T.n_RuledChain_ring, rfl, q, _, rfl, .inr hq, rfl, _, rfl, ?_⟩
    rw [len_eq_nil]
    by_cases c : ring = []
    · rw [decide_eq_true c] at k ⊢
      refine iteT ⟨_, rfl, a, _, dx, _, _, rfl, ha, cl, T.n_RuledChain_at, rfl, _, rfl, a, _, dx, _, _, rfl, ha, cl, T.n_RuledChain_parts, rfl, p, _, rfl, .inr hp, _, _, rfl, rfl, ?_⟩
      have e : decide ((((ps.map V.int).length : Nat) : Int) ≤ (i : Int)) = decide (ps.length ≤ i) := by
        rw [List.length_map]
        exact decide_eq_decide.mpr (by omega)
      show Q (.bl (decide ((((ps.map V.int).length : Nat) : Int) ≤ (i : Int)))) H
      rw [e]
      exact k
    · rw [decide_eq_false c] at k ⊢
      exact iteF k
theorem map_at {l : List Int} {i : Nat} (h : i < l.length) : (l.map V.int)[i]? = some (.int (l.getD i 0)) := by
  rw [List.getElem?_map, List.getElem?_eq_getElem h, List.getD_eq_getElem?_getD, List.getElem?_eq_getElem h]
  rfl
theorem mem_getD {l : List Int} {i : Nat} (h : i < l.length) : l.getD i 0 ∈ l := by
  rw [List.getD_eq_getElem?_getD, List.getElem?_eq_getElem h]
  exact List.getElem_mem h
theorem ok_RuledChain_next_part (T : CT K mg A) (D : DT K mg A) : MOk P w K mg base CX0 1 A.c_RuledChain "next_part" ["self"] (fun vs H Q _ => ∃ a ps ring steps i, vs = [.ref a] ∧ Chain.At A K H a (.ruled ps ring steps i) ∧ RuledOk ps ring steps ∧ (ring = [] → i < ps.length) ∧
    ∀ H', Chain.At A K H' a (.ruled ps ring steps (i + 1)) → (∀ c o, H c = some o → c ≠ a → H' c = some o) → Q (.int (ruledAt ps ring steps i)) H') := by
  refine MOk.of T.cl_RuledChain D.RuledChain_next_part fun f fd F => ?_
  refine F.ok sc_RuledChain_next_part (fun vs H Q E h => ?_) (fun cdv Ar outer s H vs Q E hr h => ?_)
  · obtain ⟨a, ps, ring, steps, i, rfl, _⟩ := h
    rfl
  · obtain ⟨a, ps, ring, steps, i, rfl, ⟨dx, p, q, u, ha, hp, hq, hu⟩, ok, hne, k⟩ := h
    refine ⟨_, (pss_cons (ps_set (i := 1) sc_RuledChain_next_part.nd rfl (Or.inl rfl) (pe_fld (pv 0) rfl))
    (pss_cons (ps_fldaug (pv 0) pe_int in_add)
    (pss_cons (ps_if (pt_cmpR op_lt (pv 1) (pe_callB call_len_seq (by rfl) T.b_len (by decide +kernel) (pa_cons (pe_fld (pv 0) rfl) pa_nil)) (nomark _))
      (pss_one (ps_ret (pe_ix ix_tup (pe_fld (pv 0) rfl) (pv 1) (fun _ _ => rfl)))) pss_nil)
    (pss_cons (ps_asg (pe_callB call_divmod (by rfl) T.b_divmod (by decide +kernel) (pa_cons (pe_op op_sub (pv 1) (pe_callB call_len_seq (by rfl) T.b_len (by decide +kernel) (pa_cons (pe_fld (pv 0) rfl) pa_nil))) (pa_cons (pe_callB call_len_seq (by rfl) T.b_len (by decide +kernel) (pa_cons (pe_fld (pv 0) rfl) pa_nil)) pa_nil))) (pg_tup rfl (pgs_cons (pg_name (i := 2) sc_RuledChain_next_part.nd rfl (Or.inl rfl)) (pgs_cons (pg_name (i := 3) sc_RuledChain_next_part.nd rfl (Or.inl rfl)) pgs_nil))))
    (pss_one (ps_ret (pe_op op_add (pe_ix ix_tup (pe_fld (pv 0) rfl) (pv 3) (fun _ _ => rfl)) (pe_op op_mul (pv 2) (pe_ix ix_tup (pe_fld (pv 0) rfl) (pv 3) (fun _ _ => rfl)))))))))), ?_⟩
    have cl := T.cl_RuledChain
    refine ⟨_, rfl, a, _, dx, _, _, rfl, ha, cl, T.n_RuledChain_at, rfl, ?_⟩
    refine ⟨_, rfl, a, _, dx, _, _, rfl, ha, cl, T.n_RuledChain_at, rfl, _, _, rfl, rfl, dx, _, ha, (by show 4 < 1000; decide), ?_⟩
    have h1 : ∀ o, (upd H a o) a = some o := fun o => upd_same
    have hp1 := sqT_ins (o := .ins A.c_RuledChain dx (putF "at" (.int ((i : Int) + 1)) (ruF p q u i))) hp ha
    have hq1 := sqT_ins (o := .ins A.c_RuledChain dx (putF "at" (.int ((i : Int) + 1)) (ruF p q u i))) hq ha
    have hu1 := sqT_ins (o := .ins A.c_RuledChain dx (putF "at" (.int ((i : Int) + 1)) (ruF p q u i))) hu ha
    have kp : ∀ c o, H c = some o → c ≠ a → (upd H a (.ins A.c_RuledChain dx (putF "at" (.int ((i : Int) + 1)) (ruF p q u i)))) c = some o := fun c o e hc => by rw [upd_ne hc]; exact e
    have ha1 : (upd H a (.ins A.c_RuledChain dx (putF "at" (.int ((i : Int) + 1)) (ruF p q u i)))) a = some (.ins A.c_RuledChain dx (ruF p q u (i + 1))) := upd_same
    generalize upd H a (.ins A.c_RuledChain dx (putF "at" (.int ((i : Int) + 1)) (ruF p q u i))) = H1 at *
    have hlp : (ps.map V.int).length = ps.length := List.length_map _
    have hlr : (ring.map V.int).length = ring.length := List.length_map _
    refine ⟨_, rfl, _, rfl, a, _, dx, _, _, rfl, ha1, cl, T.n_RuledChain_parts, rfl, p, _, rfl, .inr hp1, _, _, rfl, rfl, _, rfl, ite2 (fun c => ?_) (fun c => ?_)⟩
    · have hi : i < ps.length := by
        have := of_decide_eq_true c
        rw [hlp] at this
        omega
      refine ⟨_, rfl, a, _, dx, _, _, rfl, ha1, cl, T.n_RuledChain_parts, rfl, _, rfl, p, _, _, _, rfl, rfl, hp1, atI_nat (map_at hi), ?_⟩
      have e : ruledAt ps ring steps i = ps.getD i 0 := by unfold ruledAt; rw [if_pos hi]
      rw [← e]
      exact k _ ⟨dx, p, q, u, ha1, hp1, hq1, hu1⟩ kp
    · have hi : ps.length ≤ i := by
        rcases Nat.lt_or_ge i ps.length with z | z
        · exact absurd (decide_eq_true (by rw [hlp]; omega)) c
        · exact z
      have hr0 : 0 < ring.length := by
        cases ring with
        | nil => have := hne rfl; omega
        | cons x r => rw [List.length_cons]; omega
      have hr12 := ok.r12
      have hs := ok.same
      refine ⟨_, rfl, _, rfl, a, _, dx, _, _, rfl, ha1, cl, T.n_RuledChain_parts, rfl, p, _, rfl, .inr hp1, _, _, rfl, rfl, _, rfl, a, _, dx, _, _, rfl, ha1, cl, T.n_RuledChain_ring, rfl, q, _, rfl, .inr hq1, _, _, rfl, ⟨by rw [hlr]; omega, by rw [hlr]; omega⟩, fun z nz => ?_⟩
      have e1 : ((i : Int) - (((ps.map V.int).length : Nat) : Int)) / (((ring.map V.int).length : Nat) : Int) = (((i - ps.length) / ring.length : Nat) : Int) := by
        rw [hlp, hlr, Int.natCast_ediv]
        congr 1
        omega
      have e2 : ((i : Int) - (((ps.map V.int).length : Nat) : Int)) % (((ring.map V.int).length : Nat) : Int) = (((i - ps.length) % ring.length : Nat) : Int) := by
        rw [hlp, hlr, Int.natCast_emod]
        congr 1
        omega
      rw [e1, e2]
      have sm := same_upd (o := .tup [V.int (((i - ps.length) / ring.length : Nat) : Int), .int (((i - ps.length) % ring.length : Nat) : Int)]) nz
      refine ⟨z, _, rfl, SqT.of upd_same, rfl, _, _, rfl, _, _, rfl, rfl, ?_⟩
      have hm : (i - ps.length) % ring.length < ring.length := Nat.mod_lt _ hr0
      have ts := ok.ts _ (mem_getD (show (i - ps.length) % ring.length < steps.length by omega))
      have w64 : -(2 ^ 64) < steps.getD ((i - ps.length) % ring.length) 0 ∧ steps.getD ((i - ps.length) % ring.length) 0 < 2 ^ 64 := by
        obtain ⟨t1, t2⟩ := ts
        have : (2 : Int) ^ 64 = 18446744073709551616 := by decide
        omega
      refine ⟨_, rfl, a, _, dx, _, _, rfl, sm _ _ ha1, cl, T.n_RuledChain_ring, rfl, _, rfl, q, _, _, _, rfl, rfl, (sqT_same hq1 sm), atI_nat (map_at hm), ?_⟩
      refine ⟨_, rfl, _, rfl, a, _, dx, _, _, rfl, sm _ _ ha1, cl, T.n_RuledChain_steps, rfl, _, rfl, u, _, _, _, rfl, rfl, (sqT_same hu1 sm), atI_nat (map_at (show (i - ps.length) % ring.length < steps.length by omega)), _, _, rfl, rfl, .inr w64, _, _, rfl, rfl, ?_⟩
      have e : ruledAt ps ring steps i = ring.getD ((i - ps.length) % ring.length) 0 + (((i - ps.length) / ring.length : Nat) : Int) * steps.getD ((i - ps.length) % ring.length) 0 := by unfold ruledAt; rw [if_neg (by omega)]
      show Q (.int (ring.getD ((i - ps.length) % ring.length) 0 + (((i - ps.length) / ring.length : Nat) : Int) * steps.getD ((i - ps.length) % ring.length) 0)) _
      rw [← e]
      exact k _ ⟨dx, p, q, u, sm _ _ ha1, (sqT_same hp1 sm), sqT_same hq1 sm, (sqT_same hu1 sm)⟩ fun c o z hc => sm _ _ (kp c o z hc)
end
/-! ### which tuples are trees: the checks let them by -/
/-- the tables of the top -/
structure TB (K : PySem.W.Frag) (w : World) (mg : Str → Option Value) (A : Ad) : Prop where
  dL : ∃ es n, KDict K w A.k_LENGTHS es n
  dC : ∃ es n, KDict K w A.k_CHECKS es n
  lens : ∀ x n, (x, n) ∈ ([("fraction", 3), ("root", 4), ("ruled", 4), ("four", 3), ("eight", 4), ("power", 3)] : List (Str × Int)) → ∃ t, PySem.W.nsIn K A.k_LENGTHS x = some (some (.int n t))
  chks : ∀ x y f, (x, y) ∈ ([("fraction", "check_fraction"), ("root", "check_root"), ("ruled", "check_ruled"), ("four", "check_four"), ("eight", "check_eight"), ("power", "check_power")] : List (Str × Str)) → mg y = some (.ref f) → PySem.W.nsIn K A.k_CHECKS x = some (some (.ref f))
section
variable {X : Cx} {k i : Nat} {x x' : Str} {ps : List Str} {sp : Sp} {e : Expr} {es : List Expr} {t : TA} {p pos : Pos}
theorem pe_cL (C : COk X.prog X.w X.K X.mg X.base CX0 k x' ps sp) (hr : Room k X.A) (hN : X.N[i]? = some x) (hv : Vis X.env.scope x) (ha : PA X (e :: es) t)
    (hdb : (x == ("__debug__" : Str)) = false := by decide) (hcd : (x == ("__classdict__" : Str)) = false := by decide)
    (he : starEach (e :: es) X.env = (false, eval e X.env) :: starEach es X.env := by rfl) (hpl : (backTo pos (starEach es X.env)).any (·.1) = false := by rfl) :
    PE X (.Call (.Name x p) (e :: es) [] pos) (fun σ H Q => (∀ f, X.mg x' = some (.ref f) → σ[i]? = some (some (.ref f))) ∧ t σ H fun vs H1 => sp (vs ++ []) H1 Q E0) := by
  obtain ⟨f, fd, F, a, b, c⟩ := C
  exact ⟨fun pins s σ H Q I h => (pe_callL (i := i) F hr hN hv b c .nil pass0 ha hdb hcd he hpl).run pins s σ H Q I ⟨h.1 f a, h.2⟩⟩
open PySem.Spec PyProof.Rows in
theorem ix_kd {d : Addr} (D : ∃ es n, KDict X.K X.w d es n) : IxR X (fun x y H Q => ∃ (z : Str) (u0 : Value) (v0 : V), x = .ref d ∧ y = .str z ∧ PySem.W.nsIn X.K d z = some (some u0) ∧ RelV v0 u0 ∧ Q v0 H) := by
  obtain ⟨es, n, D⟩ := D
  intro value slice pins s σ H x y v u Q I rx ry h hs
  have ht : s.TypeIs v "dict" := by
    obtain ⟨z, u0, v0, rfl, _⟩ := h
    cases rx
    exact kd_type D I
  exact tail_any ht PySem.F.slot_dict_getitem.lookup (op_item_kd D pins s σ H x y v u Q I rx ry h) hs
theorem op_in_kd' {d : Addr} (D : ∃ es n, KDict X.K X.w d es n) : OpR X (compareOp .In) (fun x y H Q => ∃ (z : Str) (r : Option Value), x = .str z ∧ y = .ref d ∧ PySem.W.nsIn X.K d z = some r ∧ Q (.bl r.isSome) H) := by
  obtain ⟨es, n, D⟩ := D
  exact op_in_kd D
end
theorem tyT {K : PySem.W.Frag} {H : Hp} {a : Addr} {xs : List V} (h : SqT K H a xs) : TyX K H (.ref a) (.type "tuple") := by
  rcases h with (h | ⟨o, h⟩) | ⟨o, its, n, h, c, _⟩
  · exact .base (.tup h)
  · exact .fTuple h
  · exact .kTuple h c
theorem cutV1 (x : V) (xs : List V) : cutV (x :: xs) (some 1) none = xs := by
  unfold cutV
  rw [show HT.sIx (x :: xs).length 0 (some 1) = min 1 (x :: xs).length from HT.sIx_nat _ 0 1, HT.sIx_none]
  rw [show min 1 (x :: xs).length = 1 by rw [List.length_cons]; omega]
  show List.take ((x :: xs).length - 1) xs = xs
  rw [List.length_cons, Nat.add_sub_cancel, List.take_length]
theorem cutV2 (x y : V) (xs : List V) : cutV (x :: y :: xs) (some 2) none = xs := by
  unfold cutV
  rw [show HT.sIx (x :: y :: xs).length 0 (some 2) = min 2 (x :: y :: xs).length from HT.sIx_nat _ 0 2, HT.sIx_none]
  rw [show min 2 (x :: y :: xs).length = 2 by rw [List.length_cons, List.length_cons]; omega]
  show List.take ((x :: y :: xs).length - 2) xs = xs
  rw [List.length_cons, List.length_cons, show xs.length + 1 + 1 - 2 = xs.length by omega, List.take_length]
theorem not_whole {xs : List V} {k : Nat} (hk : 0 < k) (h : k ≤ xs.length) : ¬ (HT.sIx xs.length 0 (some (k : Int)) = 0 ∧ HT.sIx xs.length xs.length none = xs.length) := fun z => by
  have := z.1
  rw [HT.sIx_nat] at this
  omega
section
variable {P : Program} {w : World} {K : PySem.W.Frag} {mg : Str → Option Value} {base : Heap} {A : Ad}
/-- require lets by what holds -/
def sp_require : Sp := fun vs H Q _ => ∃ b y, vs = [.bl b, y] ∧ b = true ∧ Q .non H
theorem ok_require (D : DT K mg A) : COk P w K mg base CX0 1 "require" ["holds", "why"] sp_require := by
  refine COk.by D.require fun f fd F => ?_
  refine F.ok sc_require (fun vs H Q E h => ?_) (fun cdv Ar outer s H vs Q E hr h => ?_)
  · obtain ⟨b, y, rfl, _⟩ := h
    rfl
  · obtain ⟨b, y, rfl, rfl, k⟩ := h
    refine ⟨_, (pss_one (ps_if (pt_not (pt_val (pv 0)))
      (pss_one ps_never) pss_nil)), ?_⟩
    exact ⟨_, rfl, true, rfl, iteF k⟩
def sp_is_whole : Sp := fun vs H Q _ => ∃ i : Int, vs = [.int i] ∧ Q (.bl true) H
theorem ok_is_whole (T : CT K mg A) (D : DT K mg A) : COk P w K mg base CX0 1 "is_whole" ["number"] sp_is_whole := by
  refine COk.by D.is_whole fun f fd F => ?_
  refine F.ok sc_is_whole (fun vs H Q E h => ?_) (fun cdv Ar outer s H vs Q E hr h => ?_)
  · obtain ⟨i, rfl, _⟩ := h
    rfl
  · obtain ⟨i, rfl, k⟩ := h
    refine ⟨_, (pss_one (ps_ret (pe_and (pe_callB call_isi (by rfl) T.b_isinstance (by decide +kernel) (pa_cons (pv 0) (pa_cons (pe_bltn (v := .ty "int") (by rfl) T.b_int (by decide +kernel) rfl) pa_nil))) (pe_one (pe_not (pe_callB call_isi (by rfl) T.b_isinstance (by decide +kernel) (pa_cons (pv 0) (pa_cons (pe_bltn (v := .ty "bool") (by rfl) T.b_bool (by decide +kernel) rfl) pa_nil)))))))), ?_⟩
    refine ⟨_, rfl, _, _, _, _, true, rfl, .ty "int", .base (.int i), kit_ty (by decide +kernel), _, rfl, iteT ?_⟩
    exact ⟨_, rfl, _, _, _, _, false, rfl, .ty "bool", .base (.int i), kit_ty (by decide +kernel), _, rfl, k⟩
/-- a row of whole numbers, so many, none beyond 10 ** 12 -/
def sp_check_row (K : PySem.W.Frag) : Sp := fun vs H Q _ => ∃ (a : Addr) (ns : List Int) (lo hi : Int), vs = [.ref a, .int lo, .int hi] ∧ SqT K H a (ns.map V.int) ∧ lo ≤ ns.length ∧ (ns.length : Int) ≤ hi ∧ (∀ z ∈ ns, tame z) ∧ Q .non H
theorem ok_check_row (T : CT K mg A) (D : DT K mg A) : COk P w K mg base CX0 2 "check_row" ["row", "fewest", "most"] (sp_check_row K) := by
  have G_require : COk P w K mg base CX0 1 "require" ["holds", "why"] sp_require := ok_require D
  have G_is_whole : COk P w K mg base CX0 1 "is_whole" ["number"] sp_is_whole := ok_is_whole T D
  refine COk.by D.check_row fun f fd F => ?_
  refine F.ok sc_check_row (fun vs H Q E h => ?_) (fun cdv Ar outer s H vs Q E hr h => ?_)
  · obtain ⟨a, ns, lo, hi, rfl, _⟩ := h
    rfl
  · obtain ⟨a, ns, lo, hi, rfl, ha, h1, h2, ht, k⟩ := h
    obtain ⟨tN, gi_MOST_NUMBER⟩ := T.i_MOST_NUMBER
    refine ⟨_, (pss_cons (ps_expr (pe_c G_require (hr.mono (by first | decide | omega)) (pa_cons (pe_callB call_isi (by rfl) T.b_isinstance (by decide +kernel) (pa_cons (pv 0) (pa_cons (pe_bltn (v := .ty "tuple") (by rfl) T.b_tuple (by decide +kernel) rfl) pa_nil))) (pa_cons pe_str pa_nil))))
    (pss_cons (ps_expr (pe_c G_require (hr.mono (by first | decide | omega)) (pa_cons (pe_chain op_le op_le (pv 1) (pe_callB call_len_seq (by rfl) T.b_len (by decide +kernel) (pa_cons (pv 0) pa_nil)) (pv 2)) (pa_cons pe_str pa_nil))))
    (pss_one (ps_for PassesOwn.never rfl (pi_tup (pv 0)) (pg_name (i := 3) sc_check_row.nd rfl (Or.inl rfl))
      (pss_cons (ps_expr (pe_c G_require (hr.mono (by first | decide | omega)) (pa_cons (pe_c G_is_whole (hr.mono (by first | decide | omega)) (pa_cons (pv 3) pa_nil)) (pa_cons pe_str pa_nil))))
    (pss_one (ps_expr (pe_c G_require (hr.mono (by first | decide | omega)) (pa_cons (pe_chain op_le op_le (pe_un un_neg (pe_glob (v := .int 1000000000000) (by rfl) gi_MOST_NUMBER ⟨_, rfl⟩)) (pv 3) (pe_glob (v := .int 1000000000000) (by rfl) gi_MOST_NUMBER ⟨_, rfl⟩)) (pa_cons pe_str pa_nil)))))))))), ?_⟩
    have hl : (ns.map V.int).length = ns.length := List.length_map _
    refine ⟨_, rfl, _, _, _, _, true, rfl, .ty "tuple", tyT ha, kit_ty (by decide +kernel), _, _, rfl, rfl, ?_⟩
    refine ⟨_, rfl, _, rfl, a, _, rfl, .inr ha, _, _, rfl, rfl, _, rfl, ?_⟩
    rw [decide_eq_true (by rw [hl]; exact h1)]
    refine iteT ⟨_, rfl, _, _, rfl, rfl, _, _, rfl, decide_eq_true (by rw [hl]; exact h2), ?_⟩
    refine ⟨_, rfl, a, rfl, ⟨_, ha⟩, for_tup (K := K) (a := a) (xs := ns.map V.int) (fun i σ H2 => ∃ v : Option V, σ = [some (.ref a), some (.int lo), some (.int hi), v] ∧ H2 = H)
      ⟨none, rfl, rfl⟩ (fun i σ H2 _ ⟨_, _, e⟩ => by rw [e]; exact ha) ?_ ?_⟩
    · rintro i y σ H2 hi ⟨v, rfl, rfl⟩
      obtain ⟨z, hz, rfl⟩ : ∃ z, z ∈ ns ∧ y = V.int z := by
        rw [List.getElem?_map] at hi
        cases e : ns[i]? with
        | none => rw [e] at hi; cases hi
        | some z => rw [e] at hi; exact ⟨z, List.mem_of_getElem? e, (Option.some.inj hi).symm⟩
      obtain ⟨z1, z2⟩ := ht z hz
      refine ⟨_, rfl, z, rfl, _, _, rfl, rfl, ?_⟩
      refine ⟨_, rfl, _, rfl, _, _, rfl, rfl, _, rfl, ?_⟩
      rw [decide_eq_true (show (-1000000000000 : Int) ≤ z from z1)]
      exact iteT ⟨_, _, rfl, rfl, _, _, rfl, decide_eq_true (show z ≤ (1000000000000 : Int) from z2), ⟨_, rfl, rfl⟩⟩
    · rintro σ H2 ⟨v, rfl, rfl⟩
      exact k
/-! the leaves -/
def sp_check_fraction (K : PySem.W.Frag) : Sp := fun vs H Q _ => ∃ (a : Addr) (t b d : Int), vs = [.ref a, .int d] ∧ SqT K H a [.str "fraction", .int t, .int b] ∧ tame t ∧ tame b ∧ b ≠ 0 ∧ ∀ H', Same H H' → Q .non H'
theorem ok_check_fraction (T : CT K mg A) (D : DT K mg A) : COk P w K mg base CX0 3 "check_fraction" ["tree", "depth"] (sp_check_fraction K) := by
  have G_require : COk P w K mg base CX0 1 "require" ["holds", "why"] sp_require := ok_require D
  have G_check_row : COk P w K mg base CX0 2 "check_row" ["row", "fewest", "most"] (sp_check_row K) := ok_check_row T D
  refine COk.by D.check_fraction fun f fd F => ?_
  refine F.ok sc_check_fraction (fun vs H Q E h => ?_) (fun cdv Ar outer s H vs Q E hr h => ?_)
  · obtain ⟨a, t, b, d, rfl, _⟩ := h
    rfl
  · obtain ⟨a, t, b, d, rfl, ha, ht, hb, h0, k⟩ := h
    refine ⟨_, (pss_cons (ps_expr (pe_c G_check_row (hr.mono (by first | decide | omega)) (pa_cons (pe_slice sl_tup (pv 0) (po_some pe_int) po_none) (pa_cons pe_int (pa_cons pe_int pa_nil)))))
    (pss_one (ps_expr (pe_c G_require (hr.mono (by first | decide | omega)) (pa_cons (pe_cmpR op_ne (pe_ix ix_tup (pv 0) pe_int (fun _ _ => rfl)) pe_int (nomark _)) (pa_cons pe_str pa_nil)))))), ?_⟩
    refine ⟨_, rfl, 1, rfl, a, _, rfl, ha, not_whole (k := 1) (by decide) (by show 1 ≤ 3; decide), fun p np => ?_⟩
    rw [cutV1]
    have sm := same_upd (o := .tup [V.int t, .int b]) np
    refine ⟨p, [t, b], 2, 2, rfl, SqT.of upd_same, (by show (2 : Int) ≤ 2; decide), (by show (2 : Int) ≤ 2; decide), ?_, ?_⟩
    · intro z hz
      simp only [List.mem_cons, List.not_mem_nil, or_false] at hz
      rcases hz with rfl | rfl
      · exact ht
      · exact hb
    refine ⟨_, rfl, a, _, 2, _, rfl, rfl, sqT_same ha sm, atI_nat (j := 2) rfl, rfl, _, _, rfl, ?_, k _ sm⟩
    rw [decide_eq_false (fun z => h0 (V.int.inj z))]
    rfl
def sp_check_root (K : PySem.W.Frag) : Sp := fun vs H Q _ => ∃ (a : Addr) (t s b d : Int), vs = [.ref a, .int d] ∧ SqT K H a [.str "root", .int t, .int s, .int b] ∧ tame t ∧ tame s ∧ 0 ≤ s ∧ tame b ∧ b ≠ 0 ∧ ∀ H', Same H H' → Q .non H'
theorem ok_check_root (T : CT K mg A) (D : DT K mg A) : COk P w K mg base CX0 3 "check_root" ["tree", "depth"] (sp_check_root K) := by
  have G_require : COk P w K mg base CX0 1 "require" ["holds", "why"] sp_require := ok_require D
  have G_check_row : COk P w K mg base CX0 2 "check_row" ["row", "fewest", "most"] (sp_check_row K) := ok_check_row T D
  refine COk.by D.check_root fun f fd F => ?_
  refine F.ok sc_check_root (fun vs H Q E h => ?_) (fun cdv Ar outer s H vs Q E hr h => ?_)
  · obtain ⟨a, t, s, b, d, rfl, _⟩ := h
    rfl
  · obtain ⟨a, t, sq, b, d, rfl, ha, ht, hs, hs0, hb, h0, k⟩ := h
    refine ⟨_, (pss_cons (ps_expr (pe_c G_check_row (hr.mono (by first | decide | omega)) (pa_cons (pe_slice sl_tup (pv 0) (po_some pe_int) po_none) (pa_cons pe_int (pa_cons pe_int pa_nil)))))
    (pss_cons (ps_expr (pe_c G_require (hr.mono (by first | decide | omega)) (pa_cons (pe_cmpR op_ge (pe_ix ix_tup (pv 0) pe_int (fun _ _ => rfl)) pe_int (nomark _)) (pa_cons pe_str pa_nil))))
    (pss_one (ps_expr (pe_c G_require (hr.mono (by first | decide | omega)) (pa_cons (pe_cmpR op_ne (pe_ix ix_tup (pv 0) pe_int (fun _ _ => rfl)) pe_int (nomark _)) (pa_cons pe_str pa_nil))))))), ?_⟩
    refine ⟨_, rfl, 1, rfl, a, _, rfl, ha, not_whole (k := 1) (by decide) (by show 1 ≤ 4; decide), fun p np => ?_⟩
    rw [cutV1]
    have sm := same_upd (o := .tup [V.int t, .int sq, .int b]) np
    refine ⟨p, [t, sq, b], 3, 3, rfl, SqT.of upd_same, (by show (3 : Int) ≤ 3; decide), (by show (3 : Int) ≤ 3; decide), ?_, ?_⟩
    · intro z hz
      simp only [List.mem_cons, List.not_mem_nil, or_false] at hz
      rcases hz with rfl | rfl | rfl
      · exact ht
      · exact hs
      · exact hb
    refine ⟨_, rfl, a, _, 2, _, rfl, rfl, sqT_same ha sm, atI_nat (j := 2) rfl, _, _, rfl, rfl, _, _, rfl, decide_eq_true hs0, ?_⟩
    refine ⟨_, rfl, a, _, 3, _, rfl, rfl, sqT_same ha sm, atI_nat (j := 3) rfl, rfl, _, _, rfl, ?_, k _ sm⟩
    rw [decide_eq_false (fun z => h0 (V.int.inj z))]
    rfl
/-- the rules of a ruled chain -/
structure RuledGood (ps ring steps : List Int) : Prop extends RuledOk ps ring steps where
  one : ∀ z ∈ ps.tail ++ ring, 1 ≤ z
  nn : ∀ z ∈ steps, 0 ≤ z
  last : ring = [] → ps.length = 1 ∨ ∃ z, ps.getLast? = some z ∧ 2 ≤ z
def sp_check_ruled (K : PySem.W.Frag) : Sp := fun vs H Q _ => ∃ (a p q u : Addr) (ps ring steps : List Int) (d : Int), vs = [.ref a, .int d] ∧ SqT K H a [.str "ruled", .ref p, .ref q, .ref u] ∧ SqT K H p (ps.map V.int) ∧ SqT K H q (ring.map V.int) ∧ SqT K H u (steps.map V.int) ∧ RuledGood ps ring steps ∧ ∀ H', Same H H' → Q .non H'
theorem same_list {K : PySem.W.Frag} {H H' : Hp} {D a : Addr} {xs acc : List V} (k : ∀ b o, H b = some o → b ≠ D → H' b = some o) (hD : H D = some (.lst acc)) (h : SqT K H a xs) : SqT K H' a xs :=
  sqT_but (N := fun b => b = D) h k fun b o e z => by
    subst e
    rw [hD] at z
    cases z
    exact ⟨fun _ q => (by cases q), fun _ _ q => (by cases q)⟩
/-- t + u: some tuple of both -/
def rCatC (K : PySem.W.Frag) : R2 := fun x y H Q => ∃ a b xs ys, x = .ref a ∧ y = .ref b ∧ SqT K H a xs ∧ SqT K H b ys ∧ xs.length + ys.length ≤ sizeLine ∧ ∀ c H', Same H H' → SqT K H' c (xs ++ ys) → Q (.ref c) H'
theorem op_catC {X : Cx} : OpR X (binaryOp .Add) (rCatC X.K) := by
  intro pins s σ H x y v u Q I rx ry h
  obtain ⟨a, b, xs, ys, ex, ey, ha, hb, hz, q⟩ := h
  refine op_catA pins s σ H x y v u Q I rx ry ⟨a, b, xs, ys, ex, ey, ha, hb, hz, fun z => ?_, fun _ z => ?_, fun _ _ p hp => ?_⟩
  · subst z
    exact q b H (.refl H) hb
  · subst z
    exact q a H (.refl H) (by rw [List.append_nil]; exact ha)
  · exact q p _ (same_upd hp) (SqT.of upd_same)
theorem at_last {ns : List Int} {z : Int} (h : ns.getLast? = some z) : atI (ns.map V.int) (-1) = some (.int z) := by
  obtain ⟨i, rfl⟩ := List.getLast?_eq_some_iff.mp h
  rw [List.map_append]
  exact atI_last _ _
theorem all_true (n : Nat) : (List.replicate n true).all id = true := by
  induction n with
  | zero => rfl
  | succ n ih => rw [List.replicate_succ, List.all_cons, ih]; rfl
theorem rep_succ (i : Nat) : (List.replicate i true).map V.bl ++ [V.bl true] = (List.replicate (i + 1) true).map V.bl := by
  rw [List.replicate_succ', List.map_append]
  rfl
theorem ok_check_ruled (T : CT K mg A) (D : DT K mg A) : COk P w K mg base CX0 3 "check_ruled" ["tree", "depth"] (sp_check_ruled K) := by
  have G_require : COk P w K mg base CX0 1 "require" ["holds", "why"] sp_require := ok_require D
  have G_check_row : COk P w K mg base CX0 2 "check_row" ["row", "fewest", "most"] (sp_check_row K) := ok_check_row T D
  obtain ⟨tP, gi_MOST_PARTS⟩ := T.i_MOST_PARTS
  refine COk.by D.check_ruled fun f fd F => ?_
  refine F.ok sc_check_ruled (fun vs H Q E h => ?_) (fun cdv Ar outer s H vs Q E hr h => ?_)
  · obtain ⟨a, p, q, u, ps, ring, steps, d, rfl, _⟩ := h
    rfl
  · obtain ⟨a, p, q, u, ps, ring, steps, d, rfl, ha, hp, hq, hu, G, k⟩ := h
    obtain ⟨⟨p1, p12, r12, sl, tp, tr, ts⟩, one, nn, last⟩ := G
    refine ⟨_, (pss_cons (ps_asg (pe_slice sl_tup (pv 0) (po_some pe_int) po_none) (pg_tup rfl (pgs_cons (pg_name (i := 2) sc_check_ruled.nd rfl (Or.inl rfl)) (pgs_cons (pg_name (i := 3) sc_check_ruled.nd rfl (Or.inl rfl)) (pgs_cons (pg_name (i := 4) sc_check_ruled.nd rfl (Or.inl rfl)) pgs_nil)))))
    (pss_cons (ps_expr (pe_c G_check_row (hr.mono (by first | decide | omega)) (pa_cons (pv 2) (pa_cons pe_int (pa_cons (pe_glob (v := .int 12) (by rfl) gi_MOST_PARTS ⟨_, rfl⟩) pa_nil)))))
    (pss_cons (ps_expr (pe_c G_check_row (hr.mono (by first | decide | omega)) (pa_cons (pv 3) (pa_cons pe_int (pa_cons (pe_glob (v := .int 12) (by rfl) gi_MOST_PARTS ⟨_, rfl⟩) pa_nil)))))
    (pss_cons (ps_expr (pe_c G_check_row (hr.mono (by first | decide | omega)) (pa_cons (pv 4) (pa_cons (pe_callB call_len_seq (by rfl) T.b_len (by decide +kernel) (pa_cons (pv 3) pa_nil)) (pa_cons (pe_callB call_len_seq (by rfl) T.b_len (by decide +kernel) (pa_cons (pv 3) pa_nil)) pa_nil)))))
    (pss_cons (ps_expr (pe_c G_require (hr.mono (by first | decide | omega)) (pa_cons (pe_callB (cr_all rfl) (by rfl) T.b_all (by decide +kernel) (pa_cons (pe_lc (own := [("part", 5)]) (g := gName 5) (tt := tYes) rfl sc_check_ruled.nd (pi_tup (pe_op op_catC (pe_slice sl_tup (pv 2) (po_some pe_int) po_none) (pv 3))) (blkOk_by (own := [("part", 5)]) (N := ["tree", "depth", "parts", "ring", "steps", "part", "step", "ends"]) (sc := defScope s_check_ruled) (by decide +kernel)) (fun _ _ _ _ _ => (pg_name (i := 5) sc_check_ruled.nd rfl (Or.inl rfl))) (fun _ _ _ _ _ => pts_nil) (fun _ _ _ _ _ => (pe_cmpR op_ge (pv 5) pe_int (nomark _)))) pa_nil)) (pa_cons pe_str pa_nil))))
    (pss_cons (ps_expr (pe_c G_require (hr.mono (by first | decide | omega)) (pa_cons (pe_callB (cr_all rfl) (by rfl) T.b_all (by decide +kernel) (pa_cons (pe_lc (own := [("step", 6)]) (g := gName 6) (tt := tYes) rfl sc_check_ruled.nd (pi_tup (pv 4)) (blkOk_by (own := [("step", 6)]) (N := ["tree", "depth", "parts", "ring", "steps", "part", "step", "ends"]) (sc := defScope s_check_ruled) (by decide +kernel)) (fun _ _ _ _ _ => (pg_name (i := 6) sc_check_ruled.nd rfl (Or.inl rfl))) (fun _ _ _ _ _ => pts_nil) (fun _ _ _ _ _ => (pe_cmpR op_ge (pv 6) pe_int (nomark _)))) pa_nil)) (pa_cons pe_str pa_nil))))
    (pss_cons (ps_set (i := 7) sc_check_ruled.nd rfl (Or.inl rfl) (pe_cmpR op_eq (pe_callB call_len_seq (by rfl) T.b_len (by decide +kernel) (pa_cons (pv 3) pa_nil)) pe_int (nomark _)))
    (pss_one (ps_expr (pe_c G_require (hr.mono (by first | decide | omega)) (pa_cons (pe_or (pe_not (pv 7)) (pe_or (pe_cmpR op_eq (pe_callB call_len_seq (by rfl) T.b_len (by decide +kernel) (pa_cons (pv 2) pa_nil)) pe_int (nomark _)) (pe_one (pe_cmpR op_ge (pe_ix ix_tup (pv 2) (pe_un un_neg pe_int) (fun _ _ => rfl)) pe_int (nomark _))))) (pa_cons pe_str pa_nil)))))))))))), ?_⟩
    refine ⟨_, rfl, 1, rfl, a, _, rfl, ha, not_whole (k := 1) (by decide) (by show 1 ≤ 4; decide), fun z nz => ?_⟩
    rw [cutV1]
    have sm := same_upd (o := .tup [V.ref p, .ref q, .ref u]) nz
    refine ⟨z, _, rfl, SqT.of upd_same, rfl, _, _, rfl, _, _, rfl, _, _, rfl, rfl, ?_⟩
    have hp1 := sqT_same hp sm
    have hq1 := sqT_same hq sm
    have hu1 := sqT_same hu sm
    generalize upd H z (.tup [V.ref p, .ref q, .ref u]) = H1 at *
    have lr : (ring.map V.int).length = ring.length := List.length_map _
    have lp : (ps.map V.int).length = ps.length := List.length_map _
    have lp0 : 0 < ps.length := List.length_pos_iff.mpr p1
    refine ⟨_, rfl, p, ps, _, _, rfl, hp1, (by show (1 : Int) ≤ ps.length; omega), (by show (ps.length : Int) ≤ 12; omega), tp, ?_⟩
    refine ⟨_, rfl, q, ring, _, _, rfl, hq1, (by show (0 : Int) ≤ ring.length; omega), (by show (ring.length : Int) ≤ 12; omega), tr, ?_⟩
    refine ⟨_, rfl, _, rfl, q, _, rfl, .inr hq1, _, rfl, q, _, rfl, .inr hq1, u, steps, _, _, rfl, hu1, (by rw [lr]; omega), (by rw [lr]; omega), ts, ?_⟩
    -- all parts but the first, and the ring's, are 1 or more
    obtain ⟨p0, pt, rfl⟩ : ∃ p0 pt, ps = p0 :: pt := by
      cases ps with
      | nil => exact absurd rfl p1
      | cons x y => exact ⟨x, y, rfl⟩
    refine ⟨_, rfl, 1, rfl, p, _, rfl, hp1, not_whole (k := 1) (by decide) (by rw [lp]; exact lp0), fun y ny => ?_⟩
    have ec : cutV ((p0 :: pt).map V.int) (some 1) none = pt.map V.int := cutV1 _ _
    rw [ec]
    have sy := same_upd (o := .tup (pt.map V.int)) ny
    have hpt : SqT K (upd H1 y (.tup (pt.map V.int))) y (pt.map V.int) := SqT.of upd_same
    have hq2 := sqT_same hq1 sy
    refine ⟨_, rfl, y, q, _, _, rfl, rfl, hpt, hq2, ?_, fun c H2 s2 hc => ?_⟩
    · rw [List.length_map, lr]
      rw [List.length_cons] at p12
      exact Nat.le_trans (show pt.length + ring.length ≤ 24 by omega) (by decide)
    rw [← List.map_append] at hc
    have hall : ∀ x ∈ pt ++ ring, 1 ≤ x := one
    have hln : (pt ++ ring).length ≤ 30 := by
      rw [List.length_append]
      rw [List.length_cons] at p12
      omega
    generalize pt ++ ring = row at hc hall hln
    have lrow : (row.map V.int).length = row.length := List.length_map _
    refine ⟨c, rfl, ⟨_, hc⟩, fun D0 nD => lc_tup (K := K) (a := c) (xs := row.map V.int) (fun i H' => i ≤ row.length ∧ H' D0 = some (.lst ((List.replicate i true).map V.bl)) ∧ Same H2 H') ⟨Nat.zero_le _, upd_same, same_upd nD⟩ (fun i H' _ z => sqT_same hc z.2.2) ?_ ?_⟩
    · rintro i y H' hi ⟨hle, hD, sH⟩
      obtain ⟨x, hx, rfl⟩ : ∃ x, x ∈ row ∧ y = V.int x := by
        rw [List.getElem?_map] at hi
        cases e : row[i]? with
        | none => rw [e] at hi; cases hi
        | some z => rw [e] at hi; exact ⟨z, List.mem_of_getElem? e, (Option.some.inj hi).symm⟩
      have hil : i < row.length := by
        have := (List.getElem?_eq_some_iff.mp hi).1
        rw [lrow] at this
        exact this
      refine ⟨rfl, _, rfl, _, _, rfl, rfl, _, hD, ?_, hil, ?_, fun b o e => ?_⟩
      · rw [List.length_map, List.length_replicate]
        exact Nat.lt_of_lt_of_le (show i < 31 by omega) (by decide)
      · rw [upd_same, ← rep_succ]
        show some (HO.lst ((List.replicate i true).map V.bl ++ [V.bl (decide (1 ≤ x))])) = _
        rw [decide_eq_true (hall x hx)]
      · rw [upd_ne (ne_of_none e nD)]
        exact sH b o e
    · rintro H3 ⟨_, hD, s3⟩
      rw [lrow] at hD
      refine ⟨D0, _, rfl, SqL.of hD, _, _, rfl, all_true _, ?_⟩
      -- steps are 0 or more
      have hu3 := sqT_same (sqT_same (sqT_same hu1 sy) s2) s3
      have lst : (steps.map V.int).length = steps.length := List.length_map _
      refine ⟨_, rfl, u, rfl, ⟨_, hu3⟩, fun D1 nD1 => lc_tup (K := K) (a := u) (xs := steps.map V.int) (fun i H' => i ≤ steps.length ∧ H' D1 = some (.lst ((List.replicate i true).map V.bl)) ∧ Same H3 H') ⟨Nat.zero_le _, upd_same, same_upd nD1⟩ (fun i H' _ z => sqT_same hu3 z.2.2) ?_ ?_⟩
      · rintro i y H' hi ⟨hle, hD, sH⟩
        obtain ⟨x, hx, rfl⟩ : ∃ x, x ∈ steps ∧ y = V.int x := by
          rw [List.getElem?_map] at hi
          cases e : steps[i]? with
          | none => rw [e] at hi; cases hi
          | some z => rw [e] at hi; exact ⟨z, List.mem_of_getElem? e, (Option.some.inj hi).symm⟩
        have hil : i < steps.length := by
          have := (List.getElem?_eq_some_iff.mp hi).1
          rw [lst] at this
          exact this
        refine ⟨rfl, _, rfl, _, _, rfl, rfl, _, hD, ?_, hil, ?_, fun b o e => ?_⟩
        · rw [List.length_map, List.length_replicate]
          exact Nat.lt_of_lt_of_le (show i < 31 by omega) (by decide)
        · rw [upd_same, ← rep_succ]
          show some (HO.lst ((List.replicate i true).map V.bl ++ [V.bl (decide (0 ≤ x))])) = _
          rw [decide_eq_true (nn x hx)]
        · rw [upd_ne (ne_of_none e nD1)]
          exact sH b o e
      · rintro H4 ⟨_, hD1, s4⟩
        rw [lst] at hD1
        refine ⟨D1, _, rfl, SqL.of hD1, _, _, rfl, all_true _, ?_⟩
        have s14 : Same H1 H4 := ((sy.trans s2).trans s3).trans s4
        have hq4 := sqT_same hq1 s14
        have hp4 := sqT_same hp1 s14
        -- the last part of a chain that ends
        refine ⟨_, rfl, q, _, rfl, .inr hq4, rfl, ?_⟩
        refine ⟨_, rfl, _, rfl, _, rfl, ?_⟩
        by_cases cr : ring = []
        · have e1 : decide (V.int (((ring.map V.int).length : Nat) : Int) = V.int 0) = true := by rw [cr]; rfl
          rw [e1]
          refine iteF ⟨_, rfl, p, _, rfl, .inr hp4, rfl, _, rfl, ?_⟩
          rcases last cr with h1 | ⟨z, hz, z2⟩
          · have e2 : decide (V.int ((((p0 :: pt).map V.int).length : Nat) : Int) = V.int 1) = true := decide_eq_true (by rw [lp, h1]; rfl)
            rw [e2]
            exact iteT ⟨_, _, rfl, rfl, k _ (sm.trans s14)⟩
          · by_cases c2 : decide (V.int ((((p0 :: pt).map V.int).length : Nat) : Int) = V.int 1) = true
            · rw [c2]
              exact iteT ⟨_, _, rfl, rfl, k _ (sm.trans s14)⟩
            · rw [Bool.not_eq_true] at c2
              rw [c2]
              refine iteF ⟨_, rfl, 1, rfl, p, _, _, _, rfl, rfl, hp4, at_last hz, _, _, rfl, rfl, _, _, rfl, decide_eq_true z2, k _ (sm.trans s14)⟩
        · have e1 : decide (V.int (((ring.map V.int).length : Nat) : Int) = V.int 0) = false := by rw [len_eq_nil]; exact decide_eq_false cr
          rw [e1]
          exact iteT ⟨_, _, rfl, rfl, k _ (sm.trans s14)⟩
end
/-! ### check_at_depth: by the word's own check -/
def sp_check_at (K : PySem.W.Frag) (sF sR sU sO sE sP : Sp) : Sp := fun vs H Q _ => ∃ (a : Addr) (word : Str) (rest : List V) (d : Int), vs = [.ref a, .int d] ∧ d ≤ 5 ∧ SqT K H a (.str word :: rest) ∧
  ((word = "fraction" ∧ rest.length = 2 ∧ sF [.ref a, .int d] H (fun _ => Q .non) E0) ∨ (word = "root" ∧ rest.length = 3 ∧ sR [.ref a, .int d] H (fun _ => Q .non) E0) ∨ (word = "ruled" ∧ rest.length = 3 ∧ sU [.ref a, .int d] H (fun _ => Q .non) E0) ∨
   (word = "four" ∧ rest.length = 2 ∧ sO [.ref a, .int d] H (fun _ => Q .non) E0) ∨ (word = "eight" ∧ rest.length = 3 ∧ sE [.ref a, .int d] H (fun _ => Q .non) E0) ∨ (word = "power" ∧ rest.length = 2 ∧ sP [.ref a, .int d] H (fun _ => Q .non) E0))
section
variable {P : Program} {w : World} {K : PySem.W.Frag} {mg : Str → Option Value} {base : Heap} {A : Ad}
theorem ok_check_at_depth {k : Nat} {sF sR sU sO sE sP : Sp} (T : CT K mg A) (TT : TB K w mg A) (D : DT K mg A) (hk : 1 ≤ k)
    (G_check_fraction : COk P w K mg base CX0 k "check_fraction" ["tree", "depth"] sF) (G_check_root : COk P w K mg base CX0 k "check_root" ["tree", "depth"] sR) (G_check_ruled : COk P w K mg base CX0 k "check_ruled" ["tree", "depth"] sU)
    (G_check_four : COk P w K mg base CX0 k "check_four" ["tree", "depth"] sO) (G_check_eight : COk P w K mg base CX0 k "check_eight" ["tree", "depth"] sE) (G_check_power : COk P w K mg base CX0 k "check_power" ["tree", "depth"] sP) :
    COk P w K mg base CX0 (k + 1) "check_at_depth" ["tree", "depth"] (sp_check_at K sF sR sU sO sE sP) := by
  have G_require : COk P w K mg base CX0 k "require" ["holds", "why"] sp_require := (ok_require D).mono hk
  obtain ⟨tD, gi_MOST_DEPTH⟩ := T.i_MOST_DEPTH
  refine COk.by D.check_at_depth fun f fd F => ?_
  refine F.ok sc_check_at_depth (fun vs H Q E h => ?_) (fun cdv Ar outer s H vs Q E hr h => ?_)
  · obtain ⟨a, word, rest, d, rfl, _⟩ := h
    rfl
  · obtain ⟨a, word, rest, d, rfl, hd, ha, hw⟩ := h
    refine ⟨_, (pss_cons (ps_expr (pe_c G_require (hr.mono (by first | decide | omega)) (pa_cons (pe_cmpR op_le (pv 1) (pe_glob (v := .int 5) (by rfl) gi_MOST_DEPTH ⟨_, rfl⟩) (nomark _)) (pa_cons pe_str pa_nil))))
    (pss_cons (ps_expr (pe_c G_require (hr.mono (by first | decide | omega)) (pa_cons (pe_and (pe_callB call_isi (by rfl) T.b_isinstance (by decide +kernel) (pa_cons (pv 0) (pa_cons (pe_bltn (v := .ty "tuple") (by rfl) T.b_tuple (by decide +kernel) rfl) pa_nil))) (pe_one (pe_cmpR op_gt (pe_callB call_len_seq (by rfl) T.b_len (by decide +kernel) (pa_cons (pv 0) pa_nil)) pe_int (nomark _)))) (pa_cons pe_str pa_nil))))
    (pss_cons (ps_set (i := 2) sc_check_at_depth.nd rfl (Or.inl rfl) (pe_ix ix_tup (pv 0) pe_int (fun _ _ => rfl)))
    (pss_cons (ps_expr (pe_c G_require (hr.mono (by first | decide | omega)) (pa_cons (pe_and (pe_callB call_isi (by rfl) T.b_isinstance (by decide +kernel) (pa_cons (pv 2) (pa_cons (pe_bltn (v := .ty "str") (by rfl) T.b_str (by decide +kernel) rfl) pa_nil))) (pe_one (pe_cmpR (op_in_kd' TT.dL) (pv 2) (pe_glob (v := .ref A.k_LENGTHS) (by rfl) T.g_LENGTHS rfl) rfl))) (pa_cons pe_str pa_nil))))
    (pss_cons (ps_expr (pe_c G_require (hr.mono (by first | decide | omega)) (pa_cons (pe_cmpR op_eq (pe_callB call_len_seq (by rfl) T.b_len (by decide +kernel) (pa_cons (pv 0) pa_nil)) (pe_ix (ix_kd TT.dL) (pe_glob (v := .ref A.k_LENGTHS) (by rfl) T.g_LENGTHS rfl) (pv 2) (fun _ _ => rfl)) (nomark _)) (pa_cons pe_str pa_nil))))
    (pss_cons (ps_set (i := 3) sc_check_at_depth.nd rfl (Or.inl rfl) (pe_ix (ix_kd TT.dC) (pe_glob (v := .ref A.k_CHECKS) (by rfl) T.g_CHECKS rfl) (pv 2) (fun _ _ => rfl)))
    (pss_one (ps_expr ((pe_alt (pe_cL G_check_fraction hr (i := 3) rfl (Or.inl rfl) (pa_cons (pv 0) (pa_cons (pv 1) pa_nil))) (pe_alt (pe_cL G_check_root hr (i := 3) rfl (Or.inl rfl) (pa_cons (pv 0) (pa_cons (pv 1) pa_nil))) (pe_alt (pe_cL G_check_ruled hr (i := 3) rfl (Or.inl rfl) (pa_cons (pv 0) (pa_cons (pv 1) pa_nil))) (pe_alt (pe_cL G_check_four hr (i := 3) rfl (Or.inl rfl) (pa_cons (pv 0) (pa_cons (pv 1) pa_nil))) (pe_alt (pe_cL G_check_eight hr (i := 3) rfl (Or.inl rfl) (pa_cons (pv 0) (pa_cons (pv 1) pa_nil))) (pe_cL G_check_power hr (i := 3) rfl (Or.inl rfl) (pa_cons (pv 0) (pa_cons (pv 1) pa_nil))))))))))))))))), ?_⟩
    -- depth
    refine ⟨_, rfl, _, _, rfl, rfl, _, _, rfl, decide_eq_true hd, ?_⟩
    -- a tuple of something
    refine ⟨_, rfl, _, _, _, _, true, rfl, .ty "tuple", tyT ha, kit_ty (by decide +kernel), _, rfl, iteT ⟨_, rfl, a, _, rfl, .inr ha, _, _, rfl, rfl, _, _, rfl, decide_eq_true (by rw [List.length_cons]; omega), ?_⟩⟩
    refine ⟨_, rfl, a, _, 0, .str word, rfl, rfl, ha, atI_nat (j := 0) rfl, ?_⟩
    have key : ∀ {n : Int}, (word, n) ∈ ([("fraction", 3), ("root", 4), ("ruled", 4), ("four", 3), ("eight", 4), ("power", 3)] : List (Str × Int)) → n = (rest.length : Int) + 1 → ∃ t, PySem.W.nsIn K A.k_LENGTHS word = some (some (.int ((rest.length : Int) + 1) t)) := fun {n} hm e => by
      rw [← e]
      exact TT.lens word n hm
    have hlen : ∃ t, PySem.W.nsIn K A.k_LENGTHS word = some (some (.int ((rest.length : Int) + 1) t)) := by
      rcases hw with ⟨rfl, e, _⟩ | ⟨rfl, e, _⟩ | ⟨rfl, e, _⟩ | ⟨rfl, e, _⟩ | ⟨rfl, e, _⟩ | ⟨rfl, e, _⟩
      · exact key (n := 3) (by simp) (by omega)
      · exact key (n := 4) (by simp) (by omega)
      · exact key (n := 4) (by simp) (by omega)
      · exact key (n := 3) (by simp) (by omega)
      · exact key (n := 4) (by simp) (by omega)
      · exact key (n := 3) (by simp) (by omega)
    obtain ⟨tl, hl⟩ := hlen
    refine ⟨_, rfl, _, _, _, _, true, rfl, .ty "str", .base (.str word), kit_ty (by decide +kernel), _, rfl, iteT ⟨_, rfl, word, _, rfl, rfl, hl, _, _, rfl, rfl, ?_⟩⟩
    refine ⟨_, rfl, a, _, rfl, .inr ha, _, rfl, word, _, .int ((rest.length : Int) + 1), rfl, rfl, hl, ⟨_, rfl⟩, rfl, _, _, rfl, decide_eq_true (by rw [List.length_cons]; rfl), ?_⟩
    have chk : ∀ {y : Str} {sp : Sp}, (word, y) ∈ ([("fraction", "check_fraction"), ("root", "check_root"), ("ruled", "check_ruled"), ("four", "check_four"), ("eight", "check_eight"), ("power", "check_power")] : List (Str × Str)) → COk P w K mg base CX0 k y ["tree", "depth"] sp → ∃ f, mg y = some (.ref f) ∧ PySem.W.nsIn K A.k_CHECKS word = some (some (.ref f)) := fun {y sp} hm C => by
      obtain ⟨f, fd, _, e, _⟩ := C
      exact ⟨f, e, TT.chks word y f hm e⟩
    rcases hw with ⟨rfl, e, q⟩ | ⟨rfl, e, q⟩ | ⟨rfl, e, q⟩ | ⟨rfl, e, q⟩ | ⟨rfl, e, q⟩ | ⟨rfl, e, q⟩
    · obtain ⟨f1, e1, e2⟩ := chk (y := "check_fraction") (by simp) G_check_fraction
      exact ⟨_, rfl, _, _, .ref f1, rfl, rfl, e2, rfl, .inl ⟨fun g eg => by cases e1.symm.trans eg; rfl, _, rfl, _, rfl, q⟩⟩
    · obtain ⟨f1, e1, e2⟩ := chk (y := "check_root") (by simp) G_check_root
      exact ⟨_, rfl, _, _, .ref f1, rfl, rfl, e2, rfl, .inr (.inl ⟨fun g eg => by cases e1.symm.trans eg; rfl, _, rfl, _, rfl, q⟩)⟩
    · obtain ⟨f1, e1, e2⟩ := chk (y := "check_ruled") (by simp) G_check_ruled
      exact ⟨_, rfl, _, _, .ref f1, rfl, rfl, e2, rfl, .inr (.inr (.inl ⟨fun g eg => by cases e1.symm.trans eg; rfl, _, rfl, _, rfl, q⟩))⟩
    · obtain ⟨f1, e1, e2⟩ := chk (y := "check_four") (by simp) G_check_four
      exact ⟨_, rfl, _, _, .ref f1, rfl, rfl, e2, rfl, .inr (.inr (.inr (.inl ⟨fun g eg => by cases e1.symm.trans eg; rfl, _, rfl, _, rfl, q⟩)))⟩
    · obtain ⟨f1, e1, e2⟩ := chk (y := "check_eight") (by simp) G_check_eight
      exact ⟨_, rfl, _, _, .ref f1, rfl, rfl, e2, rfl, .inr (.inr (.inr (.inr (.inl ⟨fun g eg => by cases e1.symm.trans eg; rfl, _, rfl, _, rfl, q⟩))))⟩
    · obtain ⟨f1, e1, e2⟩ := chk (y := "check_power") (by simp) G_check_power
      exact ⟨_, rfl, _, _, .ref f1, rfl, rfl, e2, rfl, .inr (.inr (.inr (.inr (.inr ⟨fun g eg => by cases e1.symm.trans eg; rfl, _, rfl, _, rfl, q⟩))))⟩
/-- a promise that is never asked for -/
abbrev spNo : Sp := fun _ _ _ _ => False
theorem ok_no {k : Nat} {x : Str} {st : Stmt} {ps : List Str} (D : ∃ f fd, DefAt K mg x st ps f fd) : COk P w K mg base CX0 k x ps spNo := by
  obtain ⟨f, fd, F⟩ := D
  exact .of F ⟨(fun _ _ _ _ h => h.elim), (fun _ _ _ _ _ _ _ _ _ _ _ _ _ h => h.elim)⟩
/-- check_tree at level k + 1, over check_at_depth at level k -/
theorem ok_check_tree {k : Nat} {sp : Sp} (D : DT K mg A) (G_check_at_depth : COk P w K mg base CX0 k "check_at_depth" ["tree", "depth"] sp) :
    COk P w K mg base CX0 (k + 1) "check_tree" ["tree"] (fun vs H Q _ => ∃ v, vs = [v] ∧ sp [v, .int 1] H (fun _ => Q .non) E0) := by
  refine COk.by D.check_tree fun f fd F => ?_
  refine F.ok sc_check_tree (fun vs H Q E h => ?_) (fun cdv Ar outer s H vs Q E hr h => ?_)
  · obtain ⟨v, rfl, _⟩ := h
    rfl
  · obtain ⟨v, rfl, q⟩ := h
    refine ⟨_, (pss_one (ps_expr (pe_c G_check_at_depth (hr.mono (by first | decide | omega)) (pa_cons (pv 0) (pa_cons pe_int pa_nil))))), ?_⟩
    exact ⟨_, rfl, q⟩
end
/-! ### the meter, a leaf's asking, a reading of a leaf -/
section
variable {P : Program} {w : World} {K : PySem.W.Frag} {mg : Str → Option Value} {base : Heap} {A : Ad}
theorem root_there : ∀ s : Int, 0 ≤ s → ∃ r, IsRoot s r := by
  have key : ∀ n : Nat, ∃ r, IsRoot (n : Int) r := fun n => by
    induction n with
    | zero => exact ⟨0, by decide, by decide, by decide⟩
    | succ n ih =>
      obtain ⟨r, h0, h1, h2⟩ := ih
      have e1 : (r + 1 + 1) * (r + 1 + 1) = (r + 1) * (r + 1) + 2 * (r + 1) + 1 := by grind
      by_cases c : ((n + 1 : Nat) : Int) < (r + 1) * (r + 1)
      · exact ⟨r, h0, by omega, c⟩
      · exact ⟨r + 1, by omega, by omega, by omega⟩
  intro s hs
  obtain ⟨n, rfl⟩ := Int.eq_ofNat_of_zero_le hs
  exact key n
theorem ok_Meter_init (T : CT K mg A) (D : DT K mg A) : IOk P w K mg base 1 "Meter" A.c_Meter ["self"] (sp_ini A.c_Meter 0 fun _ => meF 0 0) := by
  refine IOk.of T.g_Meter D.Meter_init fun f fd F => ?_
  refine F.ok sc_Meter_init (fun vs H Q E h => ?_) (fun cdv Ar outer s H vs Q E hr h => ?_)
  · obtain ⟨p, dx, us, rfl, hl, _⟩ := h
    show us.length + 1 = 1
    omega
  · obtain ⟨p, dx, us, rfl, hl, hp, k⟩ := h
    match us, hl with
    | [], _ =>
      refine ⟨_, (pss_cons (ps_fld (pv 0) pe_int rfl)
    (pss_one (ps_fld (pv 0) pe_int rfl))), ?_⟩
      refine ⟨_, rfl, p, _, dx, [], rfl, hp, T.cl_Meter, T.n_Meter_left, (by show 0 < 1000; decide), ?_⟩
      refine ⟨_, rfl, p, _, dx, _, rfl, upd_same, T.cl_Meter, T.n_Meter_spent, (by show 1 < 1000; decide), ?_⟩
      refine cast (congrArg (Q V.non) ?_) k
      rw [upd_upd]
      rfl
theorem ok_Meter_allow (T : CT K mg A) (D : DT K mg A) : MOk P w K mg base CX0 1 A.c_Meter "allow" ["self", "most"] (fun vs H Q _ => ∃ m dx l s n, vs = [.ref m, .int n] ∧ H m = some (.ins A.c_Meter dx (meF l s)) ∧ Q .non (upd H m (.ins A.c_Meter dx (meF n s)))) := by
  refine MOk.of T.cl_Meter D.Meter_allow fun f fd F => ?_
  refine F.ok sc_Meter_allow (fun vs H Q E h => ?_) (fun cdv Ar outer s H vs Q E hr h => ?_)
  · obtain ⟨m, dx, l, sp, n, rfl, _⟩ := h
    rfl
  · obtain ⟨m, dx, l, sp, n, rfl, hm, k⟩ := h
    refine ⟨_, (pss_one (ps_fld (pv 0) (pv 1) rfl)), ?_⟩
    exact ⟨_, rfl, _, rfl, m, _, dx, _, rfl, hm, T.cl_Meter, T.n_Meter_left, (by show 2 < 1000; decide), k⟩
theorem ok_Meter_pay (T : CT K mg A) (D : DT K mg A) : MOk P w K mg base CX0 1 A.c_Meter "pay" ["self"] (fun vs H Q _ => ∃ m dx l s, vs = [.ref m] ∧ H m = some (.ins A.c_Meter dx (meF l s)) ∧ Q .non (upd H m (.ins A.c_Meter dx (meF (l - 1) (s + 1))))) := by
  refine MOk.of T.cl_Meter D.Meter_pay fun f fd F => ?_
  refine F.ok sc_Meter_pay (fun vs H Q E h => ?_) (fun cdv Ar outer s H vs Q E hr h => ?_)
  · obtain ⟨m, dx, l, sp, rfl, _⟩ := h
    rfl
  · obtain ⟨m, dx, l, sp, rfl, hm, k⟩ := h
    refine ⟨_, (pss_cons (ps_fldaug (pv 0) pe_int in_sub)
    (pss_one (ps_fldaug (pv 0) pe_int in_add))), ?_⟩
    refine ⟨_, rfl, m, _, dx, _, _, rfl, hm, T.cl_Meter, T.n_Meter_left, rfl, _, _, rfl, rfl, dx, _, hm, (by show 2 < 1000; decide), ?_⟩
    refine ⟨_, rfl, m, _, dx, _, _, rfl, upd_same, T.cl_Meter, T.n_Meter_spent, rfl, _, _, rfl, rfl, dx, _, upd_same, (by show 2 < 1000; decide), ?_⟩
    refine cast (congrArg (Q V.non) ?_) k
    rw [upd_upd]
    rfl
/-! what is told -/
inductive Ans where
  | part (n : Int) | fin | waits
def Ans.At (A : Ad) (H : Hp) (v : V) : Ans → Prop
  | .part n => ∃ p, v = .ref p ∧ H p = some (.tup [.str "part", .int n])
  | .fin => v = .ref A.k_END
  | .waits => v = .ref A.k_WAITS
/-- a leaf, asked with l parts to be taken -/
def Chain.ans (c : Chain) (l : Int) : Ans := if c.ended = true then .fin else if l < 1 then .waits else .part c.part
def Chain.then_ (c : Chain) (l : Int) : Chain := if c.ended = true then c else if l < 1 then c else c.next
def Chain.took (c : Chain) (l : Int) : Int := if c.ended = true then 0 else if l < 1 then 0 else 1
/-- a leaf at a, its chain at c -/
def LeafAt (A : Ad) (K : PySem.W.Frag) (H : Hp) (a c : Addr) (ch : Chain) : Prop := (∃ dx, H a = some (.ins A.c_Leaf dx (leF c))) ∧ Chain.At A K H c ch
/-- what holds of a chain, where the rest is kept -/
theorem Chain.At.kept {H H' : Hp} {a : Addr} {ch : Chain} {N : Addr → Prop} (h : Chain.At A K H a ch) (hn : ¬ N a) (k : ∀ b o, H b = some o → ¬ N b → H' b = some o) (hN : ∀ b o, N b → H b = some o → (∀ ys, o ≠ .tup ys) ∧ ∀ ob u, o ≠ .frz ob u) : Chain.At A K H' a ch := by
  cases ch with
  | frac t b => obtain ⟨dx, e⟩ := h; exact ⟨dx, k _ _ e hn⟩
  | root t s b r => obtain ⟨dx, e⟩ := h; exact ⟨dx, k _ _ e hn⟩
  | ruled ps ring steps i =>
    obtain ⟨dx, p, q, u, e, hp, hq, hu⟩ := h
    exact ⟨dx, p, q, u, k _ _ e hn, sqT_but hp k hN, sqT_but hq k hN, sqT_but hu k hN⟩
theorem Chain.At.same {H H' : Hp} {a : Addr} {ch : Chain} (h : Chain.At A K H a ch) (k : Same H H') : Chain.At A K H' a ch :=
  h.kept (N := fun _ => False) (fun z => z) (fun b o e _ => k b o e) fun _ _ z => z.elim
theorem Chain.At.there {H : Hp} {a : Addr} {ch : Chain} (h : Chain.At A K H a ch) : ∃ C dx fs, H a = some (.ins C dx fs) := by
  cases ch with
  | frac t b => obtain ⟨dx, e⟩ := h; exact ⟨_, _, _, e⟩
  | root t s b r => obtain ⟨dx, e⟩ := h; exact ⟨_, _, _, e⟩
  | ruled ps ring steps i => obtain ⟨dx, p, q, u, e, _⟩ := h; exact ⟨_, _, _, e⟩
theorem Chain.At.cls {H : Hp} {a C dx : Addr} {fs : Flds} {ch : Chain} (h : Chain.At A K H a ch) (e : H a = some (.ins C dx fs)) : fs.lookup ("has_ended" : Str) = none ∧ fs.lookup ("next_part" : Str) = none := by
  cases ch with
  | frac t b => obtain ⟨dx', e'⟩ := h; rw [e'] at e; cases e; exact ⟨rfl, rfl⟩
  | root t s b r => obtain ⟨dx', e'⟩ := h; rw [e'] at e; cases e; exact ⟨rfl, rfl⟩
  | ruled ps ring steps i => obtain ⟨dx', p, q, u, e', _⟩ := h; rw [e'] at e; cases e; exact ⟨rfl, rfl⟩
theorem ins_no {C dx : Addr} {fs : Flds} {o : HO} (e : o = .ins C dx fs) : (∀ ys, o ≠ .tup ys) ∧ ∀ ob u, o ≠ .frz ob u := by
  subst e
  exact ⟨fun _ q => (by cases q), fun _ _ q => (by cases q)⟩
theorem Chain.Ok.next {ch : Chain} (h : ch.Ok) (he : ch.ended = false) : ch.next.Ok := by
  cases ch with
  | frac t b =>
    have hb : b ≠ 0 := fun z => by subst z; cases he
    exact ⟨h.2, small_fm h.2 hb⟩
  | root t s b r => exact root_next h
  | ruled ps ring steps i => exact h
def sp_Leaf_ask (A : Ad) (K : PySem.W.Frag) : Sp := fun vs H Q _ => ∃ (a c m : Addr) (ch : Chain) (l s : Int), vs = [.ref a, .ref m] ∧ LeafAt A K H a c ch ∧ ch.Ok ∧ MeterAt A H m l s ∧ a ≠ c ∧ a ≠ m ∧ c ≠ m ∧
  ∀ v H', LeafAt A K H' a c (ch.then_ l) → MeterAt A H' m (l - ch.took l) (s + ch.took l) → (ch.ans l).At A H' v → (∀ b o, H b = some o → b ≠ c → b ≠ m → H' b = some o) → Q v H'
theorem ok_Leaf_ask (T : CT K mg A) (D : DT K mg A) : MOk P w K mg base CX0 2 A.c_Leaf "ask" ["self", "meter"] (sp_Leaf_ask A K) := by
  have M1 := ok_FractionChain_has_ended (P := P) (w := w) (base := base) T D
  have M2 := ok_RootChain_has_ended (P := P) (w := w) (base := base) T D
  have M3 := ok_RuledChain_has_ended (P := P) (w := w) (base := base) T D
  have N1 := ok_FractionChain_next_part (P := P) (w := w) (base := base) T D
  have N2 := ok_RootChain_next_part (P := P) (w := w) (base := base) T D
  have N3 := ok_RuledChain_next_part (P := P) (w := w) (base := base) T D
  have M_pay := ok_Meter_pay (P := P) (w := w) (base := base) T D
  refine MOk.of T.cl_Leaf D.Leaf_ask fun f fd F => ?_
  refine F.ok sc_Leaf_ask (fun vs H Q E h => ?_) (fun cdv Ar outer s H vs Q E hr h => ?_)
  · obtain ⟨a, c, m, ch, l, sp, rfl, _⟩ := h
    rfl
  · obtain ⟨a, c, m, ch, l, sp, rfl, ⟨⟨dx, ha⟩, hc⟩, ok, ⟨dm, hm⟩, nac, nam, ncm, k⟩ := h
    refine ⟨_, (C8.pss_cut (ps_if (pt_val ((pe_alt (pe_m0 M1 (hr.mono (by decide)) (pe_fld (pv 0) rfl)) (pe_alt (pe_m0 M2 (hr.mono (by decide)) (pe_fld (pv 0) rfl)) (pe_m0 M3 (hr.mono (by decide)) (pe_fld (pv 0) rfl))))))
      (pss_one (ps_ret (pe_glob (v := .ref A.k_END) (by rfl) T.g_END rfl))) pss_nil)
    (pss_cons (ps_if (pt_cmpR op_lt (pe_fld (pv 1) rfl) pe_int (nomark _))
      (pss_one (ps_ret (pe_glob (v := .ref A.k_WAITS) (by rfl) T.g_WAITS rfl))) pss_nil)
    (pss_cons (ps_expr (pe_m0 M_pay (hr.mono (by first | decide | omega)) (pv 1)))
    (pss_one (ps_ret (pe_tup (pa_cons pe_str (pa_cons ((pe_alt (pe_m0 N1 (hr.mono (by decide)) (pe_fld (pv 0) rfl)) (pe_alt (pe_m0 N2 (hr.mono (by decide)) (pe_fld (pv 0) rfl)) (pe_m0 N3 (hr.mono (by decide)) (pe_fld (pv 0) rfl))))) pa_nil)))))))), ?_⟩
    have cl := T.cl_Leaf
    obtain ⟨C, dc, fs, hcs⟩ := hc.there
    obtain ⟨lk1, lk2⟩ := hc.cls hcs
    refine ⟨fun σ H2 => σ = [some (.ref a), some (.ref m)] ∧ H2 = H ∧ ch.ended = false, ?_, ?_⟩
    · -- has it ended
      have two : ∀ {b : Bool}, b = ch.ended → (if b = true then tRet (tC (V.ref A.k_END)) { nx := fun σ H2 => σ = [some (.ref a), some (.ref m)] ∧ H2 = H ∧ ch.ended = false, rt := Q } [some (.ref a), some (.ref m)] H else tNext { nx := fun σ H2 => σ = [some (.ref a), some (.ref m)] ∧ H2 = H ∧ ch.ended = false, rt := Q } [some (.ref a), some (.ref m)] H) := fun {b} e => by
        subst e
        cases he : ch.ended with
        | true =>
          rw [if_pos rfl]
          have e1 : ch.ans l = .fin := by unfold Chain.ans; rw [if_pos he]
          have e2 : ch.then_ l = ch := by unfold Chain.then_; rw [if_pos he]
          have e3 : ch.took l = 0 := by unfold Chain.took; rw [if_pos he]
          refine k _ H ?_ ?_ ?_ (fun b o e _ _ => e)
          · rw [e2]; exact ⟨⟨dx, ha⟩, hc⟩
          · rw [e3, Int.sub_zero, Int.add_zero]; exact ⟨dm, hm⟩
          · rw [e1]; rfl
        | false =>
          rw [if_neg (by decide)]
          exact ⟨rfl, rfl, rfl⟩
      cases ch with
      | frac t b =>
        obtain ⟨dc', hc'⟩ := id hc
        exact .inl ⟨_, rfl, a, _, dx, _, _, rfl, ha, cl, T.n_Leaf_chain, rfl, c, dc', _, rfl, hc', rfl, c, t, b, rfl, hc, _, rfl, two rfl⟩
      | root t s b r =>
        obtain ⟨dc', hc'⟩ := id hc
        exact .inr (.inl ⟨_, rfl, a, _, dx, _, _, rfl, ha, cl, T.n_Leaf_chain, rfl, c, dc', _, rfl, hc', rfl, c, rfl, _, rfl, two rfl⟩)
      | ruled ps ring steps i =>
        obtain ⟨dc', p, q, u, hc', _⟩ := id hc
        exact .inr (.inr ⟨_, rfl, a, _, dx, _, _, rfl, ha, cl, T.n_Leaf_chain, rfl, c, dc', _, rfl, hc', rfl, c, ps, ring, steps, i, rfl, hc, _, rfl, two rfl⟩)
    · rintro σ H2 ⟨rfl, rfl, he⟩
      refine ⟨_, rfl, m, _, dm, _, _, rfl, hm, T.cl_Meter, T.n_Meter_left, rfl, _, _, rfl, rfl, _, rfl, ite2 (fun cl1 => ?_) (fun cl1 => ?_)⟩
      · have hl : l < 1 := of_decide_eq_true cl1
        have e1 : ch.ans l = .waits := by unfold Chain.ans; rw [he, if_neg (by decide), if_pos hl]
        have e2 : ch.then_ l = ch := by unfold Chain.then_; rw [he, if_neg (by decide), if_pos hl]
        have e3 : ch.took l = 0 := by unfold Chain.took; rw [he, if_neg (by decide), if_pos hl]
        refine k _ _ ?_ ?_ ?_ (fun b o e _ _ => e)
        · rw [e2]; exact ⟨⟨dx, ha⟩, hc⟩
        · rw [e3, Int.sub_zero, Int.add_zero]; exact ⟨dm, hm⟩
        · rw [e1]; rfl
      · have hl : ¬ l < 1 := fun z => cl1 (decide_eq_true z)
        have e1 : ch.ans l = .part ch.part := by unfold Chain.ans; rw [he, if_neg (by decide), if_neg hl]
        have e2 : ch.then_ l = ch.next := by unfold Chain.then_; rw [he, if_neg (by decide), if_neg hl]
        have e3 : ch.took l = 1 := by unfold Chain.took; rw [he, if_neg (by decide), if_neg hl]
        rw [e1, e2, e3] at k
        -- pay
        refine ⟨_, rfl, m, dm, _, rfl, hm, rfl, m, dm, l, sp, rfl, hm, ?_⟩
        have kp1 : ∀ b o, H2 b = some o → b ≠ m → (upd H2 m (.ins A.c_Meter dm (meF (l - 1) (sp + 1)))) b = some o := fun b o e hb => by rw [upd_ne hb]; exact e
        have hc1 : Chain.At A K (upd H2 m (.ins A.c_Meter dm (meF (l - 1) (sp + 1)))) c ch := hc.kept (N := fun b => b = m) ncm kp1 fun b o e z => by subst e; rw [hm] at z; exact ins_no (Option.some.inj z).symm
        have ha1 := kp1 a _ ha nam
        have hm1 : (upd H2 m (.ins A.c_Meter dm (meF (l - 1) (sp + 1)))) m = some (.ins A.c_Meter dm (meF (l - 1) (sp + 1))) := upd_same
        have hcs1 := kp1 c _ hcs ncm
        generalize upd H2 m (.ins A.c_Meter dm (meF (l - 1) (sp + 1))) = H3 at *
        have fin : ∀ H4, Chain.At A K H4 c ch.next → (∀ b o, H3 b = some o → b ≠ c → H4 b = some o) → ∀ p, H4 p = none → Q (.ref p) (upd H4 p (.tup [.str "part", .int ch.part])) := fun H4 hn kp4 p np => by
          have s5 := same_upd (o := .tup [V.str "part", .int ch.part]) np
          refine k _ _ ⟨⟨dx, s5 _ _ (kp4 a _ ha1 nac)⟩, hn.same s5⟩ ⟨dm, s5 _ _ (kp4 m _ hm1 (Ne.symm ncm))⟩ ⟨p, rfl, upd_same⟩ fun b o e hb hb2 => s5 _ _ (kp4 b o (kp1 b o e hb2) hb)
        have two : (2 : Nat) ≤ sizeLine := by decide
        cases ch with
        | frac t b =>
          obtain ⟨dc', hc'⟩ := id hc1
          have hb : b ≠ 0 := fun z => by subst z; cases he
          exact .inl ⟨_, rfl, a, _, dx, _, _, rfl, ha1, cl, T.n_Leaf_chain, rfl, c, dc', _, rfl, hc', rfl, c, t, b, rfl, hc1, hb, ok.1, ok.2, fun H4 hn kp4 => ⟨two, fun p np => fin H4 hn kp4 p np⟩⟩
        | root t s b r =>
          obtain ⟨dc', hc'⟩ := id hc1
          exact .inr (.inl ⟨_, rfl, a, _, dx, _, _, rfl, ha1, cl, T.n_Leaf_chain, rfl, c, dc', _, rfl, hc', rfl, c, t, s, b, r, rfl, hc1, ok, fun H4 hn kp4 => ⟨two, fun p np => fin H4 hn kp4 p np⟩⟩)
        | ruled ps ring steps i =>
          obtain ⟨dc', p, q, u, hc', _⟩ := id hc1
          have hne : ring = [] → i < ps.length := fun z => by
            subst z
            have he' : decide (ps.length ≤ i) = false := he
            have := of_decide_eq_false he'
            omega
          exact .inr (.inr ⟨_, rfl, a, _, dx, _, _, rfl, ha1, cl, T.n_Leaf_chain, rfl, c, dc', _, rfl, hc', rfl, c, ps, ring, steps, i, rfl, hc1, ok, hne, fun H4 hn kp4 => ⟨two, fun p np => fin H4 hn kp4 p np⟩⟩)
theorem ok_Leaf_init (T : CT K mg A) (D : DT K mg A) : IOk P w K mg base 1 "Leaf" A.c_Leaf ["self", "chain"] (sp_ini A.c_Leaf 1 fun us => [("chain", us.getD 0 .non)]) := by
  refine IOk.of T.g_Leaf D.Leaf_init fun f fd F => ?_
  refine F.ok sc_Leaf_init (fun vs H Q E h => ?_) (fun cdv Ar outer s H vs Q E hr h => ?_)
  · obtain ⟨p, dx, us, rfl, hl, _⟩ := h
    show us.length + 1 = 2
    omega
  · obtain ⟨p, dx, us, rfl, hl, hp, k⟩ := h
    match us, hl with
    | [u0], _ =>
      refine ⟨_, (pss_one (ps_fld (pv 0) (pv 1) rfl)), ?_⟩
      exact ⟨_, rfl, _, rfl, p, _, dx, [], rfl, hp, T.cl_Leaf, T.n_Leaf_chain, (by show 0 < 1000; decide), k⟩
/-! trees of one leaf -/
inductive Leaf where
  | frac (t b : Int) | root (t s b : Int) | ruled (ps ring steps : List Int)
def Leaf.At (K : PySem.W.Frag) (H : Hp) (a : Addr) : Leaf → Prop
  | .frac t b => SqT K H a [.str "fraction", .int t, .int b]
  | .root t s b => SqT K H a [.str "root", .int t, .int s, .int b]
  | .ruled ps ring steps => ∃ p q u, SqT K H a [.str "ruled", .ref p, .ref q, .ref u] ∧ SqT K H p (ps.map V.int) ∧ SqT K H q (ring.map V.int) ∧ SqT K H u (steps.map V.int)
def Leaf.Good : Leaf → Prop
  | .frac t b => tame t ∧ tame b ∧ b ≠ 0
  | .root t s b => tame t ∧ tame s ∧ 0 ≤ s ∧ tame b ∧ b ≠ 0
  | .ruled ps ring steps => RuledGood ps ring steps
/-- the chain that a leaf begins with -/
def Leaf.Starts : Leaf → Chain → Prop
  | .frac t b, ch => ch = .frac t b
  | .root t s b, ch => ∃ r, IsRoot s r ∧ ((r * r = s ∧ ch = .frac (t + r) b) ∨ (r * r ≠ s ∧ ∃ q, IsRoot (s * (b.natAbs : Int) * (b.natAbs : Int)) q ∧ ch = .root (t * (b.natAbs : Int)) (s * (b.natAbs : Int) * (b.natAbs : Int)) (b * (b.natAbs : Int)) q))
  | .ruled ps ring steps, ch => ch = .ruled ps ring steps 0
theorem Leaf.At.same {H H' : Hp} {a : Addr} {f : Leaf} (h : f.At K H a) (k : Same H H') : f.At K H' a := by
  cases f with
  | frac t b => exact sqT_same h k
  | root t s b => exact sqT_same h k
  | ruled ps ring steps =>
    obtain ⟨p, q, u, e, hp, hq, hu⟩ := h
    exact ⟨p, q, u, sqT_same e k, sqT_same hp k, sqT_same hq k, sqT_same hu k⟩
/-- two new objects: an instance and its own dict -/
theorem made_same {H : Hp} {x dx : Addr} {o o' : HO} (nx : H x = none) (nd : H dx = none) : Same H (upd (upd H dx o) x o') := fun b u e => by
  rw [upd_ne (ne_of_none e nx), upd_ne (ne_of_none e nd)]
  exact e
def sp_root_chain (A : Ad) (K : PySem.W.Frag) : Sp := fun vs H Q _ => ∃ (t s b : Int), vs = [.int t, .int s, .int b] ∧ Leaf.Good (.root t s b) ∧
  ∀ c ch H', Chain.At A K H' c ch → Leaf.Starts (.root t s b) ch → ch.Ok → Same H H' → H c = none → Q (.ref c) H'
theorem ok_root_chain (T : CT K mg A) (D : DT K mg A) : COk P w K mg base CX0 4 "root_chain" ["top", "square", "below"] (sp_root_chain A K) := by
  have G_root_below : COk P w K mg base CX0 1 "root_below" ["number"] sp_root_below := COk.by D.root_below fun f fd F => ok_root_below F
  have I_FractionChain := ok_FractionChain_init (P := P) (w := w) (base := base) T D
  have I_RootChain := ok_RootChain_init (P := P) (w := w) (base := base) T D G_root_below root_there
  refine COk.by D.root_chain fun f fd F => ?_
  refine F.ok sc_root_chain (fun vs H Q E h => ?_) (fun cdv Ar outer s H vs Q E hr h => ?_)
  · obtain ⟨t, s, b, rfl, _⟩ := h
    rfl
  · obtain ⟨t, sq, b, rfl, ⟨ht, hs, hs0, hb, hb0⟩, k⟩ := h
    refine ⟨_, (pss_cons (ps_set (i := 3) sc_root_chain.nd rfl (Or.inl rfl) (pe_c G_root_below (hr.mono (by first | decide | omega)) (pa_cons (pv 1) pa_nil)))
    (pss_cons (ps_if (pt_cmpR op_eq (pe_op op_mul (pv 3) (pv 3)) (pv 1) (nomark _))
      (pss_one (ps_ret (pe_mk I_FractionChain (hr.mono (by first | decide | omega)) (pa_cons (pe_op op_add (pv 0) (pv 3)) (pa_cons (pv 2) pa_nil))))) pss_nil)
    (pss_one (ps_ret (pe_mk I_RootChain (hr.mono (by first | decide | omega)) (pa_cons (pv 0) (pa_cons (pv 1) (pa_cons (pv 2) pa_nil)))))))), ?_⟩
    obtain ⟨s1, s2⟩ := id hs
    obtain ⟨t1, t2⟩ := id ht
    refine ⟨_, rfl, sq, rfl, hs0, Int.lt_of_le_of_lt s2 (by decide +kernel), fun r hr0 => ?_⟩
    have r1 : r < 2 ^ 20 := lt_of_sq (k := 20) hr0.1 hr0.2.1 (Int.lt_of_le_of_lt s2 (by decide))
    have p20 : (2 : Int) ^ 20 = 1048576 := by decide
    have r0 := hr0.1
    have p64 : (2 : Int) ^ 64 = 18446744073709551616 := by decide
    have w64 : -(2 ^ 64) < r ∧ r < 2 ^ 64 := ⟨by omega, by omega⟩
    refine ⟨_, rfl, _, rfl, _, _, rfl, rfl, .inl w64, _, rfl, rfl, _, rfl, ite2 (fun c => ?_) (fun c => ?_)⟩
    · have e : r * r = sq := V.int.inj (of_decide_eq_true c)
      refine ⟨_, rfl, _, rfl, _, _, rfl, rfl, _, rfl, fun x dx nx nd ne => ?_⟩
      refine ⟨x, dx, [.int (t + r), .int b], rfl, rfl, upd_same, rfl, ?_⟩
      rw [upd_upd]
      refine k x (.frac (t + r) b) _ ⟨dx, upd_same⟩ ⟨r, hr0, .inl ⟨e, rfl⟩⟩ ⟨?_, small_tame hb⟩ (made_same nx nd) nx
      have p40 : (2 : Nat) ^ 41 = 2199023255552 := by decide
      exact Nat.lt_trans (show (t + r).natAbs < 2 ^ 41 by omega) (Nat.pow_lt_pow_right (by decide) (by decide))
    · have e : r * r ≠ sq := fun z => c (decide_eq_true (congrArg V.int z))
      refine ⟨_, rfl, _, rfl, _, rfl, fun x dx nx nd ne => ?_⟩
      refine ⟨x, dx, t, sq, b, rfl, upd_same, ht, hs0, s2, hb, hb0, (fun r' hr' => by rw [hr'.unique hr0]; exact e), fun q hq => ⟨rfl, ?_⟩⟩
      rw [upd_upd]
      exact k x (.root _ _ _ q) _ ⟨dx, upd_same⟩ ⟨r, hr0, .inr ⟨e, q, hq.rt, rfl⟩⟩ hq (made_same nx nd) nx
/-- a new leaf -/
def sp_leaf_of (A : Ad) (K : PySem.W.Frag) : Sp := fun vs H Q _ => ∃ (v : Addr) (f : Leaf), vs = [.ref v] ∧ f.At K H v ∧ f.Good ∧
  ∀ a c ch H', LeafAt A K H' a c ch → f.Starts ch → ch.Ok → Same H H' → H a = none → H c = none → a ≠ c → Q (.ref a) H'
theorem ok_leaf_of (T : CT K mg A) (D : DT K mg A) : COk P w K mg base CX0 5 "leaf_of" ["tree"] (sp_leaf_of A K) := by
  have G_root_chain := ok_root_chain (P := P) (w := w) (base := base) T D
  have I_FractionChain := ok_FractionChain_init (P := P) (w := w) (base := base) T D
  have I_RuledChain := ok_RuledChain_init (P := P) (w := w) (base := base) T D
  have I_Leaf := ok_Leaf_init (P := P) (w := w) (base := base) T D
  refine COk.by D.leaf_of fun f fd F => ?_
  refine F.ok sc_leaf_of (fun vs H Q E h => ?_) (fun cdv Ar outer s H vs Q E hr h => ?_)
  · obtain ⟨v, f, rfl, _⟩ := h
    rfl
  · obtain ⟨v, f, rfl, hf, hg, k⟩ := h
    refine ⟨_, (pss_cons (ps_if (pt_cmpR op_eq (pe_ix ix_tup (pv 0) pe_int (fun _ _ => rfl)) pe_str (nomark _))
      (pss_one (ps_ret (pe_mk I_Leaf (hr.mono (by first | decide | omega)) (pa_cons (pe_mk I_FractionChain (hr.mono (by first | decide | omega)) (pa_cons (pe_ix ix_tup (pv 0) pe_int (fun _ _ => rfl)) (pa_cons (pe_ix ix_tup (pv 0) pe_int (fun _ _ => rfl)) pa_nil))) pa_nil)))) pss_nil)
    (pss_cons (ps_if (pt_cmpR op_eq (pe_ix ix_tup (pv 0) pe_int (fun _ _ => rfl)) pe_str (nomark _))
      (pss_one (ps_ret (pe_mk I_Leaf (hr.mono (by first | decide | omega)) (pa_cons (pe_c G_root_chain (hr.mono (by first | decide | omega)) (pa_cons (pe_ix ix_tup (pv 0) pe_int (fun _ _ => rfl)) (pa_cons (pe_ix ix_tup (pv 0) pe_int (fun _ _ => rfl)) (pa_cons (pe_ix ix_tup (pv 0) pe_int (fun _ _ => rfl)) pa_nil)))) pa_nil)))) pss_nil)
    (pss_one (ps_ret (pe_mk I_Leaf (hr.mono (by first | decide | omega)) (pa_cons (pe_mk I_RuledChain (hr.mono (by first | decide | omega)) (pa_cons (pe_ix ix_tup (pv 0) pe_int (fun _ _ => rfl)) (pa_cons (pe_ix ix_tup (pv 0) pe_int (fun _ _ => rfl)) (pa_cons (pe_ix ix_tup (pv 0) pe_int (fun _ _ => rfl)) pa_nil)))) pa_nil)))))), ?_⟩
    have fin : ∀ c ch H1, Chain.At A K H1 c ch → f.Starts ch → ch.Ok → Same H H1 → H c = none → ∀ x dx, H1 x = none → H1 dx = none → dx ≠ x → Q (.ref x) (upd (upd (upd H1 dx (.own x)) x (.ins A.c_Leaf dx [])) x (.ins A.c_Leaf dx (leF c))) := fun c ch H1 hc st ok sm nc x dx nx nd ne => by
      rw [upd_upd]
      have s2 := made_same (o := .own x) (o' := .ins A.c_Leaf dx (leF c)) nx nd
      obtain ⟨C, d, fs, e⟩ := hc.there
      exact k x c ch _ ⟨⟨dx, upd_same⟩, hc.same s2⟩ st ok (sm.trans s2) (sm.free nx) nc (ne_of_none e nx).symm
    cases f with
    | frac t b =>
      refine ⟨_, rfl, v, _, 0, _, rfl, rfl, hf, atI_nat (j := 0) rfl, rfl, _, rfl, ?_⟩
      refine iteT ⟨_, rfl, v, _, 1, _, rfl, rfl, hf, atI_nat (j := 1) rfl, _, rfl, v, _, 2, _, rfl, rfl, hf, atI_nat (j := 2) rfl, fun x dx nx nd ne => ?_⟩
      refine ⟨x, dx, [.int t, .int b], rfl, rfl, upd_same, rfl, ?_⟩
      rw [upd_upd]
      intro x2 dx2 nx2 nd2 ne2
      exact ⟨x2, dx2, [.ref x], rfl, rfl, upd_same, rfl, fin x (.frac t b) _ ⟨dx, upd_same⟩ rfl ⟨small_tame hg.1, small_tame hg.2.1⟩ (made_same nx nd) nx x2 dx2 nx2 nd2 ne2⟩
    | root t sq b =>
      refine ⟨_, rfl, v, _, 0, _, rfl, rfl, hf, atI_nat (j := 0) rfl, rfl, _, rfl, ?_⟩
      refine iteF ⟨_, rfl, v, _, 0, _, rfl, rfl, hf, atI_nat (j := 0) rfl, rfl, _, rfl, ?_⟩
      refine iteT ⟨_, rfl, v, _, 1, _, rfl, rfl, hf, atI_nat (j := 1) rfl, _, rfl, v, _, 2, _, rfl, rfl, hf, atI_nat (j := 2) rfl, _, rfl, v, _, 3, _, rfl, rfl, hf, atI_nat (j := 3) rfl, t, sq, b, rfl, hg, fun c ch H1 hc st ok sm nc => ?_⟩
      intro x2 dx2 nx2 nd2 ne2
      exact ⟨x2, dx2, [.ref c], rfl, rfl, upd_same, rfl, fin c ch H1 hc st ok sm nc x2 dx2 nx2 nd2 ne2⟩
    | ruled ps ring steps =>
      obtain ⟨p, q, u, hv, hp, hq, hu⟩ := hf
      refine ⟨_, rfl, v, _, 0, _, rfl, rfl, hv, atI_nat (j := 0) rfl, rfl, _, rfl, ?_⟩
      refine iteF ⟨_, rfl, v, _, 0, _, rfl, rfl, hv, atI_nat (j := 0) rfl, rfl, _, rfl, ?_⟩
      refine iteF ⟨_, rfl, v, _, 1, _, rfl, rfl, hv, atI_nat (j := 1) rfl, _, rfl, v, _, 2, _, rfl, rfl, hv, atI_nat (j := 2) rfl, _, rfl, v, _, 3, _, rfl, rfl, hv, atI_nat (j := 3) rfl, fun x dx nx nd ne => ?_⟩
      refine ⟨x, dx, [.ref p, .ref q, .ref u], rfl, rfl, upd_same, rfl, ?_⟩
      rw [upd_upd]
      intro x2 dx2 nx2 nd2 ne2
      have s1 := made_same (o := .own x) (o' := .ins A.c_RuledChain dx (ruF p q u 0)) nx nd
      exact ⟨x2, dx2, [.ref x], rfl, rfl, upd_same, rfl, fin x (.ruled ps ring steps 0) _ ⟨dx, p, q, u, upd_same, sqT_same hp s1, sqT_same hq s1, sqT_same hu s1⟩ rfl hg.toRuledOk s1 nx x2 dx2 nx2 nd2 ne2⟩
end
/-! ### readings -/
section
variable {P : Program} {w : World} {K : PySem.W.Frag} {mg : Str → Option Value} {base : Heap} {A : Ad}
def sp_Reading_init (A : Ad) : Sp := fun vs H Q _ => ∃ (p dx : Addr) (b : Addr), vs = [.ref p, .ref b] ∧ H p = some (.ins A.c_Reading dx []) ∧
  ∀ m H', H m = none → H' p = some (.ins A.c_Reading dx (reF b m)) → MeterAt A H' m 0 0 → (∀ c o, H c = some o → c ≠ p → H' c = some o) → Q .non H'
theorem ok_Reading_init (T : CT K mg A) (D : DT K mg A) : IOk P w K mg base 3 "Reading" A.c_Reading ["self", "box"] (sp_Reading_init A) := by
  have I_Meter := ok_Meter_init (P := P) (w := w) (base := base) T D
  refine IOk.of T.g_Reading D.Reading_init fun f fd F => ?_
  refine F.ok sc_Reading_init (fun vs H Q E h => ?_) (fun cdv Ar outer s H vs Q E hr h => ?_)
  · obtain ⟨p, dx, b, rfl, _⟩ := h
    rfl
  · obtain ⟨p, dx, b, rfl, hp, k⟩ := h
    refine ⟨_, (pss_cons (ps_fld (pv 0) (pv 1) rfl)
    (pss_one (ps_fld (pv 0) (pe_mk0 I_Meter (hr.mono (by first | decide | omega))) rfl))), ?_⟩
    refine ⟨_, rfl, _, rfl, p, _, dx, [], rfl, hp, T.cl_Reading, T.n_Reading_box, (by show 0 < 1000; decide), ?_⟩
    intro m dm nm ndm ne
    refine ⟨m, dm, [], rfl, rfl, upd_same, rfl, ?_⟩
    rw [upd_upd]
    have h1 : (upd H p (.ins A.c_Reading dx (putF "box" (.ref b) []))) p = some (.ins A.c_Reading dx [("box", .ref b)]) := upd_same
    have s1 := made_same (o := .own m) (o' := .ins A.c_Meter dm (meF 0 0)) nm ndm
    have hpm : p ≠ m := ne_of_none h1 nm
    refine ⟨_, rfl, p, _, dx, _, rfl, s1 _ _ h1, T.cl_Reading, T.n_Reading_meter, (by show 1 < 1000; decide), ?_⟩
    refine k m _ ?_ upd_same ⟨dm, by rw [upd_ne hpm.symm, upd_same]⟩ fun c o e hc => ?_
    · rw [upd_ne hpm.symm] at nm
      exact nm
    · rw [upd_ne hc]
      exact s1 _ _ (by rw [upd_ne hc]; exact e)
theorem ok_Reading_took (T : CT K mg A) (D : DT K mg A) : MOk P w K mg base CX0 1 A.c_Reading "took" ["self"] (fun vs H Q _ => ∃ r rx b m dm l s, vs = [.ref r] ∧ H r = some (.ins A.c_Reading rx (reF b m)) ∧ H m = some (.ins A.c_Meter dm (meF l s)) ∧ Q (.int s) H) := by
  refine MOk.of T.cl_Reading D.Reading_took fun f fd F => ?_
  refine F.ok sc_Reading_took (fun vs H Q E h => ?_) (fun cdv Ar outer s H vs Q E hr h => ?_)
  · obtain ⟨r, rx, b, m, dm, l, s, rfl, _⟩ := h
    rfl
  · obtain ⟨r, rx, b, m, dm, l, sp, rfl, hr0, hm, k⟩ := h
    refine ⟨_, (pss_one (ps_ret (pe_fld (pe_fld (pv 0) rfl) rfl))), ?_⟩
    exact ⟨_, rfl, r, _, rx, _, _, rfl, hr0, T.cl_Reading, T.n_Reading_meter, rfl, m, _, dm, _, _, rfl, hm, T.cl_Meter, T.n_Meter_spent, rfl, k⟩
/-- a reading asks its box, of the class at C -/
def sp_part (A : Ad) (C : Addr) (spA : Sp) : Sp := fun vs H Q _ => ∃ (r rx b m dm db : Addr) (fb : Flds) (l s n : Int), vs = [.ref r, .int n] ∧ H r = some (.ins A.c_Reading rx (reF b m)) ∧ H m = some (.ins A.c_Meter dm (meF l s)) ∧ r ≠ m ∧ b ≠ m ∧ H b = some (.ins C db fb) ∧ fb.lookup ("ask" : Str) = none ∧
  spA [.ref b, .ref m] (upd H m (.ins A.c_Meter dm (meF n s))) Q E0
theorem ok_Reading_part {k : Nat} {C : Addr} {spA : Sp} (T : CT K mg A) (D : DT K mg A) (hk : 1 ≤ k) (M_ask : MOk P w K mg base CX0 k C "ask" ["self", "meter"] spA) : MOk P w K mg base CX0 (k + 1) A.c_Reading "part" ["self", "most"] (sp_part A C spA) := by
  have M_allow := ok_Meter_allow (P := P) (w := w) (base := base) T D
  refine MOk.of T.cl_Reading D.Reading_part fun f fd F => ?_
  refine F.ok sc_Reading_part (fun vs H Q E h => ?_) (fun cdv Ar outer s H vs Q E hr h => ?_)
  · obtain ⟨r, rx, b, m, dm, db, fb, l, s, n, rfl, _⟩ := h
    rfl
  · obtain ⟨r, rx, b, m, dm, db, fb, l, sp, n, rfl, hr0, hm, nrm, nbm, hb, lk, q⟩ := h
    refine ⟨_, (pss_cons (ps_expr (pe_m M_allow (hr.mono (by first | decide | omega)) (pe_fld (pv 0) rfl) (pa_cons (pv 1) pa_nil)))
    (pss_one (ps_ret (pe_m M_ask (hr.mono (by first | decide | omega)) (pe_fld (pv 0) rfl) (pa_cons (pe_fld (pv 0) rfl) pa_nil))))), ?_⟩
    have cl := T.cl_Reading
    refine ⟨_, rfl, r, _, rx, _, _, rfl, hr0, cl, T.n_Reading_meter, rfl, m, dm, _, rfl, hm, rfl, _, rfl, m, dm, l, sp, n, rfl, hm, ?_⟩
    have hr1 : (upd H m (.ins A.c_Meter dm (meF n sp))) r = some (.ins A.c_Reading rx (reF b m)) := by rw [upd_ne nrm]; exact hr0
    have hb1 : (upd H m (.ins A.c_Meter dm (meF n sp))) b = some (.ins C db fb) := by rw [upd_ne nbm]; exact hb
    exact ⟨_, rfl, r, _, rx, _, _, rfl, hr1, cl, T.n_Reading_box, rfl, b, db, fb, rfl, hb1, lk, _, rfl, r, _, rx, _, _, rfl, hr1, cl, T.n_Reading_meter, rfl, q⟩
/-! a reading of a leaf -/
structure ReadAt (A : Ad) (K : PySem.W.Frag) (H : Hp) (r a c m : Addr) (ch : Chain) (l s : Int) : Prop where
  rd : ∃ rx, H r = some (.ins A.c_Reading rx (reF a m))
  lf : LeafAt A K H a c ch
  mt : MeterAt A H m l s
  ra : r ≠ a
  rc : r ≠ c
  rm : r ≠ m
  ac : a ≠ c
  am : a ≠ m
  cm : c ≠ m
  ok : ch.Ok
theorem ReadAt.same {H H' : Hp} {r a c m : Addr} {ch : Chain} {l s : Int} (R : ReadAt A K H r a c m ch l s) (k : Same H H') : ReadAt A K H' r a c m ch l s := by
  obtain ⟨⟨rx, e⟩, ⟨⟨dx, e2⟩, hc⟩, ⟨dm, e3⟩, ra, rc, rm, ac, am, cm, ok⟩ := R
  exact ⟨⟨rx, k _ _ e⟩, ⟨⟨dx, k _ _ e2⟩, hc.same k⟩, ⟨dm, k _ _ e3⟩, ra, rc, rm, ac, am, cm, ok⟩
/-- another list is written -/
theorem ReadAt.put {H : Hp} {r a c m d : Addr} {ch : Chain} {l s : Int} {xs ys : List V} (R : ReadAt A K H r a c m ch l s) (hd : H d = some (.lst xs)) (_ : d ≠ c) (_ : d ≠ m) : ReadAt A K (upd H d (.lst ys)) r a c m ch l s := by
  obtain ⟨⟨rx, e⟩, ⟨⟨dx, e2⟩, hc⟩, ⟨dm, e3⟩, ra, rc, rm, ac, am, cm, ok⟩ := R
  have k : ∀ b o, H b = some o → ¬ b = d → (upd H d (.lst ys)) b = some o := fun b o z n => by rw [upd_ne n]; exact z
  have ne : ∀ {b C dx fs}, H b = some (.ins C dx fs) → b ≠ d := fun {b C dx fs} z => ne_of z hd (by intro q; cases q)
  obtain ⟨C, dc, fs, e4⟩ := hc.there
  refine ⟨⟨rx, k _ _ e (ne e)⟩, ⟨⟨dx, k _ _ e2 (ne e2)⟩, hc.kept (N := fun b => b = d) (ne e4) k fun b o z y => ?_⟩, ⟨dm, k _ _ e3 (ne e3)⟩, ra, rc, rm, ac, am, cm, ok⟩
  subst z
  rw [hd] at y
  cases y
  exact ⟨fun _ q => (by cases q), fun _ _ q => (by cases q)⟩
/-- one asking of a leaf's reading -/
def sp_part_leaf (A : Ad) (K : PySem.W.Frag) : Sp := fun vs H Q _ => ∃ (r a c m : Addr) (ch : Chain) (l s n : Int), vs = [.ref r, .int n] ∧ ReadAt A K H r a c m ch l s ∧
  ∀ v H', ReadAt A K H' r a c m (ch.then_ n) (n - ch.took n) (s + ch.took n) → (ch.ans n).At A H' v → (∀ b o, H b = some o → b ≠ c → b ≠ m → H' b = some o) → Q v H'
theorem Chain.Ok.then_ {ch : Chain} (h : ch.Ok) (n : Int) : (ch.then_ n).Ok := by
  unfold Chain.then_
  split
  · exact h
  · split
    · exact h
    · rename_i h1 _
      exact h.next (by rw [Bool.not_eq_true] at h1; exact h1)
theorem ok_part_leaf (T : CT K mg A) (D : DT K mg A) : MOk P w K mg base CX0 3 A.c_Reading "part" ["self", "most"] (sp_part_leaf A K) := by
  obtain ⟨cl, f, fd, F, M, B⟩ := ok_Reading_part (P := P) (w := w) (base := base) T D (by decide) (ok_Leaf_ask T D)
  refine ⟨cl, f, fd, F.imp fun vs H Q E h => ?_, M, B⟩
  obtain ⟨r, a, c, m, ch, l, s, n, rfl, R, k⟩ := h
  obtain ⟨⟨rx, e⟩, ⟨⟨dx, e2⟩, hc⟩, ⟨dm, e3⟩, ra, rc, rm, ac, am, cm, ok⟩ := R
  refine ⟨r, rx, a, m, dm, dx, leF c, l, s, n, rfl, e, e3, rm, am, e2, rfl, ?_⟩
  have kp : ∀ b o, H b = some o → b ≠ m → (upd H m (.ins A.c_Meter dm (meF n s))) b = some o := fun b o z hb => by rw [upd_ne hb]; exact z
  have hc1 : Chain.At A K (upd H m (.ins A.c_Meter dm (meF n s))) c ch := hc.kept (N := fun b => b = m) cm kp fun b o z y => by subst z; rw [e3] at y; exact ins_no (Option.some.inj y).symm
  refine ⟨a, c, m, ch, n, s, rfl, ⟨⟨dx, kp _ _ e2 am⟩, hc1⟩, ok, ⟨dm, upd_same⟩, ac, am, cm, fun v H' hl hm ha k2 => ?_⟩
  exact k v H' ⟨⟨rx, k2 _ _ (kp _ _ e rm) rc rm⟩, hl, hm, ra, rc, rm, ac, am, cm, ok.then_ n⟩ ha fun b o z hb hb2 => k2 b o (kp b o z hb2) hb hb2
theorem ok_took_leaf (T : CT K mg A) (D : DT K mg A) : MOk P w K mg base CX0 1 A.c_Reading "took" ["self"] (fun vs H Q _ => ∃ r a c m ch l s, vs = [.ref r] ∧ ReadAt A K H r a c m ch l s ∧ Q (.int s) H) := by
  obtain ⟨cl, f, fd, F, M, B⟩ := ok_Reading_took (P := P) (w := w) (base := base) T D
  refine ⟨cl, f, fd, F.imp fun vs H Q E h => ?_, M, B⟩
  obtain ⟨r, a, c, m, ch, l, s, rfl, ⟨⟨rx, e⟩, _, ⟨dm, e3⟩, _⟩, q⟩ := h
  exact ⟨r, rx, a, m, dm, l, s, rfl, e, e3, q⟩
theorem ok_box_of_leaf (T : CT K mg A) (D : DT K mg A) : COk P w K mg base CX0 6 "box_of" ["tree"] (sp_leaf_of A K) := by
  have G_leaf_of := ok_leaf_of (P := P) (w := w) (base := base) T D
  refine COk.by D.box_of fun f fd F => ?_
  refine F.ok sc_box_of (fun vs H Q E h => ?_) (fun cdv Ar outer s H vs Q E hr h => ?_)
  · obtain ⟨v, f, rfl, _⟩ := h
    rfl
  · obtain ⟨v, f, rfl, hf, hg, k⟩ := h
    refine ⟨_, (pss_cons (ps_set (i := 1) sc_box_of.nd rfl (Or.inl rfl) (pe_ix ix_tup (pv 0) pe_int (fun _ _ => rfl)))
    (pss_cons (ps_if (pt_cmpR op_eq (pv 1) pe_str (nomark _))
      (pss_one (ps_never)) pss_nil)
    (pss_cons (ps_if (pt_cmpR op_eq (pv 1) pe_str (nomark _))
      (pss_one (ps_never)) pss_nil)
    (pss_cons (ps_if (pt_cmpR op_eq (pv 1) pe_str (nomark _))
      (pss_one (ps_never)) pss_nil)
    (pss_one (ps_ret (pe_c G_leaf_of (hr.mono (by first | decide | omega)) (pa_cons (pv 0) pa_nil)))))))), ?_⟩
    cases f with
    | frac t b => exact ⟨_, rfl, v, _, 0, _, rfl, rfl, hf, atI_nat (j := 0) rfl, _, rfl, rfl, _, rfl, iteF ⟨_, rfl, rfl, _, rfl, iteF ⟨_, rfl, rfl, _, rfl, iteF ⟨_, rfl, v, .frac t b, rfl, hf, hg, k⟩⟩⟩⟩
    | root t s b => exact ⟨_, rfl, v, _, 0, _, rfl, rfl, hf, atI_nat (j := 0) rfl, _, rfl, rfl, _, rfl, iteF ⟨_, rfl, rfl, _, rfl, iteF ⟨_, rfl, rfl, _, rfl, iteF ⟨_, rfl, v, .root t s b, rfl, hf, hg, k⟩⟩⟩⟩
    | ruled ps ring steps =>
      obtain ⟨p, q, u, hv, h3⟩ := id hf
      exact ⟨_, rfl, v, _, 0, _, rfl, rfl, hv, atI_nat (j := 0) rfl, _, rfl, rfl, _, rfl, iteF ⟨_, rfl, rfl, _, rfl, iteF ⟨_, rfl, rfl, _, rfl, iteF ⟨_, rfl, v, .ruled ps ring steps, rfl, hf, hg, k⟩⟩⟩⟩
def sp_reader_leaf (A : Ad) (K : PySem.W.Frag) : Sp := fun vs H Q _ => ∃ (v : Addr) (f : Leaf), vs = [.ref v] ∧ f.At K H v ∧ f.Good ∧
  ∀ r a c m ch H', ReadAt A K H' r a c m ch 0 0 → f.Starts ch → Same H H' → H r = none → H a = none → H c = none → H m = none → Q (.ref r) H'
theorem ok_reader_leaf (T : CT K mg A) (TT : TB K w mg A) (D : DT K mg A) : COk P w K mg base CX0 7 "reader" ["tree"] (sp_reader_leaf A K) := by
  have G_box_of := ok_box_of_leaf (P := P) (w := w) (base := base) T D
  have I_Reading := ok_Reading_init (P := P) (w := w) (base := base) T D
  have G_at := ok_check_at_depth (P := P) (w := w) (base := base) (k := 3) T TT D (by decide) (ok_check_fraction T D) (ok_check_root T D) (ok_check_ruled T D) (ok_no D.check_four) (ok_no D.check_eight) (ok_no D.check_power)
  have G_check_tree := ok_check_tree D G_at
  refine COk.by D.reader fun f fd F => ?_
  refine F.ok sc_reader (fun vs H Q E h => ?_) (fun cdv Ar outer s H vs Q E hr h => ?_)
  · obtain ⟨v, f, rfl, _⟩ := h
    rfl
  · obtain ⟨v, f, rfl, hf, hg, k⟩ := h
    refine ⟨_, (pss_cons (ps_expr (pe_c G_check_tree (hr.mono (by first | decide | omega)) (pa_cons (pv 0) pa_nil)))
    (pss_one (ps_ret (pe_mk I_Reading (hr.mono (by first | decide | omega)) (pa_cons (pe_c G_box_of (hr.mono (by first | decide | omega)) (pa_cons (pv 0) pa_nil)) pa_nil))))), ?_⟩
    have rest : ∀ H1, Same H H1 → (tRet (tMake A.c_Reading (sp_Reading_init A) [] E0 (tCons (tCall (sp_leaf_of A K) [] E0 (tCons (tVar 0) tNil)) tNil))) { nx := fun _ H' => Q .non H', rt := Q } [some (V.ref v)] H1 := fun H1 s1 => by
      refine ⟨_, rfl, v, f, rfl, hf.same s1, hg, fun a c ch H2 hl st ok s2 na nc nac => ?_⟩
      intro x dx nx nd ne
      refine ⟨x, dx, a, rfl, upd_same, fun m H3 nm hx hm kp => ⟨rfl, ?_⟩⟩
      have s3 : Same H2 H3 := fun b o e => kp b o (by rw [upd_ne (ne_of_none e nx), upd_ne (ne_of_none e nd)]; exact e) (ne_of_none e nx)
      obtain ⟨⟨da, e2⟩, hc⟩ := id hl
      obtain ⟨C, dc, fs, e3⟩ := hc.there
      have nm2 : H2 m = none := by
        cases q : H2 m with
        | none => rfl
        | some o =>
          have hmx : m ≠ x := fun z => by rw [z, upd_same] at nm; cases nm
          have hmd : m ≠ dx := fun z => by rw [z, upd_ne ne, upd_same] at nm; cases nm
          rw [upd_ne hmx, upd_ne hmd, q] at nm
          cases nm
      have hxm : x ≠ m := fun z => by rw [← z, upd_same] at nm; cases nm
      have ss : Same H H3 := (s1.trans s2).trans s3
      exact k x a c m ch H3 ⟨⟨dx, hx⟩, ⟨⟨da, s3 _ _ e2⟩, hc.same s3⟩, hm, (ne_of_none e2 nx).symm, (ne_of_none e3 nx).symm, hxm, nac, ne_of_none e2 nm2, ne_of_none e3 nm2, ok⟩ st ss ((s1.trans s2).free nx) (s1.free na) (s1.free nc) ((s1.trans s2).free nm2)
    cases f with
    | frac t b => exact ⟨_, rfl, _, rfl, v, "fraction", [.int t, .int b], 1, rfl, by decide, hf, .inl ⟨rfl, rfl, v, t, b, 1, rfl, hf, hg.1, hg.2.1, hg.2.2, fun H' s' => rest H' s'⟩⟩
    | root t s b => exact ⟨_, rfl, _, rfl, v, "root", [.int t, .int s, .int b], 1, rfl, by decide, hf, .inr (.inl ⟨rfl, rfl, v, t, s, b, 1, rfl, hf, hg.1, hg.2.1, hg.2.2.1, hg.2.2.2.1, hg.2.2.2.2, fun H' s' => rest H' s'⟩)⟩
    | ruled ps ring steps =>
      obtain ⟨p, q, u, hv, hp, hq, hu⟩ := id hf
      exact ⟨_, rfl, _, rfl, v, "ruled", [.ref p, .ref q, .ref u], 1, rfl, by decide, hv, .inr (.inr (.inl ⟨rfl, rfl, v, p, q, u, ps, ring, steps, 1, rfl, hv, hp, hq, hu, hg, fun H' s' => rest H' s'⟩))⟩
end
/-! ### what is told, as the laws hold it against what is due -/
def Ans.vals : Ans → List V
  | .part n => [.str "part", .int n]
  | .fin => [.str "end"]
  | .waits => [.str "waits"]
theorem ints_at' {ns : List Int} {i : Nat} {y : V} (h : (ns.map V.int)[i]? = some y) : ∃ z, ns[i]? = some z ∧ y = V.int z := by
  rw [List.getElem?_map] at h
  cases e : ns[i]? with
  | none => rw [e] at h; cases h
  | some z => rw [e] at h; exact ⟨z, rfl, (Option.some.inj h).symm⟩
def Ans.data : Ans → List PyData
  | .part n => [.str "part", .int n]
  | .fin => [.str "end"]
  | .waits => [.str "waits"]
section
variable {P : Program} {w : World} {K : PySem.W.Frag} {mg : Str → Option Value} {base : Heap} {A : Ad}
theorem Ans.At.tup (T : CT K mg A) {H : Hp} {v : V} {a : Ans} (h : a.At A H v) : ∃ p, v = .ref p ∧ SqT K H p a.vals := by
  cases a with
  | part n =>
    obtain ⟨p, e, hp⟩ := h
    exact ⟨p, e, SqT.of hp⟩
  | fin => exact ⟨_, h, T.t_END H⟩
  | waits => exact ⟨_, h, T.t_WAITS H⟩
theorem Ans.shaped (a : Ans) : SeqAt.shaped (.tuple a.data) = true := by
  have h1 : PyData.strOk "part" = true := by decide +kernel
  have h2 : PyData.strOk "end" = true := by decide +kernel
  have h3 : PyData.strOk "waits" = true := by decide +kernel
  cases a with
  | part n => simp [SeqAt.shaped, Ans.data, PyData.canLay0, PyData.canLayAll0, PyData.depth, PyData.depthAll, h1]
  | fin => simp [SeqAt.shaped, Ans.data, PyData.canLay0, PyData.canLayAll0, PyData.depth, PyData.depthAll, h2]
  | waits => simp [SeqAt.shaped, Ans.data, PyData.canLay0, PyData.canLayAll0, PyData.depth, PyData.depthAll, h3]
theorem Ans.dp {H : Hp} {p : Addr} (a : Ans) (h : SqT K H p a.vals) : Dp K H (.ref p) (.tuple a.data) := by
  cases a with
  | part n => exact .tup h (.cons (.str _) (.cons (.int n) .nil))
  | fin => exact .tup h (.cons (.str _) .nil)
  | waits => exact .tup h (.cons (.str _) .nil)
theorem ans_sq {H H' : Hp} {b c m : Addr} {xs : List V} (h : SqT K H b xs) (hc : ∃ C dx fs, H c = some (.ins C dx fs)) (hm : ∃ C dx fs, H m = some (.ins C dx fs)) (k : ∀ b o, H b = some o → b ≠ c → b ≠ m → H' b = some o) : SqT K H' b xs :=
  sqT_but (N := fun z => z = c ∨ z = m) h (fun b o e n => k b o e (fun z => n (.inl z)) fun z => n (.inr z)) fun b o e z => by
    rcases e with rfl | rfl
    · obtain ⟨C, dx, fs, e⟩ := hc; rw [e] at z; exact ins_no (Option.some.inj z).symm
    · obtain ⟨C, dx, fs, e⟩ := hm; rw [e] at z; exact ins_no (Option.some.inj z).symm
/-- what a leaf's reading tells is what is due -/
def sp_law_got (A : Ad) (K : PySem.W.Frag) : Sp := fun vs H Q _ => ∃ (r a c m d : Addr) (ch : Chain) (l s n : Int), vs = [.ref r, .int n, .ref d] ∧ ReadAt A K H r a c m ch l s ∧ SqT K H d (ch.ans n).vals ∧
  ∀ H', ReadAt A K H' r a c m (ch.then_ n) (n - ch.took n) (s + ch.took n) → (∀ b o, H b = some o → b ≠ c → b ≠ m → H' b = some o) → Q (.bl true) H'
end
/-! ### boxes: what is reckoned with their numbers -/
/-- as great as a number of a box may be -/
def capE : Nat := 10000000
@[irreducible] def bigN : Nat := 2 ^ capE
theorem bigN_eq : bigN = 2 ^ capE := by unfold bigN; rfl
theorem bigN_two : bigN + bigN = 2 ^ (capE + 1) := by rw [bigN_eq, Nat.pow_succ, Nat.mul_two]
def fits (z : Int) : Prop := z.natAbs < bigN
instance (z : Int) : Decidable (fits z) := inferInstanceAs (Decidable (z.natAbs < bigN))
theorem fits_of {z : Int} (h : z.natAbs < 2 ^ capE) : fits z := by rw [← bigN_eq] at h; exact h
theorem fits.lt {z : Int} (h : fits z) : z.natAbs < 2 ^ capE := by rw [← bigN_eq]; exact h
theorem fits_mul {x y : Int} (h : fits x) (h' : fits y) : CMulW x y := wide_mul (a := capE) (b := capE) h.lt h'.lt (by decide) (by decide) (by decide)
theorem fits_neg {x : Int} (h : fits x) : fits (-x) := by
  unfold fits at *
  omega
theorem bigN_pos : 0 < bigN := by rw [bigN_eq]; exact Nat.pow_pos (by decide)
theorem fits_mul' {x y : Int} (h : fits x) (h' : (y - 1).natAbs < bigN ∨ fits y) : CMulW x y := by
  refine wide_mul (a := capE) (b := capE + 1) h.lt ?_ (by decide) (by decide) (by decide)
  rw [← bigN_two]
  have p := bigN_pos
  unfold fits at h'
  omega
/-- // of great numbers: by _pylong where they are that great -/
theorem room_py {k : Nat} {A : Around} (h : Room k A) (hk : 34 ≤ k) : A.depth + Builtin.pylongFrames < recursionLimit := by
  have := h.dp
  show A.depth + 100 < recursionLimit
  omega
def CDivM (_ j : Int) : Prop := j ≠ 0
theorem op_fdivM {X : Cx} {k : Nat} (hS : ∀ b : Heap, Mod X.K X.mg b → b.NoSeer) (hT : X.prog.given.tree = none) (hr : Room k X.A) (hk : 34 ≤ k) (hst : X.stack = X.env :: X.outer) (hg : X.env.scope.isGenerator = false) (hc : X.env.scope.isCoroutine = false) :
    OpR X (binaryOp .FloorDiv) (rI CDivM fun i j => .int (i.fdiv j)) := by
  intro pins s σ H x y v u Q I rx ry h
  obtain ⟨i, j, rfl, rfl, hj, q⟩ := h
  obtain ⟨t, rfl⟩ := rx
  obtain ⟨t', rfl⟩ := ry
  refine PyProof.Rows.floordiv_int hj ⟨.int (i.fdiv j), H, I.tok _, ⟨_, rfl⟩, q⟩ (.inr (PylongRoom.of I.nolimit (room_py hr hk) ?_))
  exact SeerAt.of ((hS _ I.mod).keeps I.bk) hT (I.ok.frames.trans (congrArg some hst)) hg hc I.ok.blt I.ok.glob
def turnedOver (ns : List Int) (q : Int) : List Int := ns.drop (ns.length / 2) ++ List.zipWith (fun t u => t - q * u) (ns.take (ns.length / 2)) (ns.drop (ns.length / 2))
def fourCorners (ns : List Int) : List (Int × Int) := [(ns.getD 0 0, ns.getD 2 0), (ns.getD 0 0 + ns.getD 1 0, ns.getD 2 0 + ns.getD 3 0)]
def eightCorners (ns : List Int) : List (Int × Int) :=
  [(ns.getD 0 0, ns.getD 4 0), (ns.getD 0 0 + ns.getD 1 0, ns.getD 4 0 + ns.getD 5 0), (ns.getD 0 0 + ns.getD 2 0, ns.getD 4 0 + ns.getD 6 0),
    (ns.getD 0 0 + ns.getD 1 0 + ns.getD 2 0 + ns.getD 3 0, ns.getD 4 0 + ns.getD 5 0 + ns.getD 6 0 + ns.getD 7 0)]
def withFirst (ns : List Int) (q : Int) : List Int :=
  [ns.getD 0 0 * q + ns.getD 2 0, ns.getD 1 0 * q + ns.getD 3 0, ns.getD 0 0, ns.getD 1 0, ns.getD 4 0 * q + ns.getD 6 0, ns.getD 5 0 * q + ns.getD 7 0, ns.getD 4 0, ns.getD 5 0]
def withSecond (ns : List Int) (q : Int) : List Int :=
  [ns.getD 0 0 * q + ns.getD 1 0, ns.getD 0 0, ns.getD 2 0 * q + ns.getD 3 0, ns.getD 2 0, ns.getD 4 0 * q + ns.getD 5 0, ns.getD 4 0, ns.getD 6 0 * q + ns.getD 7 0, ns.getD 6 0]
def withOne (ns : List Int) (q : Int) : List Int := [ns.getD 0 0 * q + ns.getD 1 0, ns.getD 0 0, ns.getD 2 0 * q + ns.getD 3 0, ns.getD 2 0]
/-- the corners, none below nought where the first one is not -/
def flipped (cs : List (Int × Int)) : List (Int × Int) := if (cs.getD 0 (0, 0)).2 < 0 then cs.map fun c => (-c.1, -c.2) else cs
def surePart (cs : List (Int × Int)) : Option Int :=
  let ds := flipped cs
  if ds.all (fun d => decide (0 < d.2)) then
    let q := (ds.getD 0 (0, 0)).1.fdiv (ds.getD 0 (0, 0)).2
    if ds.all (fun d => decide (q * d.2 ≤ d.1) && decide (d.1 ≤ (q + 1) * d.2)) then some q else none
  else none
/-- pairs of numbers, one behind another -/
def PairsAt (K : PySem.W.Frag) (H : Hp) : List Addr → List (Int × Int) → Prop
  | [], [] => True
  | t :: ts, c :: cs => SqT K H t [.int c.1, .int c.2] ∧ PairsAt K H ts cs
  | _, _ => False
theorem PairsAt.len {K : PySem.W.Frag} {H : Hp} : ∀ {ts : List Addr} {cs : List (Int × Int)}, PairsAt K H ts cs → ts.length = cs.length
  | [], [], _ => rfl
  | _ :: ts, _ :: cs, h => by rw [List.length_cons, List.length_cons, PairsAt.len h.2]
  | [], _ :: _, h => h.elim
  | _ :: _, [], h => h.elim
theorem PairsAt.same {K : PySem.W.Frag} {H H' : Hp} (s : Same H H') : ∀ {ts : List Addr} {cs : List (Int × Int)}, PairsAt K H ts cs → PairsAt K H' ts cs
  | [], [], _ => trivial
  | _ :: ts, _ :: cs, h => ⟨sqT_same h.1 s, PairsAt.same s h.2⟩
  | [], _ :: _, h => h.elim
  | _ :: _, [], h => h.elim
theorem PairsAt.at_ {K : PySem.W.Frag} {H : Hp} : ∀ {ts : List Addr} {cs : List (Int × Int)}, PairsAt K H ts cs → ∀ {i : Nat} {x : V}, (ts.map V.ref)[i]? = some x → ∃ t c, x = .ref t ∧ cs[i]? = some c ∧ SqT K H t [.int c.1, .int c.2]
  | [], [], _, i, x, e => by simp at e
  | t :: ts, c :: cs, h, 0, x, e => ⟨t, c, (Option.some.inj e).symm, rfl, h.1⟩
  | t :: ts, c :: cs, h, i + 1, x, e => by
    obtain ⟨t2, c2, e1, e2, e3⟩ := PairsAt.at_ h.2 (i := i) (x := x) (by simpa using e)
    exact ⟨t2, c2, e1, by simpa using e2, e3⟩
  | [], _ :: _, h, _, _, _ => h.elim
  | _ :: _, [], h, _, _, _ => h.elim
theorem PairsAt.snoc {K : PySem.W.Frag} {H : Hp} {t : Addr} {c : Int × Int} (hc : SqT K H t [.int c.1, .int c.2]) : ∀ {ts : List Addr} {cs : List (Int × Int)}, PairsAt K H ts cs → PairsAt K H (ts ++ [t]) (cs ++ [c])
  | [], [], _ => ⟨hc, trivial⟩
  | _ :: ts, _ :: cs, h => ⟨h.1, PairsAt.snoc hc h.2⟩
  | [], _ :: _, h => h.elim
  | _ :: _, [], h => h.elim
section
variable {P : Program} [NoTree P] {w : World} {K : PySem.W.Frag} {mg : Str → Option Value} {base : Heap} {A : Ad}
open RZ
/-- a comprehension over zip of two tuples of one length -/
theorem lc_zipT {K : PySem.W.Frag} {a b : Addr} {xs ys : List V} {g : TG} {tt : TT} {te : TE} {vs : List Nat} {σ : L2.St} {H1 : Hp} {D : Addr} {Qd : Hp → Prop} (hl : xs.length = ys.length) (Pv : Nat → Hp → Prop) (h0 : Pv 0 (upd H1 D (.lst []))) (hq : ∀ i H, i ≤ xs.length → Pv i H → SqT K H a xs ∧ SqT K H b ys)
    (hs : ∀ (i : Nat) (x y : V) (T : Addr) (H : Hp), xs[i]? = some x → ys[i]? = some y → Pv i H → H T = none → g (.ref T) (wipe σ vs) (upd H T (.tup [x, y])) fun σ2 H2 => wipe σ2 vs = wipe σ vs ∧ tt σ2 H2 fun b H3 =>
      if b = true then te σ2 H3 fun y H4 => ∃ acc, H4 D = some (.lst acc) ∧ acc.length < sizeLine ∧ Pv (i + 1) (upd H4 D (.lst (acc ++ [y]))) else Pv (i + 1) H3) (hd : ∀ H, Pv xs.length H → Qd H) :
    ∃ W : Nat → Nat → Hp → Prop, (∃ m, W 0 m (upd H1 D (.lst []))) ∧ ∀ i m H, W i m H →
      ((ItzT K a b).stop i H ∧ Qd H) ∨ ((ItzT K a b).go i H ∧ ∃ Nx : Hp → Prop, (∀ H', Nx H' → ∃ m', m' < m ∧ W (i + 1) m' H') ∧ ∀ x H', (ItzT K a b).yld i H x H' → g x (wipe σ vs) H' fun σ2 H2 => wipe σ2 vs = wipe σ vs ∧ tt σ2 H2 fun b H3 =>
        if b = true then te σ2 H3 fun y H4 => ∃ acc, H4 D = some (.lst acc) ∧ acc.length < sizeLine ∧ Nx (upd H4 D (.lst (acc ++ [y]))) else Nx H3) := by
  refine ⟨fun i m H => m = xs.length - i ∧ i ≤ xs.length ∧ Pv i H, ⟨xs.length, by simp, Nat.zero_le _, h0⟩, ?_⟩
  rintro i m H ⟨rfl, hi, p⟩
  obtain ⟨qx, qy⟩ := hq i H hi p
  by_cases hlt : i < xs.length
  · have hx : xs[i]? = some xs[i] := List.getElem?_eq_getElem hlt
    have hlt2 : i < ys.length := by omega
    have hy : ys[i]? = some ys[i] := List.getElem?_eq_getElem hlt2
    refine .inr ⟨⟨xs, ys, _, _, qx, qy, hx, hy⟩, Pv (i + 1), fun H' p' => ⟨xs.length - (i + 1), by omega, rfl, hlt, p'⟩, fun x H' y => ?_⟩
    obtain ⟨T, x1, y1, rfl, nT, rfl, e1, e2⟩ := y
    exact hs i x1 y1 T H (e1 xs qx) (e2 ys qy) p nT
  · have e : i = xs.length := by omega
    subst e
    exact .inl ⟨⟨xs, ys, qx, qy, .inl (Nat.le_refl _)⟩, hd H p⟩
theorem cut_takeB (xs : List V) (n : Nat) : cutV xs none (some (n : Int)) = xs.take n := by
  unfold cutV
  rw [HT.sIx_none, HT.sIx_nat, List.drop_zero, Nat.sub_zero]
  rcases Nat.le_total n xs.length with h | h
  · rw [Nat.min_eq_left h]
  · rw [Nat.min_eq_right h, List.take_of_length_le (Nat.le_refl _), List.take_of_length_le h]
theorem cut_dropB (xs : List V) (n : Nat) : cutV xs (some (n : Int)) none = xs.drop n := by
  unfold cutV
  rw [HT.sIx_none, HT.sIx_nat]
  rcases Nat.le_total n xs.length with h | h
  · rw [Nat.min_eq_left h, List.take_of_length_le (Nat.le_of_eq List.length_drop)]
  · rw [Nat.min_eq_right h, List.take_of_length_le (Nat.le_of_eq List.length_drop), List.drop_of_length_le (Nat.le_refl _), List.drop_of_length_le h]
def sp_turned_over (K : PySem.W.Frag) : Sp := fun vs H Q _ => ∃ (p : Addr) (ns : List Int) (q : Int), vs = [.ref p, .int q] ∧ SqT K H p (ns.map V.int) ∧ (∃ h, ns.length = 2 * h ∧ 0 < h ∧ h ≤ 4) ∧ (∀ z ∈ ns, fits z) ∧ fits q ∧
  ∀ r H', SqT K H' r ((turnedOver ns q).map V.int) → Same H H' → Q (.ref r) H'
theorem ok_turned_over (T : CT K mg A) (D : DT K mg A) : COk P w K mg base CX0 1 "turned_over" ["numbers", "part"] (sp_turned_over K) := by
  refine COk.by D.turned_over fun f fd F => ?_
  refine F.ok sc_turned_over (fun vs H Q E h => ?_) (fun cdv Ar outer s H vs Q E hr h => ?_)
  · obtain ⟨p, ns, q, rfl, _⟩ := h
    rfl
  · obtain ⟨p, ns, q, rfl, hp, ⟨h, hl, h0, h4⟩, hf, hq, k⟩ := h
    refine ⟨_, (pss_cons (ps_set (i := 2) sc_turned_over.nd rfl (Or.inl rfl) (pe_op op_fdiv (pe_callB call_len_seq (by rfl) T.b_len (by decide +kernel) (pa_cons (pv 0) pa_nil)) pe_int))
    (pss_cons (ps_par (i := 3) (j := 4) (by rfl) sc_turned_over.nd rfl rfl (by decide) rfl rfl (pa_cons (pe_slice sl_tupA (pv 0) po_none (po_some (pv 2))) (pa_cons (pe_slice sl_tupA (pv 0) (po_some (pv 2)) po_none) pa_nil)) (by rfl))
    (pss_cons (ps_setLc (i := 5) (own := [("top", 6), ("under", 7)]) (g := gTup K 2 (gCons (gName 6) (gCons (gName 7) gNil))) (tt := tYes) rfl sc_turned_over.nd rfl rfl (sw_true rfl rfl rfl (by decide +kernel)) (RZ.pi_zipA (by rfl) T.b_zip (pa_cons (pv 3) (pa_cons (pv 4) pa_nil))) (blkOk_by (own := [("top", 6), ("under", 7)]) (N := ["numbers", "part", "half", "above", "below", "left", "top", "under"]) (sc := defScope s_turned_over) (by decide +kernel)) (fun _ _ _ _ _ => (pg_tup rfl (pgs_cons (pg_name (i := 6) sc_turned_over.nd rfl (Or.inl rfl)) (pgs_cons (pg_name (i := 7) sc_turned_over.nd rfl (Or.inl rfl)) pgs_nil)))) (fun _ _ _ _ _ => pts_nil) (fun _ _ _ _ _ => (pe_op op_sub (pv 6) (pe_op op_mulW (pv 1) (pv 7)))))
    (pss_one (ps_ret (pe_op op_catC (pv 4) (pe_callTy call_tuple_of (by rfl) T.b_tuple (by decide +kernel) (pa_cons (pv 5) pa_nil)))))))), ?_⟩
    have e1 : (((ns.map V.int).length : Nat) : Int) / 2 = ((h : Nat) : Int) := by rw [List.length_map, hl]; omega
    have nf : ¬ (HT.sIx (ns.map V.int).length 0 none = 0 ∧ HT.sIx (ns.map V.int).length (ns.map V.int).length (some (h : Int)) = (ns.map V.int).length) := fun z => by
      have := z.2
      rw [HT.sIx_nat, List.length_map] at this
      omega
    have c1 : cutV (ns.map V.int) none (some (h : Int)) = (ns.take h).map V.int := by
      rw [cut_takeB, List.map_take]
    have c2 : cutV (ns.map V.int) (some (h : Int)) none = (ns.drop h).map V.int := by
      rw [cut_dropB, List.map_drop]
    have lt : (ns.take h).length = h := by rw [List.length_take]; omega
    have ld : (ns.drop h).length = h := by rw [List.length_drop]; omega
    have ee : turnedOver ns q = ns.drop h ++ List.zipWith (fun t u => t - q * u) (ns.take h) (ns.drop h) := by
      unfold turnedOver
      rw [show ns.length / 2 = h by omega]
    refine ⟨_, rfl, p, _, rfl, .inr hp, _, _, rfl, rfl, ⟨by decide, by decide⟩, ?_⟩
    show tSeq _ _ _ [some (V.ref p), some (V.int q), some (V.int ((((ns.map V.int).length : Nat) : Int) / 2)), none, none, none, none, none] H
    rw [e1]
    refine ⟨_, rfl, _, rfl, _, rfl, p, _, rfl, hp, fun z => absurd z nf, fun _ u nu => ?_⟩
    have s1 := same_upd (o := .tup (cutV (ns.map V.int) none (some (h : Int)))) nu
    have hu : SqT K (upd H u (.tup (cutV (ns.map V.int) none (some (h : Int))))) u ((ns.take h).map V.int) := by rw [← c1]; exact SqT.of upd_same
    generalize upd H u (.tup (cutV (ns.map V.int) none (some (h : Int)))) = H1 at s1 hu ⊢
    have hp1 := sqT_same hp s1
    refine ⟨_, rfl, _, rfl, _, rfl, p, _, rfl, hp1, fun z => absurd z (not_whole h0 (by rw [List.length_map]; omega)), fun _ v nv => ?_⟩
    have s2 := same_upd (o := .tup (cutV (ns.map V.int) (some (h : Int)) none)) nv
    have hv : SqT K (upd H1 v (.tup (cutV (ns.map V.int) (some (h : Int)) none))) v ((ns.drop h).map V.int) := by rw [← c2]; exact SqT.of upd_same
    generalize upd H1 v (.tup (cutV (ns.map V.int) (some (h : Int)) none)) = H2 at s2 hv ⊢
    have hu2 := sqT_same hu s2
    refine ⟨_, _, rfl, ?_⟩
    refine ⟨_, rfl, _, rfl, u, v, _, _, rfl, .inr ⟨hu2, hv, fun D0 nD => lc_zipT (by rw [List.length_map, List.length_map, lt, ld]) (fun i H' => Same H2 H' ∧ H' D0 = some (.lst (((List.zipWith (fun t u => t - q * u) (ns.take h) (ns.drop h)).take i).map V.int))) ⟨same_upd nD, upd_same⟩ (fun i H' _ z => ⟨sqT_same hu2 z.1, sqT_same hv z.1⟩) ?_ ?_⟩⟩
    · rintro i x y T' H' hx hy ⟨s3, hD⟩ nT
      rw [List.getElem?_map] at hx hy
      cases ex : (ns.take h)[i]? with
      | none => rw [ex] at hx; cases hx
      | some t =>
        cases ey : (ns.drop h)[i]? with
        | none => rw [ey] at hy; cases hy
        | some b =>
          rw [ex] at hx
          rw [ey] at hy
          cases hx
          cases hy
          have hb : fits b := hf b (List.mem_of_mem_drop (List.mem_of_getElem? ey))
          have s4 := same_upd (o := .tup [V.int t, V.int b]) nT
          refine ⟨T', _, rfl, SqT.of upd_same, rfl, _, _, rfl, _, _, rfl, rfl, rfl, ?_⟩
          refine ⟨_, rfl, _, rfl, _, rfl, _, _, rfl, rfl, fits_mul hq hb, _, _, rfl, rfl, ?_⟩
          have hi : i < h := by
            have := (List.getElem?_eq_some_iff.mp ex).1
            omega
          refine ⟨_, s4 _ _ hD, ?_, ?_, ?_⟩
          · rw [List.length_map, List.length_take]
            exact Nat.lt_of_le_of_lt (Nat.min_le_left _ _) (Nat.lt_of_lt_of_le (show i < 4 by omega) (by decide))
          · intro c o z
            rw [upd_ne (ne_of_none z nD)]
            exact s4 _ _ (s3 _ _ z)
          · rw [upd_same, List.take_add_one, List.getElem?_zipWith, ex, ey]
            simp
    · rintro H3 ⟨s3, hD⟩
      rw [List.length_map, lt, List.take_of_length_le (by rw [List.length_zipWith]; omega)] at hD
      have hv3 := sqT_same hv s3
      refine ⟨_, rfl, _, rfl, D0, _, rfl, .inl ⟨SqL.of hD, fun l nl => ?_⟩⟩
      have s4 := same_upd (o := .tup ((List.zipWith (fun t u => t - q * u) (ns.take h) (ns.drop h)).map V.int)) nl
      refine ⟨v, l, _, _, rfl, rfl, sqT_same hv3 s4, SqT.of upd_same, ?_, fun c H' s5 hc => ?_⟩
      · rw [List.length_map, List.length_map, List.length_zipWith, lt, ld]
        exact Nat.le_trans (show h + min h h ≤ 8 by omega) (by decide)
      · refine k c H' ?_ ((((s1.trans s2).trans s3).trans s4).trans s5)
        rw [ee, List.map_append]
        exact hc
end
/-! ### boxes: corners, parts taken, the sure part -/
section
variable {P : Program} [NoTree P] {w : World} {K : PySem.W.Frag} {mg : Str → Option Value} {base : Heap} {A : Ad}
theorem fits_mul1 {x y : Int} (h : fits x) (h' : fits y) : CMulW (x + 1) y := by
  refine wide_mul (a := capE + 1) (b := capE) ?_ h'.lt (by decide) (by decide) (by decide)
  rw [← bigN_two]
  have p := bigN_pos
  unfold fits at h
  omega
theorem sqL_same {H H' : Hp} {a : Addr} {xs : List V} (h : SqL K H a xs) (k : Same H H') : SqL K H' a xs := by
  rcases h with (h | ⟨o, h⟩) | h
  · exact .inl (.inl (k _ _ h))
  · exact .inl (.inr ⟨o, k _ _ h⟩)
  · exact .inr h
theorem sqT_lst {H : Hp} {a d : Addr} {xs ys : List V} {o : HO} (h : SqT K H a xs) (hd : H d = some (.lst ys)) : SqT K (upd H d o) a xs :=
  sqT_but (N := fun c => c = d) h (fun c u e n => by rw [upd_ne n]; exact e) fun c u e z => by
    subst e
    rw [hd] at z
    cases z
    exact ⟨fun _ q => (by cases q), fun _ _ q => (by cases q)⟩
theorem PairsAt.lst {H : Hp} {d : Addr} {ys : List V} {o : HO} (hd : H d = some (.lst ys)) : ∀ {ts : List Addr} {cs : List (Int × Int)}, PairsAt K H ts cs → PairsAt K (upd H d o) ts cs
  | [], [], _ => trivial
  | _ :: ts, _ :: cs, h => ⟨sqT_lst h.1 hd, PairsAt.lst hd h.2⟩
  | [], _ :: _, h => h.elim
  | _ :: _, [], h => h.elim
/-- the corners' list -/
def CornersAt (K : PySem.W.Frag) (H : Hp) (l : Addr) (cs : List (Int × Int)) : Prop := ∃ ts : List Addr, SqL K H l (ts.map V.ref) ∧ PairsAt K H ts cs
def sp_four_corners (K : PySem.W.Frag) : Sp := fun vs H Q _ => ∃ (p : Addr) (ns : List Int), vs = [.ref p] ∧ SqT K H p (ns.map V.int) ∧ ns.length = 4 ∧
  ∀ l H', CornersAt K H' l (fourCorners ns) → Same H H' → Q (.ref l) H'
theorem ok_four_corners (T : CT K mg A) (D : DT K mg A) : COk P w K mg base CX0 1 "four_corners" ["numbers"] (sp_four_corners K) := by
  refine COk.by D.four_corners fun f fd F => ?_
  refine F.ok sc_four_corners (fun vs H Q E h => ?_) (fun cdv Ar outer s H vs Q E hr h => ?_)
  · obtain ⟨p, ns, rfl, _⟩ := h
    rfl
  · obtain ⟨p, ns, rfl, hp, hl, k⟩ := h
    refine ⟨_, (pss_cons (ps_asg (pv 0) (pg_tup rfl (pgs_cons (pg_name (i := 1) sc_four_corners.nd rfl (Or.inl rfl)) (pgs_cons (pg_name (i := 2) sc_four_corners.nd rfl (Or.inl rfl)) (pgs_cons (pg_name (i := 3) sc_four_corners.nd rfl (Or.inl rfl)) (pgs_cons (pg_name (i := 4) sc_four_corners.nd rfl (Or.inl rfl)) pgs_nil))))))
    (pss_one (ps_ret (pe_lst (pa_cons (pe_tup (pa_cons (pv 1) (pa_cons (pv 3) pa_nil))) (pa_cons (pe_tup (pa_cons (pe_op op_add (pv 1) (pv 2)) (pa_cons (pe_op op_add (pv 3) (pv 4)) pa_nil))) pa_nil)))))), ?_⟩
    match ns, hl with
    | [a, b, c, d], _ =>
      refine ⟨_, rfl, p, _, rfl, hp, rfl, _, _, rfl, _, _, rfl, _, _, rfl, _, _, rfl, rfl, ?_⟩
      refine ⟨_, rfl, _, rfl, (by show 2 ≤ sizeLine; decide), fun q nq => ?_⟩
      have s1 := same_upd (o := .tup [V.int a, .int c]) nq
      refine ⟨_, rfl, _, rfl, _, _, rfl, rfl, _, rfl, _, rfl, _, _, rfl, rfl, (by show 2 ≤ sizeLine; decide), fun r nr => ?_⟩
      have s2 := same_upd (o := .tup [V.int (a + b), .int (c + d)]) nr
      refine ⟨(by show 2 ≤ sizeLine; decide), fun l nl => ?_⟩
      have s3 := same_upd (o := .lst [V.ref q, .ref r]) nl
      exact k l _ ⟨[q, r], SqL.of upd_same, sqT_same (SqT.of upd_same) (s2.trans s3), sqT_same (SqT.of upd_same) s3, trivial⟩ ((s1.trans s2).trans s3)
def sp_eight_corners (K : PySem.W.Frag) : Sp := fun vs H Q _ => ∃ (p : Addr) (ns : List Int), vs = [.ref p] ∧ SqT K H p (ns.map V.int) ∧ ns.length = 8 ∧
  ∀ l H', CornersAt K H' l (eightCorners ns) → Same H H' → Q (.ref l) H'
theorem ok_eight_corners (T : CT K mg A) (D : DT K mg A) : COk P w K mg base CX0 1 "eight_corners" ["numbers"] (sp_eight_corners K) := by
  refine COk.by D.eight_corners fun f fd F => ?_
  refine F.ok sc_eight_corners (fun vs H Q E h => ?_) (fun cdv Ar outer s H vs Q E hr h => ?_)
  · obtain ⟨p, ns, rfl, _⟩ := h
    rfl
  · obtain ⟨p, ns, rfl, hp, hl, k⟩ := h
    refine ⟨_, (pss_cons (ps_asg (pv 0) (pg_tup rfl (pgs_cons (pg_name (i := 1) sc_eight_corners.nd rfl (Or.inl rfl)) (pgs_cons (pg_name (i := 2) sc_eight_corners.nd rfl (Or.inl rfl)) (pgs_cons (pg_name (i := 3) sc_eight_corners.nd rfl (Or.inl rfl)) (pgs_cons (pg_name (i := 4) sc_eight_corners.nd rfl (Or.inl rfl)) (pgs_cons (pg_name (i := 5) sc_eight_corners.nd rfl (Or.inl rfl)) (pgs_cons (pg_name (i := 6) sc_eight_corners.nd rfl (Or.inl rfl)) (pgs_cons (pg_name (i := 7) sc_eight_corners.nd rfl (Or.inl rfl)) (pgs_cons (pg_name (i := 8) sc_eight_corners.nd rfl (Or.inl rfl)) pgs_nil))))))))))
    (pss_one (ps_ret (pe_lst (pa_cons (pe_tup (pa_cons (pv 1) (pa_cons (pv 5) pa_nil))) (pa_cons (pe_tup (pa_cons (pe_op op_add (pv 1) (pv 2)) (pa_cons (pe_op op_add (pv 5) (pv 6)) pa_nil))) (pa_cons (pe_tup (pa_cons (pe_op op_add (pv 1) (pv 3)) (pa_cons (pe_op op_add (pv 5) (pv 7)) pa_nil))) (pa_cons (pe_tup (pa_cons (pe_op op_add (pe_op op_add (pe_op op_add (pv 1) (pv 2)) (pv 3)) (pv 4)) (pa_cons (pe_op op_add (pe_op op_add (pe_op op_add (pv 5) (pv 6)) (pv 7)) (pv 8)) pa_nil))) pa_nil)))))))), ?_⟩
    match ns, hl with
    | [a, b, c, d, e, f, g, h], _ =>
      refine ⟨_, rfl, p, _, rfl, hp, rfl, _, _, rfl, _, _, rfl, _, _, rfl, _, _, rfl, _, _, rfl, _, _, rfl, _, _, rfl, _, _, rfl, rfl, ?_⟩
      refine ⟨_, rfl, _, rfl, (by show 2 ≤ sizeLine; decide), fun q nq => ?_⟩
      have s1 := same_upd (o := .tup [V.int a, .int e]) nq
      refine ⟨_, rfl, _, rfl, _, _, rfl, rfl, _, rfl, _, rfl, _, _, rfl, rfl, (by show 2 ≤ sizeLine; decide), fun r nr => ?_⟩
      have s2 := same_upd (o := .tup [V.int (a + b), .int (e + f)]) nr
      refine ⟨_, rfl, _, rfl, _, _, rfl, rfl, _, rfl, _, rfl, _, _, rfl, rfl, (by show 2 ≤ sizeLine; decide), fun t nt => ?_⟩
      have s3 := same_upd (o := .tup [V.int (a + c), .int (e + g)]) nt
      refine ⟨_, rfl, _, rfl, _, _, rfl, rfl, _, rfl, _, _, rfl, rfl, _, rfl, _, _, rfl, rfl, _, rfl, _, rfl, _, _, rfl, rfl, _, rfl, _, _, rfl, rfl, _, rfl, _, _, rfl, rfl, (by show 2 ≤ sizeLine; decide), fun u nu => ?_⟩
      have s4 := same_upd (o := .tup [V.int (a + b + c + d), .int (e + f + g + h)]) nu
      refine ⟨(by show 4 ≤ sizeLine; decide), fun l nl => ?_⟩
      have s5 := same_upd (o := .lst [V.ref q, .ref r, .ref t, .ref u]) nl
      exact k l _ ⟨[q, r, t, u], SqL.of upd_same, sqT_same (SqT.of upd_same) (((s2.trans s3).trans s4).trans s5), sqT_same (SqT.of upd_same) ((s3.trans s4).trans s5), sqT_same (SqT.of upd_same) (s4.trans s5), sqT_same (SqT.of upd_same) s5, trivial⟩ ((((s1.trans s2).trans s3).trans s4).trans s5)
def sp_with (K : PySem.W.Frag) (g : List Int → Int → List Int) : Sp := fun vs H Q _ => ∃ (p : Addr) (ns : List Int) (q : Int), vs = [.ref p, .int q] ∧ SqT K H p (ns.map V.int) ∧ ns.length = 8 ∧ (∀ z ∈ ns, fits z) ∧ fits q ∧
  ∀ r H', SqT K H' r ((g ns q).map V.int) → Same H H' → Q (.ref r) H'
theorem ok_with_first_part (T : CT K mg A) (D : DT K mg A) : COk P w K mg base CX0 1 "with_first_part" ["numbers", "part"] (sp_with K withFirst) := by
  refine COk.by D.with_first_part fun f fd F => ?_
  refine F.ok sc_with_first_part (fun vs H Q E h => ?_) (fun cdv Ar outer s H vs Q E hr h => ?_)
  · obtain ⟨p, ns, q, rfl, _⟩ := h
    rfl
  · obtain ⟨p, ns, q, rfl, hp, hl, hf, hq, k⟩ := h
    refine ⟨_, (pss_cons (ps_asg (pv 0) (pg_tup rfl (pgs_cons (pg_name (i := 2) sc_with_first_part.nd rfl (Or.inl rfl)) (pgs_cons (pg_name (i := 3) sc_with_first_part.nd rfl (Or.inl rfl)) (pgs_cons (pg_name (i := 4) sc_with_first_part.nd rfl (Or.inl rfl)) (pgs_cons (pg_name (i := 5) sc_with_first_part.nd rfl (Or.inl rfl)) (pgs_cons (pg_name (i := 6) sc_with_first_part.nd rfl (Or.inl rfl)) (pgs_cons (pg_name (i := 7) sc_with_first_part.nd rfl (Or.inl rfl)) (pgs_cons (pg_name (i := 8) sc_with_first_part.nd rfl (Or.inl rfl)) (pgs_cons (pg_name (i := 9) sc_with_first_part.nd rfl (Or.inl rfl)) pgs_nil))))))))))
    (pss_one (ps_ret (pe_tup (pa_cons (pe_op op_add (pe_op op_mulW (pv 2) (pv 1)) (pv 4)) (pa_cons (pe_op op_add (pe_op op_mulW (pv 3) (pv 1)) (pv 5)) (pa_cons (pv 2) (pa_cons (pv 3) (pa_cons (pe_op op_add (pe_op op_mulW (pv 6) (pv 1)) (pv 8)) (pa_cons (pe_op op_add (pe_op op_mulW (pv 7) (pv 1)) (pv 9)) (pa_cons (pv 6) (pa_cons (pv 7) pa_nil)))))))))))), ?_⟩
    match ns, hl with
    | [a, b, c, d, e, f, g, h], _ =>
      have ma : CMulW a q := fits_mul (hf a (by simp)) hq
      have mb : CMulW b q := fits_mul (hf b (by simp)) hq
      have me : CMulW e q := fits_mul (hf e (by simp)) hq
      have mf : CMulW f q := fits_mul (hf f (by simp)) hq
      refine ⟨_, rfl, p, _, rfl, hp, rfl, _, _, rfl, _, _, rfl, _, _, rfl, _, _, rfl, _, _, rfl, _, _, rfl, _, _, rfl, _, _, rfl, rfl, ?_⟩
      refine ⟨_, rfl, _, rfl, _, _, rfl, rfl, ma, _, rfl, _, _, rfl, rfl, _, rfl, _, rfl, _, _, rfl, rfl, mb, _, rfl, _, _, rfl, rfl, _, rfl, _, rfl, _, rfl, _, rfl, _, _, rfl, rfl, me, _, rfl, _, _, rfl, rfl, _, rfl, _, rfl, _, _, rfl, rfl, mf, _, rfl, _, _, rfl, rfl, _, rfl, _, rfl, (by show 8 ≤ sizeLine; decide), fun r nr => ?_⟩
      exact k r _ (SqT.of upd_same) (same_upd nr)
theorem ok_with_second_part (T : CT K mg A) (D : DT K mg A) : COk P w K mg base CX0 1 "with_second_part" ["numbers", "part"] (sp_with K withSecond) := by
  refine COk.by D.with_second_part fun f fd F => ?_
  refine F.ok sc_with_second_part (fun vs H Q E h => ?_) (fun cdv Ar outer s H vs Q E hr h => ?_)
  · obtain ⟨p, ns, q, rfl, _⟩ := h
    rfl
  · obtain ⟨p, ns, q, rfl, hp, hl, hf, hq, k⟩ := h
    refine ⟨_, (pss_cons (ps_asg (pv 0) (pg_tup rfl (pgs_cons (pg_name (i := 2) sc_with_second_part.nd rfl (Or.inl rfl)) (pgs_cons (pg_name (i := 3) sc_with_second_part.nd rfl (Or.inl rfl)) (pgs_cons (pg_name (i := 4) sc_with_second_part.nd rfl (Or.inl rfl)) (pgs_cons (pg_name (i := 5) sc_with_second_part.nd rfl (Or.inl rfl)) (pgs_cons (pg_name (i := 6) sc_with_second_part.nd rfl (Or.inl rfl)) (pgs_cons (pg_name (i := 7) sc_with_second_part.nd rfl (Or.inl rfl)) (pgs_cons (pg_name (i := 8) sc_with_second_part.nd rfl (Or.inl rfl)) (pgs_cons (pg_name (i := 9) sc_with_second_part.nd rfl (Or.inl rfl)) pgs_nil))))))))))
    (pss_one (ps_ret (pe_tup (pa_cons (pe_op op_add (pe_op op_mulW (pv 2) (pv 1)) (pv 3)) (pa_cons (pv 2) (pa_cons (pe_op op_add (pe_op op_mulW (pv 4) (pv 1)) (pv 5)) (pa_cons (pv 4) (pa_cons (pe_op op_add (pe_op op_mulW (pv 6) (pv 1)) (pv 7)) (pa_cons (pv 6) (pa_cons (pe_op op_add (pe_op op_mulW (pv 8) (pv 1)) (pv 9)) (pa_cons (pv 8) pa_nil)))))))))))), ?_⟩
    match ns, hl with
    | [a, b, c, d, e, f, g, h], _ =>
      have ma : CMulW a q := fits_mul (hf a (by simp)) hq
      have mc : CMulW c q := fits_mul (hf c (by simp)) hq
      have me : CMulW e q := fits_mul (hf e (by simp)) hq
      have mg' : CMulW g q := fits_mul (hf g (by simp)) hq
      refine ⟨_, rfl, p, _, rfl, hp, rfl, _, _, rfl, _, _, rfl, _, _, rfl, _, _, rfl, _, _, rfl, _, _, rfl, _, _, rfl, _, _, rfl, rfl, ?_⟩
      refine ⟨_, rfl, _, rfl, _, _, rfl, rfl, ma, _, rfl, _, _, rfl, rfl, _, rfl, _, rfl, _, rfl, _, _, rfl, rfl, mc, _, rfl, _, _, rfl, rfl, _, rfl, _, rfl, _, rfl, _, _, rfl, rfl, me, _, rfl, _, _, rfl, rfl, _, rfl, _, rfl, _, rfl, _, _, rfl, rfl, mg', _, rfl, _, _, rfl, rfl, _, rfl, (by show 8 ≤ sizeLine; decide), fun r nr => ?_⟩
      exact k r _ (SqT.of upd_same) (same_upd nr)
def sp_sure_part (K : PySem.W.Frag) : Sp := fun vs H Q _ => ∃ (l : Addr) (cs : List (Int × Int)), vs = [.ref l] ∧ CornersAt K H l cs ∧ 0 < cs.length ∧ cs.length ≤ 4 ∧ (∀ c ∈ cs, fits c.1 ∧ fits c.2) ∧
  ∀ H', Same H H' → Q (match surePart cs with | some q => .int q | none => .non) H'
theorem ok_sure_part (T : CT K mg A) (D : DT K mg A) : COk P w K mg base CX0 35 "sure_part" ["corners"] (sp_sure_part K) := by
  refine COk.by D.sure_part fun f fd F => ?_
  refine F.ok (k := 34) sc_sure_part (fun vs H Q E h => ?_) (fun cdv Ar outer s H vs Q E hr h => ?_)
  · obtain ⟨l, cs, rfl, _⟩ := h
    rfl
  · obtain ⟨l, cs, rfl, ⟨ts, hl, hts⟩, h0, h4, hf, k⟩ := h
    refine ⟨_, (C8.pss_cut (ps_if (pt_cmpR op_lt (pe_ix ix_tup (pe_ix ix_list (pv 0) pe_int (fun _ _ => rfl)) pe_int (fun _ _ => rfl)) pe_int (nomark _))
      (pss_one (ps_setLc (i := 0) (own := [("top", 1), ("below", 2)]) (g := gTup K 2 (gCons (gName 1) (gCons (gName 2) gNil))) (tt := tYes) rfl sc_sure_part.nd rfl rfl (sw_true rfl rfl rfl (by decide +kernel)) (pi_list (pv 0)) (blkOk_by (own := [("top", 1), ("below", 2)]) (N := ["corners", "top", "below", "part"]) (sc := defScope s_sure_part) (by decide +kernel)) (fun _ _ _ _ _ => (pg_tup rfl (pgs_cons (pg_name (i := 1) sc_sure_part.nd rfl (Or.inl rfl)) (pgs_cons (pg_name (i := 2) sc_sure_part.nd rfl (Or.inl rfl)) pgs_nil)))) (fun _ _ _ _ _ => pts_nil) (fun _ _ _ _ _ => (pe_tup (pa_cons (pe_un un_neg (pv 1)) (pa_cons (pe_un un_neg (pv 2)) pa_nil)))))) pss_nil)
    (pss_cons (ps_if (pt_cmpR op_le (pe_callB (cr_min rfl) (by rfl) T.b_min (by decide +kernel) (pa_cons (pe_lc (own := [("top", 1), ("below", 2)]) (g := gTup K 2 (gCons (gName 1) (gCons (gName 2) gNil))) (tt := tYes) rfl sc_sure_part.nd (pi_list (pv 0)) (blkOk_by (own := [("top", 1), ("below", 2)]) (N := ["corners", "top", "below", "part"]) (sc := defScope s_sure_part) (by decide +kernel)) (fun _ _ _ _ _ => (pg_tup rfl (pgs_cons (pg_name (i := 1) sc_sure_part.nd rfl (Or.inl rfl)) (pgs_cons (pg_name (i := 2) sc_sure_part.nd rfl (Or.inl rfl)) pgs_nil)))) (fun _ _ _ _ _ => pts_nil) (fun _ _ _ _ _ => (pv 2))) pa_nil)) pe_int (nomark _))
      (pss_one (ps_ret pe_non)) pss_nil)
    (pss_cons (ps_set (i := 3) sc_sure_part.nd rfl (Or.inl rfl) (pe_op (op_fdivM T.seer (NoTree.tree (P := P)) hr (by first | decide | omega) rfl rfl rfl) (pe_ix ix_tup (pe_ix ix_list (pv 0) pe_int (fun _ _ => rfl)) pe_int (fun _ _ => rfl)) (pe_ix ix_tup (pe_ix ix_list (pv 0) pe_int (fun _ _ => rfl)) pe_int (fun _ _ => rfl))))
    (pss_cons (ps_for PassesOwn.never rfl (pi_list (pv 0)) (pg_tup rfl (pgs_cons (pg_name (i := 1) sc_sure_part.nd rfl (Or.inl rfl)) (pgs_cons (pg_name (i := 2) sc_sure_part.nd rfl (Or.inl rfl)) pgs_nil)))
      (pss_one (ps_if (pt_not (pt_chain op_le op_le (pe_op op_mulW (pv 3) (pv 2)) (pv 1) (pe_op op_mulW (pe_op op_add (pv 3) pe_int) (pv 2))))
      (pss_one (ps_ret pe_non)) pss_nil)))
    (pss_one (ps_ret (pv 3))))))), ?_⟩
    match cs, ts, hts, h0 with
    | c0 :: cr, t0 :: tr, hts, _ =>
    have ht0 := hts.1
    refine ⟨fun σ H' => ∃ l', σ = [some (V.ref l'), none, none, none] ∧ CornersAt K H' l' (flipped (c0 :: cr)) ∧ Same H H', ?_, ?_⟩
    · refine ⟨_, rfl, l, _, 0, _, rfl, rfl, hl, atI_nat (j := 0) rfl, t0, _, 1, _, rfl, rfl, ht0, atI_nat (j := 1) rfl, _, _, rfl, rfl, _, rfl, ite2 (fun c => ?_) (fun c => ?_)⟩
      · have cn : c0.2 < 0 := of_decide_eq_true c
        refine ⟨_, rfl, l, rfl, ⟨_, hl⟩, fun D0 nD => lc_list (K := K) (a := l) (xs := (t0 :: tr).map V.ref) (fun i H' => Same H H' ∧ ∃ us : List Addr, H' D0 = some (.lst (us.map V.ref)) ∧ us.length ≤ i ∧ PairsAt K H' us (((c0 :: cr).take i).map fun d => (-d.1, -d.2)))
          ⟨same_upd nD, [], upd_same, Nat.zero_le _, trivial⟩ (fun i H' _ z => sqL_same hl z.1) ?_ ?_⟩
        · rintro i x H' hx ⟨s1, us, hD, hu, hus⟩
          obtain ⟨t, d, rfl, ed, htd⟩ := hts.at_ hx
          refine ⟨t, _, rfl, sqT_same htd s1, rfl, _, _, rfl, _, _, rfl, rfl, rfl, ?_⟩
          refine ⟨_, rfl, _, rfl, _, rfl, _, rfl, (by show 2 ≤ sizeLine; decide), fun q nq => ?_⟩
          have s2 := same_upd (o := .tup [V.int (-d.1), .int (-d.2)]) nq
          have hi : i < 4 := by
            have := (List.getElem?_eq_some_iff.mp ed).1
            omega
          refine ⟨_, s2 _ _ hD, ?_, ?_, us ++ [q], ?_, ?_, ?_⟩
          · rw [List.length_map]
            exact Nat.lt_of_le_of_lt hu (Nat.lt_of_lt_of_le hi (by decide))
          · intro b o z
            rw [upd_ne (ne_of_none z nD)]
            exact s2 _ _ (s1 _ _ z)
          · rw [upd_same, List.map_append]
            rfl
          · rw [List.length_append]
            exact Nat.succ_le_succ hu
          · rw [List.take_add_one, ed, List.map_append]
            exact PairsAt.snoc (c := (-d.1, -d.2)) (sqT_lst (SqT.of upd_same) (s2 _ _ hD)) (PairsAt.lst (s2 _ _ hD) (hus.same s2))
        · rintro H' ⟨s1, us, hD, hu, hus⟩
          refine ⟨D0, rfl, ⟨us, SqL.of hD, ?_⟩, s1⟩
          rw [List.length_map, hts.len, List.take_of_length_le (Nat.le_refl _)] at hus
          unfold flipped
          rw [List.getD_cons_zero, if_pos cn]
          exact hus
      · refine ⟨l, rfl, ⟨_, hl, ?_⟩, Same.refl H⟩
        unfold flipped
        rw [List.getD_cons_zero, if_neg (fun z => c (decide_eq_true z))]
        exact hts
    · rintro σ H1 ⟨l1, rfl, ⟨us, hl1, hus⟩, s1⟩
      have hfd : ∀ d ∈ flipped (c0 :: cr), fits d.1 ∧ fits d.2 := by
        unfold flipped
        split
        · intro d hd
          obtain ⟨c, hc, rfl⟩ := List.mem_map.mp hd
          exact ⟨fits_neg (hf c hc).1, fits_neg (hf c hc).2⟩
        · exact hf
      have hlen : (flipped (c0 :: cr)).length = (c0 :: cr).length := by
        unfold flipped
        split
        · rw [List.length_map]
        · rfl
      have eS : surePart (c0 :: cr) = (if (flipped (c0 :: cr)).all (fun d => decide (0 < d.2)) then
        (if (flipped (c0 :: cr)).all (fun d => decide (((flipped (c0 :: cr)).getD 0 (0, 0)).1.fdiv ((flipped (c0 :: cr)).getD 0 (0, 0)).2 * d.2 ≤ d.1) && decide (d.1 ≤ (((flipped (c0 :: cr)).getD 0 (0, 0)).1.fdiv ((flipped (c0 :: cr)).getD 0 (0, 0)).2 + 1) * d.2)) then some (((flipped (c0 :: cr)).getD 0 (0, 0)).1.fdiv ((flipped (c0 :: cr)).getD 0 (0, 0)).2) else none) else none) := rfl
      rw [eS] at k
      clear eS
      have hle : (flipped (c0 :: cr)).length ≤ 4 := by rw [hlen]; exact h4
      have hge : 0 < (flipped (c0 :: cr)).length := by rw [hlen]; exact Nat.succ_pos _
      generalize flipped (c0 :: cr) = ds at *
      match ds, us, hus, hge with
      | d0 :: dr, u0 :: ur, hus, _ =>
      have hu0 := hus.1
      refine ⟨_, rfl, l1, rfl, ⟨_, hl1⟩, fun D1 nD1 => lc_list (K := K) (a := l1) (xs := (u0 :: ur).map V.ref) (fun i H' => Same H1 H' ∧ H' D1 = some (.lst ((((d0 :: dr).take i).map fun d => d.2).map V.int)))
          ⟨same_upd nD1, upd_same⟩ (fun i H' _ z => sqL_same hl1 z.1) ?_ ?_⟩
      · rintro i x H' hx ⟨s2, hD⟩
        obtain ⟨t, d, rfl, ed, htd⟩ := hus.at_ hx
        refine ⟨t, _, rfl, sqT_same htd s2, rfl, _, _, rfl, _, _, rfl, rfl, rfl, ?_⟩
        have hi : i < 4 := by
          have := (List.getElem?_eq_some_iff.mp ed).1
          omega
        refine ⟨_, rfl, _, hD, ?_, ?_, ?_⟩
        · rw [List.length_map, List.length_map, List.length_take]
          exact Nat.lt_of_le_of_lt (Nat.min_le_left _ _) (Nat.lt_of_lt_of_le hi (by decide))
        · intro b o z
          rw [upd_ne (ne_of_none z nD1)]
          exact s2 _ _ z
        · rw [upd_same, List.take_add_one, ed]
          simp
      · rintro H2 ⟨s2, hD⟩
        rw [List.length_map, hus.len, List.take_of_length_le (Nat.le_refl _)] at hD
        refine ⟨D1, _, rfl, SqL.of hD, (by rw [List.length_map]; exact Nat.succ_pos _), fun m hm hmin => ⟨_, _, rfl, rfl, _, rfl, ite2 (fun c => ?_) (fun c => ?_)⟩⟩
        · have mn : m ≤ 0 := of_decide_eq_true c
          have := k H2 (s1.trans s2)
          rw [if_neg ?_] at this
          · exact this
          · intro z
            obtain ⟨d, hd, rfl⟩ := List.mem_map.mp hm
            have := of_decide_eq_true (List.all_eq_true.mp z d hd)
            omega
        · have mp : 0 < m := by
            have : ¬ m ≤ 0 := fun z => c (decide_eq_true z)
            omega
          have pos : ∀ d ∈ d0 :: dr, 0 < d.2 := fun d hd => by
            have := hmin d.2 (List.mem_map.mpr ⟨d, hd, rfl⟩)
            omega
          have k1 := k
          rw [if_pos (List.all_eq_true.mpr fun d hd => decide_eq_true (pos d hd)), List.getD_cons_zero] at k1
          have p0 := pos d0 List.mem_cons_self
          have f0 := hfd d0 List.mem_cons_self
          have hu02 := sqT_same hu0 s2
          have hl12 := sqL_same hl1 s2
          have fq : fits (d0.1.fdiv d0.2) := Nat.lt_of_le_of_lt (fdiv_abs (by omega)) f0.1
          refine ⟨_, rfl, l1, _, 0, _, rfl, rfl, hl12, atI_nat (j := 0) rfl, u0, _, 0, _, rfl, rfl, hu02, atI_nat (j := 0) rfl, _, rfl, l1, _, 0, _, rfl, rfl, hl12, atI_nat (j := 0) rfl, u0, _, 1, _, rfl, rfl, hu02, atI_nat (j := 1) rfl, _, _, rfl, rfl, (show CDivM _ _ by show _ ≠ _; omega), ?_⟩
          obtain ⟨q, hq⟩ : ∃ q, d0.1.fdiv d0.2 = q := ⟨_, rfl⟩
          rw [hq] at fq
          simp only [hq] at k1
          refine ⟨_, rfl, l1, rfl, ⟨_, hl12⟩, for_list (K := K) (a := l1) (xs := (u0 :: ur).map V.ref) (fun i σ H' => ∃ v1 v2, σ = [some (V.ref l1), v1, v2, some (V.int q)] ∧ H' = H2 ∧ ((d0 :: dr).take i).all (fun d => decide (q * d.2 ≤ d.1) && decide (d.1 ≤ (q + 1) * d.2)) = true)
            ⟨none, none, (by rw [← hq]; rfl), rfl, rfl⟩ (fun i σ H' _ ⟨_, _, _, e, _⟩ => by rw [e]; exact hl12) ?_ ?_⟩
          · rintro i x σ H' hx ⟨v1, v2, rfl, rfl, hall⟩
            obtain ⟨t, d, rfl, ed, htd⟩ := hus.at_ hx
            have hd : d ∈ d0 :: dr := List.mem_of_getElem? ed
            have fd' := hfd d hd
            have done : ¬ (decide (q * d.2 ≤ d.1) && decide (d.1 ≤ (q + 1) * d.2)) = true → Q .non H' := fun z => by
              have := k1 H' (s1.trans s2)
              rw [if_neg (fun y => z (List.all_eq_true.mp y d hd))] at this
              exact this
            refine ⟨t, _, rfl, sqT_same htd s2, rfl, _, _, rfl, _, _, rfl, rfl, ?_⟩
            refine ⟨_, rfl, _, rfl, _, _, rfl, rfl, fits_mul fq fd'.2, _, rfl, _, _, rfl, rfl, _, rfl, ite2 (fun c1 => ?_) (fun c1 => ?_)⟩
            · refine ⟨_, rfl, _, _, rfl, rfl, _, rfl, _, _, rfl, rfl, fits_mul1 fq fd'.2, _, _, rfl, rfl, _, rfl, ite2 (fun c2 => ?_) (fun c2 => ?_)⟩
              · refine done fun z => ?_
                rw [Bool.and_eq_true] at z
                rw [z.2] at c2
                cases c2
              · refine ⟨_, _, rfl, rfl, ?_⟩
                rw [List.take_add_one, ed, List.all_append, hall]
                have : decide (d.1 ≤ (q + 1) * d.2) = true := by
                  cases e : decide (d.1 ≤ (q + 1) * d.2) with
                  | true => rfl
                  | false => exact absurd (by rw [e]; rfl) c2
                simp only [Option.toList_some, List.all_cons, List.all_nil, Bool.and_true, c1, this]
            · refine ⟨_, rfl, iteT ?_⟩
              refine done fun z => ?_
              rw [Bool.and_eq_true] at z
              exact c1 z.1
          · rintro σ H' ⟨v1, v2, rfl, rfl, hall⟩
            rw [List.length_map, hus.len, List.take_of_length_le (Nat.le_refl _)] at hall
            refine ⟨_, rfl, ?_⟩
            have := k1 H' (s1.trans s2)
            rw [if_pos hall] at this
            exact this
end
/-! ### boxes: fractions, fours, eights -/
def fbF (t b : Int) (told : Bool) : Flds := [("top", .int t), ("below", .int b), ("told", .bl told)]
def foF (p x : Addr) (st told : Bool) (r : V) : Flds := [("numbers", .ref p), ("tree", .ref x), ("started", .bl st), ("told", .bl told), ("rest", r)]
def eiF (p q l : Addr) (told : Bool) (r : V) : Flds := [("numbers", .ref p), ("trees", .ref q), ("taken", .ref l), ("told", .bl told), ("rest", r)]
section
variable {P : Program} [NoTree P] {w : World} {K : PySem.W.Frag} {mg : Str → Option Value} {base : Heap} {A : Ad}
theorem ok_FractionBox_init (T : CT K mg A) (D : DT K mg A) : IOk P w K mg base 1 "FractionBox" A.c_FractionBox ["self", "top", "below", "told"] (sp_ini A.c_FractionBox 3 fun us => [("top", us.getD 0 .non), ("below", us.getD 1 .non), ("told", us.getD 2 .non)]) := by
  refine IOk.of T.g_FractionBox D.FractionBox_init fun f fd F => ?_
  refine F.ok sc_FractionBox_init (fun vs H Q E h => ?_) (fun cdv Ar outer s H vs Q E hr h => ?_)
  · obtain ⟨p, dx, us, rfl, hl, _⟩ := h
    show us.length + 1 = 4
    omega
  · obtain ⟨p, dx, us, rfl, hl, hp, k⟩ := h
    match us, hl with
    | [u0, u1, u2], _ =>
      refine ⟨_, (pss_cons (ps_fld (pv 0) (pv 1) rfl)
    (pss_cons (ps_fld (pv 0) (pv 2) rfl)
    (pss_one (ps_fld (pv 0) (pv 3) rfl)))), ?_⟩
      refine ⟨_, rfl, _, rfl, p, _, dx, [], rfl, hp, T.cl_FractionBox, T.n_FractionBox_top, (by show 0 < 1000; decide), ?_⟩
      refine ⟨_, rfl, _, rfl, p, _, dx, _, rfl, upd_same, T.cl_FractionBox, T.n_FractionBox_below, (by show 1 < 1000; decide), ?_⟩
      refine ⟨_, rfl, _, rfl, p, _, dx, _, rfl, upd_same, T.cl_FractionBox, T.n_FractionBox_told, (by show 2 < 1000; decide), ?_⟩
      refine cast (congrArg (Q V.non) ?_) k
      rw [upd_upd, upd_upd]
      rfl
def sp_nothing_left (A : Ad) : Sp := fun vs H Q E => ∃ (a dx : Addr) (t b : Int) (told : Bool), vs = [.ref a] ∧ H a = some (.ins A.c_FractionBox dx (fbF t b told)) ∧
  (told = true → Q (.ref A.k_END) H) ∧ (told = false → E (.ref A.c_NoValue) none H)
theorem ok_nothing_left (T : CT K mg A) (D : DT K mg A) : MOk P w K mg base (L2.CX P w) 1 A.c_FractionBox "nothing_left" ["self"] (sp_nothing_left A) := by
  refine MOk.of T.cl_FractionBox D.FractionBox_nothing_left fun f fd F => ?_
  refine F.okX sc_FractionBox_nothing_left (fun vs H Q E h => ?_) (fun cdv Ar outer s H vs Q E hr h => ?_)
  · obtain ⟨a, dx, t, b, told, rfl, _⟩ := h
    rfl
  · obtain ⟨a, dx, t, b, told, rfl, ha, k1, k2⟩ := h
    refine ⟨_, (pss_cons (ps_if (pt_val (pe_fld (pv 0) rfl))
      (pss_one (ps_ret (pe_glob (v := .ref A.k_END) (by rfl) T.g_END rfl))) pss_nil)
    (pss_one (ps_raise rfl (takes_of rfl rfl rfl rfl) (pmk_own PySem.F.excBase_ValueError T.x_NoValue.x T.x_NoValue.g T.x_NoValue.k (raises_own T.x_NoValue.b T.x_NoValue.t) rfl)))), ?_⟩
    refine ⟨_, rfl, a, _, dx, _, _, rfl, ha, T.cl_FractionBox, T.n_FractionBox_told, rfl, ?_⟩
    cases told with
    | true => exact ⟨true, rfl, k1 rfl⟩
    | false => exact ⟨false, rfl, k2 rfl⟩
/-- a fraction box, asked: its parts cost nothing -/
def sp_fb (A : Ad) (K : PySem.W.Frag) : Sp := fun vs H Q E => ∃ (a dx : Addr) (m : V) (t b : Int) (told : Bool), vs = [.ref a, m] ∧ H a = some (.ins A.c_FractionBox dx (fbF t b told)) ∧ fits t ∧ fits b ∧
  (b = 0 → told = true → Q (.ref A.k_END) H) ∧ (b = 0 → told = false → E (.ref A.c_NoValue) none H) ∧
  (b ≠ 0 → ∀ r H', H' r = some (.tup [.str "part", .int (t.fdiv b)]) → H' a = some (.ins A.c_FractionBox dx (fbF b (t - t.fdiv b * b) true)) → (∀ c o, H c = some o → c ≠ a → H' c = some o) → Q (.ref r) H')
theorem ok_FractionBox_ask (T : CT K mg A) (D : DT K mg A) : MOk P w K mg base (L2.CX P w) 35 A.c_FractionBox "ask" ["self", "meter"] (sp_fb A K) := by
  have M_nothing := ok_nothing_left (P := P) (w := w) (base := base) T D
  have G_turned_over := ok_turned_over (P := P) (w := w) (base := base) T D
  refine MOk.of T.cl_FractionBox D.FractionBox_ask fun f fd F => ?_
  refine F.okX (k := 34) sc_FractionBox_ask (fun vs H Q E h => ?_) (fun cdv Ar outer s H vs Q E hr h => ?_)
  · obtain ⟨a, dx, m, t, b, told, rfl, _⟩ := h
    rfl
  · obtain ⟨a, dx, m, t, b, told, rfl, ha, ft, fb, k1, k2, k3⟩ := h
    refine ⟨_, (pss_cons (ps_if (pt_cmpR op_eq (pe_fld (pv 0) rfl) pe_int (nomark _))
      (pss_one (ps_ret (pe_mX0 M_nothing (hr.mono (by first | decide | omega)) (passes_tk (takes_of rfl rfl rfl rfl)) (pv 0)))) pss_nil)
    (pss_cons (ps_set (i := 2) sc_FractionBox_ask.nd rfl (Or.inl rfl) (pe_op (op_fdivM T.seer (NoTree.tree (P := P)) hr (by first | decide | omega) rfl rfl rfl) (pe_fld (pv 0) rfl) (pe_fld (pv 0) rfl)))
    (pss_cons (ps_asg (pe_c G_turned_over (hr.mono (by first | decide | omega)) (pa_cons (pe_tup (pa_cons (pe_fld (pv 0) rfl) (pa_cons (pe_fld (pv 0) rfl) pa_nil))) (pa_cons (pv 2) pa_nil))) (pg_tup rfl (pgs_cons (pg_fld (pv 0)) (pgs_cons (pg_fld (pv 0)) pgs_nil))))
    (pss_cons (ps_fld (pv 0) pe_bl rfl)
    (pss_one (ps_ret (pe_tup (pa_cons pe_str (pa_cons (pv 2) pa_nil))))))))), ?_⟩
    have cl := T.cl_FractionBox
    refine ⟨_, rfl, a, _, dx, _, _, rfl, ha, cl, T.n_FractionBox_below, rfl, rfl, _, rfl, ite2 (fun c => ?_) (fun c => ?_)⟩
    · have hb : b = 0 := V.int.inj (of_decide_eq_true c)
      exact ⟨_, rfl, a, dx, _, rfl, ha, rfl, a, dx, t, b, told, rfl, ha, k1 hb, k2 hb⟩
    · have hb : b ≠ 0 := fun z => c (decide_eq_true (by rw [z]))
      refine ⟨_, rfl, a, _, dx, _, _, rfl, ha, cl, T.n_FractionBox_top, rfl, _, rfl, a, _, dx, _, _, rfl, ha, cl, T.n_FractionBox_below, rfl, _, _, rfl, rfl, hb, ?_⟩
      have fq : fits (t.fdiv b) := Nat.lt_of_le_of_lt (fdiv_abs hb) ft
      refine ⟨_, rfl, a, _, dx, _, _, rfl, ha, cl, T.n_FractionBox_top, rfl, _, rfl, a, _, dx, _, _, rfl, ha, cl, T.n_FractionBox_below, rfl, (by show 2 ≤ sizeLine; decide), fun q nq => ?_⟩
      have s1 := same_upd (o := .tup [V.int t, .int b]) nq
      refine ⟨_, rfl, q, [t, b], t.fdiv b, rfl, SqT.of upd_same, ⟨1, rfl, by decide, by decide⟩, (by intro z hz; simp at hz; rcases hz with rfl | rfl <;> assumption), fq, fun r H1 hr1 s2 => ?_⟩
      have ss := s1.trans s2
      have et : turnedOver [t, b] (t.fdiv b) = [b, t - t.fdiv b * b] := by simp [turnedOver]
      rw [et] at hr1
      refine ⟨r, _, rfl, hr1, rfl, _, _, rfl, _, rfl, a, _, dx, _, rfl, ss _ _ ha, cl, T.n_FractionBox_top, (by show 3 < 1000; decide), ?_⟩
      refine ⟨_, _, rfl, _, rfl, a, _, dx, _, rfl, upd_same, cl, T.n_FractionBox_below, (by show 3 < 1000; decide), rfl, ?_⟩
      refine ⟨_, rfl, a, _, dx, _, rfl, upd_same, cl, T.n_FractionBox_told, (by show 3 < 1000; decide), ?_⟩
      refine ⟨_, rfl, (by show 2 ≤ sizeLine; decide), fun u nu => ?_⟩
      have s3 := same_upd (o := .tup [V.str "part", .int (t.fdiv b)]) nu
      rw [upd_upd, upd_upd] at *
      exact k3 hb u _ upd_same (s3 _ _ upd_same) fun c o e hc => s3 _ _ (by rw [upd_ne hc]; exact ss _ _ e)
theorem ok_FourBox_init (T : CT K mg A) (D : DT K mg A) : IOk P w K mg base 1 "FourBox" A.c_FourBox ["self", "numbers", "tree", "started", "told"] (sp_ini A.c_FourBox 4 fun us => [("numbers", us.getD 0 .non), ("tree", us.getD 1 .non), ("started", us.getD 2 .non), ("told", us.getD 3 .non), ("rest", .non)]) := by
  refine IOk.of T.g_FourBox D.FourBox_init fun f fd F => ?_
  refine F.ok sc_FourBox_init (fun vs H Q E h => ?_) (fun cdv Ar outer s H vs Q E hr h => ?_)
  · obtain ⟨p, dx, us, rfl, hl, _⟩ := h
    show us.length + 1 = 5
    omega
  · obtain ⟨p, dx, us, rfl, hl, hp, k⟩ := h
    match us, hl with
    | [u0, u1, u2, u3], _ =>
      refine ⟨_, (pss_cons (ps_fld (pv 0) (pv 1) rfl)
    (pss_cons (ps_fld (pv 0) (pv 2) rfl)
    (pss_cons (ps_fld (pv 0) (pv 3) rfl)
    (pss_cons (ps_fld (pv 0) (pv 4) rfl)
    (pss_one (ps_fld (pv 0) pe_non rfl)))))), ?_⟩
      refine ⟨_, rfl, _, rfl, p, _, dx, [], rfl, hp, T.cl_FourBox, T.n_FourBox_numbers, (by show 0 < 1000; decide), ?_⟩
      refine ⟨_, rfl, _, rfl, p, _, dx, _, rfl, upd_same, T.cl_FourBox, T.n_FourBox_tree, (by show 1 < 1000; decide), ?_⟩
      refine ⟨_, rfl, _, rfl, p, _, dx, _, rfl, upd_same, T.cl_FourBox, T.n_FourBox_started, (by show 2 < 1000; decide), ?_⟩
      refine ⟨_, rfl, _, rfl, p, _, dx, _, rfl, upd_same, T.cl_FourBox, T.n_FourBox_told, (by show 3 < 1000; decide), ?_⟩
      refine ⟨_, rfl, p, _, dx, _, rfl, upd_same, T.cl_FourBox, T.n_FourBox_rest, (by show 4 < 1000; decide), ?_⟩
      refine cast (congrArg (Q V.non) ?_) k
      rw [upd_upd, upd_upd, upd_upd, upd_upd]
      rfl
/-- a part is told: the four's numbers are turned over -/
def sp_four_tell (A : Ad) (K : PySem.W.Frag) : Sp := fun vs H Q _ => ∃ (a dx p x : Addr) (ns : List Int) (st told : Bool) (q : Int), vs = [.ref a, .int q] ∧ H a = some (.ins A.c_FourBox dx (foF p x st told .non)) ∧ SqT K H p (ns.map V.int) ∧ ns.length = 4 ∧ (∀ z ∈ ns, fits z) ∧ fits q ∧
  ∀ r p' H', H' r = some (.tup [.str "part", .int q]) → H' a = some (.ins A.c_FourBox dx (foF p' x st true .non)) → SqT K H' p' ((turnedOver ns q).map V.int) → (∀ c o, H c = some o → c ≠ a → H' c = some o) → Q (.ref r) H'
theorem ok_FourBox_tell (T : CT K mg A) (D : DT K mg A) : MOk P w K mg base CX0 2 A.c_FourBox "tell" ["self", "part"] (sp_four_tell A K) := by
  have G_turned_over := ok_turned_over (P := P) (w := w) (base := base) T D
  refine MOk.of T.cl_FourBox D.FourBox_tell fun f fd F => ?_
  refine F.ok sc_FourBox_tell (fun vs H Q E h => ?_) (fun cdv Ar outer s H vs Q E hr h => ?_)
  · obtain ⟨a, dx, p, x, ns, st, told, q, rfl, _⟩ := h
    rfl
  · obtain ⟨a, dx, p, x, ns, st, told, q, rfl, ha, hp, hl, hf, fq, k⟩ := h
    refine ⟨_, (pss_cons (ps_fld (pv 0) (pe_c G_turned_over (hr.mono (by first | decide | omega)) (pa_cons (pe_fld (pv 0) rfl) (pa_cons (pv 1) pa_nil))) rfl)
    (pss_cons (ps_fld (pv 0) pe_bl rfl)
    (pss_one (ps_ret (pe_tup (pa_cons pe_str (pa_cons (pv 1) pa_nil))))))), ?_⟩
    have cl := T.cl_FourBox
    refine ⟨_, rfl, a, _, dx, _, _, rfl, ha, cl, T.n_FourBox_numbers, rfl, _, rfl, p, ns, q, rfl, hp, ⟨2, hl, by decide, by decide⟩, hf, fq, fun p' H1 hp1 s1 => ?_⟩
    refine ⟨_, rfl, a, _, dx, _, rfl, s1 _ _ ha, cl, T.n_FourBox_numbers, (by show 5 < 1000; decide), ?_⟩
    refine ⟨_, rfl, a, _, dx, _, rfl, upd_same, cl, T.n_FourBox_told, (by show 5 < 1000; decide), ?_⟩
    refine ⟨_, rfl, (by show 2 ≤ sizeLine; decide), fun u nu => ?_⟩
    have s3 := same_upd (o := .tup [V.str "part", .int q]) nu
    rw [upd_upd] at *
    exact k u p' _ upd_same (s3 _ _ upd_same) (sqT_same (sqT_ins hp1 (s1 _ _ ha)) s3) fun c o e hc => s3 _ _ (by rw [upd_ne hc]; exact s1 _ _ e)
def Ans.isFin : Ans → Bool
  | .fin => true
  | _ => false
def Ans.isWaits : Ans → Bool
  | .waits => true
  | _ => false
theorem eqv_fin (a : Ans) : PyData.eqv (.tuple a.data) (.tuple Ans.fin.data) = a.isFin := by
  cases a with
  | part n => rfl
  | fin => rfl
  | waits => rfl
theorem eqv_waits (a : Ans) : PyData.eqv (.tuple a.data) (.tuple Ans.waits.data) = a.isWaits := by
  cases a with
  | part n => rfl
  | fin => rfl
  | waits => rfl
/-- what a four's tree told is taken -/
def sp_four_take (A : Ad) (K : PySem.W.Frag) : Sp := fun vs H Q _ => ∃ (a dx p x : Addr) (ns : List Int) (st told : Bool) (v : V) (an : Ans), vs = [.ref a, v] ∧ an.At A H v ∧ H a = some (.ins A.c_FourBox dx (foF p x st told .non)) ∧ SqT K H p (ns.map V.int) ∧ ns.length = 4 ∧ (∀ z ∈ ns, fits z) ∧
  match an with
  | .waits => False
  | .fin => ∀ r dr H', H' a = some (.ins A.c_FourBox dx (foF p x st told (.ref r))) → H' r = some (.ins A.c_FractionBox dr (fbF (ns.getD 0 0) (ns.getD 2 0) told)) → H r = none → (∀ c o, H c = some o → c ≠ a → H' c = some o) → Q .non H'
  | .part q => fits q ∧ ∀ p' H', H' a = some (.ins A.c_FourBox dx (foF p' x true told .non)) → SqT K H' p' ((withOne ns q).map V.int) → (∀ c o, H c = some o → c ≠ a → H' c = some o) → Q .non H'
theorem ok_FourBox_take (T : CT K mg A) (D : DT K mg A) : MOk P w K mg base CX0 3 A.c_FourBox "take" ["self", "answer"] (sp_four_take A K) := by
  have I_FractionBox := ok_FractionBox_init (P := P) (w := w) (base := base) T D
  refine MOk.of T.cl_FourBox D.FourBox_take fun f fd F => ?_
  refine F.ok sc_FourBox_take (fun vs H Q E h => ?_) (fun cdv Ar outer s H vs Q E hr h => ?_)
  · obtain ⟨a, dx, p, x, ns, st, told, v, an, rfl, _⟩ := h
    rfl
  · obtain ⟨a, dx, p, x, ns, st, told, v, an, rfl, hv, ha, hp, hl, hf, k⟩ := h
    refine ⟨_, (pss_cons (ps_asg (pe_fld (pv 0) rfl) (pg_tup rfl (pgs_cons (pg_name (i := 2) sc_FourBox_take.nd rfl (Or.inl rfl)) (pgs_cons (pg_name (i := 3) sc_FourBox_take.nd rfl (Or.inl rfl)) (pgs_cons (pg_name (i := 4) sc_FourBox_take.nd rfl (Or.inl rfl)) (pgs_cons (pg_name (i := 5) sc_FourBox_take.nd rfl (Or.inl rfl)) pgs_nil))))))
    (pss_cons (ps_if (pt_cmpR (op_eqD hr.units) (pv 1) (pe_glob (v := .ref A.k_END) (by rfl) T.g_END rfl) (nomark _))
      (pss_cons (ps_fld (pv 0) (pe_mk I_FractionBox (hr.mono (by first | decide | omega)) (pa_cons (pv 2) (pa_cons (pv 4) (pa_cons (pe_fld (pv 0) rfl) pa_nil)))) rfl)
    (pss_one ps_retN)) pss_nil)
    (pss_cons (ps_set (i := 6) sc_FourBox_take.nd rfl (Or.inl rfl) (pe_ix ix_tup (pv 1) pe_int (fun _ _ => rfl)))
    (pss_cons (ps_fld (pv 0) (pe_tup (pa_cons (pe_op op_add (pe_op op_mulW (pv 2) (pv 6)) (pv 3)) (pa_cons (pv 2) (pa_cons (pe_op op_add (pe_op op_mulW (pv 4) (pv 6)) (pv 5)) (pa_cons (pv 4) pa_nil))))) rfl)
    (pss_one (ps_fld (pv 0) pe_bl rfl)))))), ?_⟩
    have cl := T.cl_FourBox
    match ns, hl with
    | [n0, n1, n2, n3], _ =>
      refine ⟨_, rfl, a, _, dx, _, _, rfl, ha, cl, T.n_FourBox_numbers, rfl, p, _, rfl, hp, rfl, _, _, rfl, _, _, rfl, _, _, rfl, _, _, rfl, rfl, ?_⟩
      obtain ⟨pv', rfl, hpv⟩ := hv.tup T
      have hE : SqT K H A.k_END Ans.fin.vals := T.t_END H
      refine ⟨_, rfl, _, _, an.dp hpv, Ans.fin.dp hE, an.shaped, Ans.fin.shaped, _, rfl, ?_⟩
      rw [eqv_fin]
      cases an with
      | waits => exact k.elim
      | fin =>
        refine iteT ⟨_, rfl, _, rfl, _, rfl, a, _, dx, _, _, rfl, ha, cl, T.n_FourBox_told, rfl, fun r dr nr nd ne => ?_⟩
        refine ⟨r, dr, _, rfl, rfl, upd_same, rfl, ?_⟩
        rw [upd_upd]
        have s1 := made_same (o := .own r) (o' := .ins A.c_FractionBox dr [("top", .int n0), ("below", .int n2), ("told", .bl told)]) nr nd
        refine ⟨_, rfl, a, _, dx, _, rfl, s1 _ _ ha, cl, T.n_FourBox_rest, (by show 5 < 1000; decide), ?_⟩
        exact k r dr _ upd_same (by rw [upd_ne (ne_of_none ha nr).symm]; exact upd_same) nr fun c o e hc => by rw [upd_ne hc]; exact s1 _ _ e
      | part q =>
        obtain ⟨fq, k⟩ := k
        refine iteF ⟨_, rfl, pv', _, 1, _, rfl, rfl, hpv, atI_nat (j := 1) rfl, ?_⟩
        refine ⟨_, rfl, _, rfl, _, _, rfl, rfl, fits_mul (hf n0 (by simp)) fq, _, rfl, _, _, rfl, rfl, _, rfl, _, rfl, _, rfl, _, _, rfl, rfl, fits_mul (hf n2 (by simp)) fq, _, rfl, _, _, rfl, rfl, _, rfl, (by show 4 ≤ sizeLine; decide), fun p' np => ?_⟩
        have s1 := same_upd (o := .tup [V.int (n0 * q + n1), .int n0, .int (n2 * q + n3), .int n2]) np
        refine ⟨_, rfl, a, _, dx, _, rfl, s1 _ _ ha, cl, T.n_FourBox_numbers, (by show 5 < 1000; decide), ?_⟩
        refine ⟨_, rfl, a, _, dx, _, rfl, upd_same, cl, T.n_FourBox_started, (by show 5 < 1000; decide), ?_⟩
        rw [upd_upd]
        exact k p' _ upd_same (sqT_ins (SqT.of upd_same) (s1 _ _ ha)) fun c o e hc => by rw [upd_ne hc]; exact s1 _ _ e
theorem ne_of_nd {i j : Int} (c : (!decide (V.int i = V.int j)) = true) : i ≠ j := fun z => by
  rw [z, decide_eq_true rfl] at c
  cases c
theorem eq_of_nd {i j : Int} (c : ¬ (!decide (V.int i = V.int j)) = true) : i = j := by
  rcases Decidable.em (i = j) with z | z
  · exact z
  · exact absurd (by rw [decide_eq_false (fun q => z (V.int.inj q))]; rfl) c
/-- the box of one tree alone -/
def OneIs (A : Ad) (p x : Addr) (ns : List Int) (told : Bool) (C : Addr) (fs : Flds) : Prop :=
  (ns.getD 0 0 * ns.getD 3 0 ≠ ns.getD 1 0 * ns.getD 2 0 ∧ C = A.c_FourBox ∧ fs = foF p x true told .non) ∨
  (ns.getD 0 0 * ns.getD 3 0 = ns.getD 1 0 * ns.getD 2 0 ∧ ns.getD 2 0 ≠ 0 ∧ C = A.c_FractionBox ∧ fs = fbF (ns.getD 0 0) (ns.getD 2 0) told) ∨
  (ns.getD 0 0 * ns.getD 3 0 = ns.getD 1 0 * ns.getD 2 0 ∧ ns.getD 2 0 = 0 ∧ C = A.c_FractionBox ∧ fs = fbF (ns.getD 1 0) (ns.getD 3 0) told)
def sp_box_of_one (A : Ad) (K : PySem.W.Frag) : Sp := fun vs H Q _ => ∃ (p x : Addr) (ns : List Int) (told : Bool), vs = [.ref p, .ref x, .bl told] ∧ SqT K H p (ns.map V.int) ∧ ns.length = 4 ∧ (∀ z ∈ ns, fits z) ∧
  ∀ r dr C fs H', H r = none → Same H H' → H' r = some (.ins C dr fs) → OneIs A p x ns told C fs → Q (.ref r) H'
theorem ok_box_of_one (T : CT K mg A) (D : DT K mg A) : COk P w K mg base CX0 3 "box_of_one" ["numbers", "tree", "told"] (sp_box_of_one A K) := by
  have I_FractionBox := ok_FractionBox_init (P := P) (w := w) (base := base) T D
  have I_FourBox := ok_FourBox_init (P := P) (w := w) (base := base) T D
  refine COk.by D.box_of_one fun f fd F => ?_
  refine F.ok sc_box_of_one (fun vs H Q E h => ?_) (fun cdv Ar outer s H vs Q E hr h => ?_)
  · obtain ⟨p, x, ns, told, rfl, _⟩ := h
    rfl
  · obtain ⟨p, x, ns, told, rfl, hp, hl, hf, k⟩ := h
    refine ⟨_, (pss_cons (ps_asg (pv 0) (pg_tup rfl (pgs_cons (pg_name (i := 3) sc_box_of_one.nd rfl (Or.inl rfl)) (pgs_cons (pg_name (i := 4) sc_box_of_one.nd rfl (Or.inl rfl)) (pgs_cons (pg_name (i := 5) sc_box_of_one.nd rfl (Or.inl rfl)) (pgs_cons (pg_name (i := 6) sc_box_of_one.nd rfl (Or.inl rfl)) pgs_nil))))))
    (pss_cons (ps_if (pt_cmpR op_ne (pe_op op_mulW (pv 3) (pv 6)) (pe_op op_mulW (pv 4) (pv 5)) (nomark _))
      (pss_one (ps_ret (pe_mk I_FourBox (hr.mono (by first | decide | omega)) (pa_cons (pv 0) (pa_cons (pv 1) (pa_cons pe_bl (pa_cons (pv 2) pa_nil))))))) pss_nil)
    (pss_cons (ps_if (pt_cmpR op_ne (pv 5) pe_int (nomark _))
      (pss_one (ps_ret (pe_mk I_FractionBox (hr.mono (by first | decide | omega)) (pa_cons (pv 3) (pa_cons (pv 5) (pa_cons (pv 2) pa_nil)))))) pss_nil)
    (pss_one (ps_ret (pe_mk I_FractionBox (hr.mono (by first | decide | omega)) (pa_cons (pv 4) (pa_cons (pv 6) (pa_cons (pv 2) pa_nil))))))))), ?_⟩
    match ns, hl with
    | [n0, n1, n2, n3], _ =>
      refine ⟨_, rfl, p, _, rfl, hp, rfl, _, _, rfl, _, _, rfl, _, _, rfl, _, _, rfl, rfl, ?_⟩
      refine ⟨_, rfl, _, rfl, _, _, rfl, rfl, fits_mul (hf n0 (by simp)) (hf n3 (by simp)), _, rfl, _, rfl, _, _, rfl, rfl, fits_mul (hf n1 (by simp)) (hf n2 (by simp)), ?_⟩
      refine ⟨rfl, _, rfl, ite2 (fun c => ?_) (fun c => ?_)⟩
      · have hc : n0 * n3 ≠ n1 * n2 := ne_of_nd c
        refine ⟨_, rfl, _, rfl, _, rfl, fun r dr nr nd ne => ?_⟩
        refine ⟨r, dr, _, rfl, rfl, upd_same, rfl, ?_⟩
        rw [upd_upd]
        exact k r dr _ _ _ nr (made_same nr nd) upd_same (.inl ⟨hc, rfl, rfl⟩)
      · have hc : n0 * n3 = n1 * n2 := eq_of_nd c
        refine ⟨_, rfl, rfl, _, rfl, ite2 (fun c2 => ?_) (fun c2 => ?_)⟩
        · have hc2 : n2 ≠ 0 := ne_of_nd c2
          refine ⟨_, rfl, _, rfl, _, rfl, fun r dr nr nd ne => ?_⟩
          refine ⟨r, dr, _, rfl, rfl, upd_same, rfl, ?_⟩
          rw [upd_upd]
          exact k r dr _ _ _ nr (made_same nr nd) upd_same (.inr (.inl ⟨hc, hc2, rfl, rfl⟩))
        · have hc2 : n2 = 0 := eq_of_nd c2
          refine ⟨_, rfl, _, rfl, _, rfl, fun r dr nr nd ne => ?_⟩
          refine ⟨r, dr, _, rfl, rfl, upd_same, rfl, ?_⟩
          rw [upd_upd]
          exact k r dr _ _ _ nr (made_same nr nd) upd_same (.inr (.inr ⟨hc, hc2, rfl, rfl⟩))
end
/-! ### boxes: eights -/
section
variable {P : Program} [NoTree P] {w : World} {K : PySem.W.Frag} {mg : Str → Option Value} {base : Heap} {A : Ad}
open PySem.Spec PyProof.Rows in
/-- xs[i], to be written again -/
theorem get_listP {X : Cx} : PGet X (fun o i H Q => ∃ (p : Addr) (xs : List V) (j : Nat) (v : V), o = .ref p ∧ i = .int j ∧ SqL X.K H p xs ∧ xs[j]? = some v ∧ Q v H) := by
  intro pins s σ H o i ov iv Q I ro ri h
  obtain ⟨p, xs, j, z, rfl, rfl, hq, he, q⟩ := h
  cases ro
  obtain ⟨t, rfl⟩ := ri
  obtain ⟨its, r, pl, hz⟩ := I.list hq
  obtain ⟨w, ew, rw'⟩ := r.get he
  have hl := r.length
  have hn := line63
  have hj : j < xs.length := (List.getElem?_eq_some_iff.mp he).1
  exact wpAny_getItem_list (x := w) pl.isList (by omega) (by omega) (by simpa using ew) ⟨z, H, I, rw', q⟩
def sp_EightBox_init (A : Ad) : Sp := fun vs H Q _ => ∃ (a dx p x y : Addr), vs = [.ref a, .ref p, .ref x, .ref y] ∧ H a = some (.ins A.c_EightBox dx []) ∧
  ∀ q l H', H q = none → H l = none → l ≠ q → H' a = some (.ins A.c_EightBox dx (eiF p q l false .non)) → H' q = some (.tup [.ref x, .ref y]) → H' l = some (.lst [.int 0, .int 0]) → (∀ c o, H c = some o → c ≠ a → H' c = some o) → Q .non H'
theorem ok_EightBox_init (T : CT K mg A) (D : DT K mg A) : IOk P w K mg base 1 "EightBox" A.c_EightBox ["self", "numbers", "one", "other"] (sp_EightBox_init A) := by
  refine IOk.of T.g_EightBox D.EightBox_init fun f fd F => ?_
  refine F.ok sc_EightBox_init (fun vs H Q E h => ?_) (fun cdv Ar outer s H vs Q E hr h => ?_)
  · obtain ⟨a, dx, p, x, y, rfl, _⟩ := h
    rfl
  · obtain ⟨a, dx, p, x, y, rfl, ha, k⟩ := h
    have cl := T.cl_EightBox
    refine ⟨_, (pss_cons (ps_fld (pv 0) (pv 1) rfl)
    (pss_cons (ps_fld (pv 0) (pe_tup (pa_cons (pv 2) (pa_cons (pv 3) pa_nil))) rfl)
    (pss_cons (ps_fld (pv 0) (pe_lst (pa_cons pe_int (pa_cons pe_int pa_nil))) rfl)
    (pss_cons (ps_fld (pv 0) pe_bl rfl)
    (pss_one (ps_fld (pv 0) pe_non rfl)))))), ?_⟩
    refine ⟨_, rfl, _, rfl, a, _, dx, [], rfl, ha, cl, T.n_EightBox_numbers, (by show 0 < 1000; decide), ?_⟩
    refine ⟨_, rfl, _, rfl, (by show 2 ≤ sizeLine; decide), fun q nq => ?_⟩
    have h1 : (upd H a (.ins A.c_EightBox dx (putF "numbers" (.ref p) []))) a = some (.ins A.c_EightBox dx [("numbers", .ref p)]) := upd_same
    have s1 := same_upd (o := .tup [V.ref x, .ref y]) nq
    have naq : a ≠ q := ne_of_none h1 nq
    refine ⟨_, rfl, a, _, dx, _, rfl, s1 _ _ h1, cl, T.n_EightBox_trees, (by show 1 < 1000; decide), ?_⟩
    refine ⟨(by show 2 ≤ sizeLine; decide), fun l nl => ?_⟩
    rw [upd_ne naq.symm] at nq
    have nal : a ≠ l := ne_of_none upd_same nl
    have nlq : l ≠ q := fun z => by rw [z, upd_ne naq.symm, upd_same] at nl; cases nl
    have nl0 : H l = none := by rw [upd_ne nal.symm, upd_ne nlq, upd_ne nal.symm] at nl; exact nl
    refine ⟨_, rfl, a, _, dx, _, rfl, (by rw [upd_ne nal, upd_same]), cl, T.n_EightBox_taken, (by show 2 < 1000; decide), ?_⟩
    refine ⟨_, rfl, a, _, dx, _, rfl, upd_same, cl, T.n_EightBox_told, (by show 3 < 1000; decide), ?_⟩
    refine ⟨_, rfl, a, _, dx, _, rfl, upd_same, cl, T.n_EightBox_rest, (by show 4 < 1000; decide), ?_⟩
    rw [upd_upd, upd_upd]
    refine k q l _ nq nl0 nlq upd_same ?_ ?_ fun c o e hc => ?_
    · rw [upd_ne naq.symm, upd_ne nlq.symm, upd_ne naq.symm, upd_same]
    · rw [upd_ne nal.symm, upd_same]
    · rw [upd_ne hc, upd_ne (ne_of_none e nl0), upd_ne hc, upd_ne (ne_of_none e nq), upd_ne hc]
      exact e
def sp_eight_tell (A : Ad) (K : PySem.W.Frag) : Sp := fun vs H Q _ => ∃ (a dx p t l : Addr) (ns : List Int) (told : Bool) (q : Int), vs = [.ref a, .int q] ∧ H a = some (.ins A.c_EightBox dx (eiF p t l told .non)) ∧ SqT K H p (ns.map V.int) ∧ ns.length = 8 ∧ (∀ z ∈ ns, fits z) ∧ fits q ∧
  ∀ r p' H', H' r = some (.tup [.str "part", .int q]) → H' a = some (.ins A.c_EightBox dx (eiF p' t l true .non)) → SqT K H' p' ((turnedOver ns q).map V.int) → (∀ c o, H c = some o → c ≠ a → H' c = some o) → Q (.ref r) H'
theorem ok_EightBox_tell (T : CT K mg A) (D : DT K mg A) : MOk P w K mg base CX0 2 A.c_EightBox "tell" ["self", "part"] (sp_eight_tell A K) := by
  have G_turned_over := ok_turned_over (P := P) (w := w) (base := base) T D
  refine MOk.of T.cl_EightBox D.EightBox_tell fun f fd F => ?_
  refine F.ok sc_EightBox_tell (fun vs H Q E h => ?_) (fun cdv Ar outer s H vs Q E hr h => ?_)
  · obtain ⟨a, dx, p, t, l, ns, told, q, rfl, _⟩ := h
    rfl
  · obtain ⟨a, dx, p, t, l, ns, told, q, rfl, ha, hp, hl, hf, fq, k⟩ := h
    refine ⟨_, (pss_cons (ps_fld (pv 0) (pe_c G_turned_over (hr.mono (by first | decide | omega)) (pa_cons (pe_fld (pv 0) rfl) (pa_cons (pv 1) pa_nil))) rfl)
    (pss_cons (ps_fld (pv 0) pe_bl rfl)
    (pss_one (ps_ret (pe_tup (pa_cons pe_str (pa_cons (pv 1) pa_nil))))))), ?_⟩
    have cl := T.cl_EightBox
    refine ⟨_, rfl, a, _, dx, _, _, rfl, ha, cl, T.n_EightBox_numbers, rfl, _, rfl, p, ns, q, rfl, hp, ⟨4, hl, by decide, by decide⟩, hf, fq, fun p' H1 hp1 s1 => ?_⟩
    refine ⟨_, rfl, a, _, dx, _, rfl, s1 _ _ ha, cl, T.n_EightBox_numbers, (by show 5 < 1000; decide), ?_⟩
    refine ⟨_, rfl, a, _, dx, _, rfl, upd_same, cl, T.n_EightBox_told, (by show 5 < 1000; decide), ?_⟩
    refine ⟨_, rfl, (by show 2 ≤ sizeLine; decide), fun u nu => ?_⟩
    have s3 := same_upd (o := .tup [V.str "part", .int q]) nu
    rw [upd_upd] at *
    exact k u p' _ upd_same (s3 _ _ upd_same) (sqT_same (sqT_ins hp1 (s1 _ _ ha)) s3) fun c o e hc => s3 _ _ (by rw [upd_ne hc]; exact s1 _ _ e)
def leftOf (ns : List Int) (which : Nat) : List Int := if which = 0 then [ns.getD 0 0, ns.getD 1 0, ns.getD 4 0, ns.getD 5 0] else [ns.getD 0 0, ns.getD 2 0, ns.getD 4 0, ns.getD 6 0]
def sp_left_without (A : Ad) (K : PySem.W.Frag) : Sp := fun vs H Q _ => ∃ (a dx p t l x y : Addr) (ns : List Int) (told : Bool) (which : Nat), vs = [.ref a, .int which] ∧ which ≤ 1 ∧ H a = some (.ins A.c_EightBox dx (eiF p t l told .non)) ∧ SqT K H p (ns.map V.int) ∧ SqT K H t [.ref x, .ref y] ∧ ns.length = 8 ∧ (∀ z ∈ ns, fits z) ∧
  ∀ p' r dr C fs H', SqT K H' p' ((leftOf ns which).map V.int) → H r = none → Same H H' → H' r = some (.ins C dr fs) → OneIs A p' (if which = 0 then y else x) (leftOf ns which) told C fs → Q (.ref r) H'
theorem ok_left_without (T : CT K mg A) (D : DT K mg A) : MOk P w K mg base CX0 4 A.c_EightBox "left_without" ["self", "which"] (sp_left_without A K) := by
  have G_box_of_one := ok_box_of_one (P := P) (w := w) (base := base) T D
  refine MOk.of T.cl_EightBox D.EightBox_left_without fun f fd F => ?_
  refine F.ok sc_EightBox_left_without (fun vs H Q E h => ?_) (fun cdv Ar outer s H vs Q E hr h => ?_)
  · obtain ⟨a, dx, p, t, l, x, y, ns, told, which, rfl, _⟩ := h
    rfl
  · obtain ⟨a, dx, p, t, l, x, y, ns, told, which, rfl, hw, ha, hp, ht, hl, hf, k⟩ := h
    refine ⟨_, (pss_cons (ps_asg (pe_fld (pv 0) rfl) (pg_tup rfl (pgs_cons (pg_name (i := 2) sc_EightBox_left_without.nd rfl (Or.inl rfl)) (pgs_cons (pg_name (i := 3) sc_EightBox_left_without.nd rfl (Or.inl rfl)) (pgs_cons (pg_name (i := 4) sc_EightBox_left_without.nd rfl (Or.inl rfl)) (pgs_cons (pg_name (i := 5) sc_EightBox_left_without.nd rfl (Or.inl rfl)) (pgs_cons (pg_name (i := 6) sc_EightBox_left_without.nd rfl (Or.inl rfl)) (pgs_cons (pg_name (i := 7) sc_EightBox_left_without.nd rfl (Or.inl rfl)) (pgs_cons (pg_name (i := 8) sc_EightBox_left_without.nd rfl (Or.inl rfl)) (pgs_cons (pg_name (i := 9) sc_EightBox_left_without.nd rfl (Or.inl rfl)) pgs_nil))))))))))
    (pss_cons (ps_if (pt_cmpR op_eq (pv 1) pe_int (nomark _))
      (pss_one (ps_ret (pe_c G_box_of_one (hr.mono (by first | decide | omega)) (pa_cons (pe_tup (pa_cons (pv 2) (pa_cons (pv 3) (pa_cons (pv 6) (pa_cons (pv 7) pa_nil))))) (pa_cons (pe_ix ix_tup (pe_fld (pv 0) rfl) pe_int (fun _ _ => rfl)) (pa_cons (pe_fld (pv 0) rfl) pa_nil)))))) pss_nil)
    (pss_one (ps_ret (pe_c G_box_of_one (hr.mono (by first | decide | omega)) (pa_cons (pe_tup (pa_cons (pv 2) (pa_cons (pv 4) (pa_cons (pv 6) (pa_cons (pv 8) pa_nil))))) (pa_cons (pe_ix ix_tup (pe_fld (pv 0) rfl) pe_int (fun _ _ => rfl)) (pa_cons (pe_fld (pv 0) rfl) pa_nil)))))))), ?_⟩
    have cl := T.cl_EightBox
    match ns, hl with
    | [n0, n1, n2, n3, n4, n5, n6, n7], _ =>
      refine ⟨_, rfl, a, _, dx, _, _, rfl, ha, cl, T.n_EightBox_numbers, rfl, p, _, rfl, hp, rfl, _, _, rfl, _, _, rfl, _, _, rfl, _, _, rfl, _, _, rfl, _, _, rfl, _, _, rfl, _, _, rfl, rfl, ?_⟩
      refine ⟨_, rfl, rfl, _, rfl, ?_⟩
      match which, hw with
      | 0, _ =>
        refine iteT ⟨_, rfl, _, rfl, _, rfl, _, rfl, (by show 4 ≤ sizeLine; decide), fun p' np => ?_⟩
        have s1 := same_upd (o := .tup [V.int n0, .int n1, .int n4, .int n5]) np
        refine ⟨_, rfl, a, _, dx, _, _, rfl, s1 _ _ ha, cl, T.n_EightBox_trees, rfl, t, _, 1, _, rfl, rfl, sqT_same ht s1, atI_nat (j := 1) rfl, _, rfl, a, _, dx, _, _, rfl, s1 _ _ ha, cl, T.n_EightBox_told, rfl, ?_⟩
        refine ⟨p', y, [n0, n1, n4, n5], told, rfl, SqT.of upd_same, rfl, (by intro z hz; simp at hz; rcases hz with rfl | rfl | rfl | rfl <;> exact hf _ (by simp)), fun r dr C fs H' nr s2 hr' o => ?_⟩
        exact k p' r dr C fs H' (sqT_same (SqT.of upd_same) s2) (s1.free nr) (s1.trans s2) hr' o
      | 1, _ =>
        refine iteF ⟨_, rfl, _, rfl, _, rfl, _, rfl, (by show 4 ≤ sizeLine; decide), fun p' np => ?_⟩
        have s1 := same_upd (o := .tup [V.int n0, .int n2, .int n4, .int n6]) np
        refine ⟨_, rfl, a, _, dx, _, _, rfl, s1 _ _ ha, cl, T.n_EightBox_trees, rfl, t, _, 0, _, rfl, rfl, sqT_same ht s1, atI_nat (j := 0) rfl, _, rfl, a, _, dx, _, _, rfl, s1 _ _ ha, cl, T.n_EightBox_told, rfl, ?_⟩
        refine ⟨p', x, [n0, n2, n4, n6], told, rfl, SqT.of upd_same, rfl, (by intro z hz; simp at hz; rcases hz with rfl | rfl | rfl | rfl <;> exact hf _ (by simp)), fun r dr C fs H' nr s2 hr' o => ?_⟩
        exact k p' r dr C fs H' (sqT_same (SqT.of upd_same) s2) (s1.free nr) (s1.trans s2) hr' o
def withPart (ns : List Int) (which : Nat) (q : Int) : List Int := if which = 0 then withFirst ns q else withSecond ns q
def sp_eight_take (A : Ad) (K : PySem.W.Frag) : Sp := fun vs H Q _ => ∃ (a dx p t l x y : Addr) (ns : List Int) (told : Bool) (which : Nat) (i j : Int) (v : V) (an : Ans), vs = [.ref a, .int which, v] ∧ which ≤ 1 ∧ an.At A H v ∧ H a = some (.ins A.c_EightBox dx (eiF p t l told .non)) ∧ SqT K H p (ns.map V.int) ∧ SqT K H t [.ref x, .ref y] ∧ H l = some (.lst [.int i, .int j]) ∧ ns.length = 8 ∧ (∀ z ∈ ns, fits z) ∧
  match an with
  | .waits => False
  | .fin => ∀ p' r dr C fs H', SqT K H' p' ((leftOf ns which).map V.int) → H r = none → H' a = some (.ins A.c_EightBox dx (eiF p t l told (.ref r))) → (∀ c o, H c = some o → c ≠ a → H' c = some o) → H' r = some (.ins C dr fs) → OneIs A p' (if which = 0 then y else x) (leftOf ns which) told C fs → Q .non H'
  | .part q => fits q ∧ ∀ p' H', H' a = some (.ins A.c_EightBox dx (eiF p' t l told .non)) → SqT K H' p' ((withPart ns which q).map V.int) → H' l = some (.lst (if which = 0 then [.int (i + 1), .int j] else [.int i, .int (j + 1)])) → (∀ c o, H c = some o → c ≠ a → c ≠ l → H' c = some o) → Q .non H'
theorem ok_EightBox_take (T : CT K mg A) (D : DT K mg A) : MOk P w K mg base CX0 5 A.c_EightBox "take" ["self", "which", "answer"] (sp_eight_take A K) := by
  have M_left := ok_left_without (P := P) (w := w) (base := base) T D
  have G_with_first_part := ok_with_first_part (P := P) (w := w) (base := base) T D
  have G_with_second_part := ok_with_second_part (P := P) (w := w) (base := base) T D
  refine MOk.of T.cl_EightBox D.EightBox_take fun f fd F => ?_
  refine F.ok sc_EightBox_take (fun vs H Q E h => ?_) (fun cdv Ar outer s H vs Q E hr h => ?_)
  · obtain ⟨a, dx, p, t, l, x, y, ns, told, which, i, j, v, an, rfl, _⟩ := h
    rfl
  · obtain ⟨a, dx, p, t, l, x, y, ns, told, which, i, j, v, an, rfl, hw, hv, ha, hp, ht, hL, hl, hf, k⟩ := h
    refine ⟨_, (pss_cons (ps_if (pt_cmpR (op_eqD hr.units) (pv 2) (pe_glob (v := .ref A.k_END) (by rfl) T.g_END rfl) (nomark _))
      (pss_cons (ps_fld (pv 0) (pe_m M_left (hr.mono (by first | decide | omega)) (pv 0) (pa_cons (pv 1) pa_nil)) rfl)
    (pss_one ps_retN)) pss_nil)
    (pss_cons (ps_if (pt_cmpR op_eq (pv 1) pe_int (nomark _))
      (pss_one (ps_fld (pv 0) (pe_c G_with_first_part (hr.mono (by first | decide | omega)) (pa_cons (pe_fld (pv 0) rfl) (pa_cons (pe_ix ix_tup (pv 2) pe_int (fun _ _ => rfl)) pa_nil))) rfl)) (pss_one (ps_fld (pv 0) (pe_c G_with_second_part (hr.mono (by first | decide | omega)) (pa_cons (pe_fld (pv 0) rfl) (pa_cons (pe_ix ix_tup (pv 2) pe_int (fun _ _ => rfl)) pa_nil))) rfl)))
    (pss_one (ps_augS (pe_fld (pv 0) rfl) (pv 1) get_listP pe_int ip_add set_list)))), ?_⟩
    have cl := T.cl_EightBox
    obtain ⟨pv', rfl, hpv⟩ := hv.tup T
    have hE : SqT K H A.k_END Ans.fin.vals := T.t_END H
    refine ⟨_, rfl, _, _, an.dp hpv, Ans.fin.dp hE, an.shaped, Ans.fin.shaped, _, rfl, ?_⟩
    rw [eqv_fin]
    cases an with
    | waits => exact k.elim
    | fin =>
      refine iteT ⟨_, rfl, a, dx, _, rfl, ha, rfl, _, rfl, a, dx, p, t, l, x, y, ns, told, which, rfl, hw, ha, hp, ht, hl, hf, fun p' r dr C fs H1 hp1 nr s1 hr1 o => ?_⟩
      refine ⟨_, rfl, a, _, dx, _, rfl, s1 _ _ ha, cl, T.n_EightBox_rest, (by show 5 < 1000; decide), ?_⟩
      exact k p' r dr C fs _ (sqT_ins hp1 (s1 _ _ ha)) nr upd_same (fun c o e hc => by rw [upd_ne hc]; exact s1 _ _ e) (by rw [upd_ne (ne_of_none ha nr).symm]; exact hr1) o
    | part q =>
      obtain ⟨fq, k⟩ := k
      have nal : l ≠ a := ne_of hL ha (by intro z; cases z)
      refine iteF ?_
      match which, hw with
      | 0, _ =>
        refine ⟨_, rfl, rfl, _, rfl, iteT ?_⟩
        refine ⟨_, rfl, a, _, dx, _, _, rfl, ha, cl, T.n_EightBox_numbers, rfl, _, rfl, pv', _, 1, _, rfl, rfl, hpv, atI_nat (j := 1) rfl, p, ns, q, rfl, hp, hl, hf, fq, fun p' H1 hp1 s1 => ?_⟩
        refine ⟨_, rfl, a, _, dx, _, rfl, s1 _ _ ha, cl, T.n_EightBox_numbers, (by show 5 < 1000; decide), ?_⟩
        have hL1 : (upd H1 a (.ins A.c_EightBox dx (putF "numbers" (.ref p') (eiF p t l told .non)))) l = some (.lst [.int i, .int j]) := by rw [upd_ne nal]; exact s1 _ _ hL
        refine ⟨_, rfl, a, _, dx, _, _, rfl, upd_same, cl, T.n_EightBox_taken, rfl, _, rfl, l, _, 0, _, rfl, rfl, SqL.of hL1, rfl, _, _, rfl, rfl, l, _, 0, 0, rfl, rfl, hL1, rfl, ?_⟩
        refine k p' _ ?_ ?_ upd_same fun c o e hc hcl => ?_
        · rw [upd_ne nal.symm, upd_same]; rfl
        · exact sqT_lst (sqT_ins hp1 (s1 _ _ ha)) hL1
        · rw [upd_ne hcl, upd_ne hc]; exact s1 _ _ e
      | 1, _ =>
        refine ⟨_, rfl, rfl, _, rfl, iteF ?_⟩
        refine ⟨_, rfl, a, _, dx, _, _, rfl, ha, cl, T.n_EightBox_numbers, rfl, _, rfl, pv', _, 1, _, rfl, rfl, hpv, atI_nat (j := 1) rfl, p, ns, q, rfl, hp, hl, hf, fq, fun p' H1 hp1 s1 => ?_⟩
        refine ⟨_, rfl, a, _, dx, _, rfl, s1 _ _ ha, cl, T.n_EightBox_numbers, (by show 5 < 1000; decide), ?_⟩
        have hL1 : (upd H1 a (.ins A.c_EightBox dx (putF "numbers" (.ref p') (eiF p t l told .non)))) l = some (.lst [.int i, .int j]) := by rw [upd_ne nal]; exact s1 _ _ hL
        refine ⟨_, rfl, a, _, dx, _, _, rfl, upd_same, cl, T.n_EightBox_taken, rfl, _, rfl, l, _, 1, _, rfl, rfl, SqL.of hL1, rfl, _, _, rfl, rfl, l, _, 1, 1, rfl, rfl, hL1, rfl, ?_⟩
        refine k p' _ ?_ ?_ upd_same fun c o e hc hcl => ?_
        · rw [upd_ne nal.symm, upd_same]; rfl
        · exact sqT_lst (sqT_ins hp1 (s1 _ _ ha)) hL1
        · rw [upd_ne hcl, upd_ne hc]; exact s1 _ _ e
end
/-! ### boxes: what they are, in plain Lean, and where they stand -/
inductive Box where
  | leaf (c : Chain)
  | fb (t b : Int) (told : Bool)
  | four (ns : List Int) (st told : Bool) (x : Box)
  | fourR (t b : Int) (told : Bool)
  | eight (ns : List Int) (i j : Int) (told : Bool) (x y : Box)
  | eightR (r : Box)
def Box.wt : Box → Nat
  | .leaf _ => 0
  | .fb _ _ _ => 0
  | .four _ _ _ x => x.wt + 1
  | .fourR _ _ _ => 1
  | .eight _ _ _ _ x y => max x.wt y.wt + 3
  | .eightR r => r.wt + 2
/-- of which class -/
def Box.kind : Box → Nat
  | .leaf _ => 0
  | .fb _ _ _ => 1
  | .four _ _ _ _ => 2
  | .fourR _ _ _ => 2
  | .eight _ _ _ _ _ _ => 3
  | .eightR _ => 3
/-- whole trees within: no fraction box there; a rest is a four or a fraction box -/
def Box.Ok : Box → Prop
  | .leaf c => c.Ok
  | .fb _ _ _ => True
  | .four ns _ _ x => ns.length = 4 ∧ x.Ok ∧ x.kind ≠ 1
  | .fourR _ _ _ => True
  | .eight ns i j _ x y => ns.length = 8 ∧ x.Ok ∧ y.Ok ∧ x.kind ≠ 1 ∧ y.kind ≠ 1 ∧ 0 ≤ i ∧ 0 ≤ j
  | .eightR r => r.Ok ∧ (r.kind = 1 ∨ r.kind = 2)
def allFit (ns : List Int) (cs : List (Int × Int)) : Bool := ns.all (fun z => decide (fits z)) && cs.all (fun c => decide (fits c.1) && decide (fits c.2))
/-- a fraction box, asked -/
def fbAsk (t b : Int) (told : Bool) : Option (Option Ans × Int × Int × Bool) :=
  if fits t ∧ fits b then (if b = 0 then (if told = true then some (some .fin, t, b, told) else some (none, t, b, told)) else some (some (.part (t.fdiv b)), b, t - t.fdiv b * b, true)) else none
def oneBox (ns : List Int) (told : Bool) (x : Box) : Box :=
  if ns.getD 0 0 * ns.getD 3 0 ≠ ns.getD 1 0 * ns.getD 2 0 then .four ns true told x
  else if ns.getD 2 0 ≠ 0 then .fb (ns.getD 0 0) (ns.getD 2 0) told else .fb (ns.getD 1 0) (ns.getD 3 0) told
/-- what is told (none: NoValue), the box behind it, how many parts of leaves may yet be taken; nothing where the numbers are too great, or the fuel too little -/
def askF : Nat → Box → Int → Option (Option Ans × Box × Int)
  | 0, _, _ => none
  | _ + 1, .leaf c, l => some (some (c.ans l), .leaf (c.then_ l), l - c.took l)
  | _ + 1, .fb t b told, l => (fbAsk t b told).map fun r => (r.1, .fb r.2.1 r.2.2.1 r.2.2.2, l)
  | _ + 1, .fourR t b told, l => (fbAsk t b told).map fun r => (r.1, .fourR r.2.1 r.2.2.1 r.2.2.2, l)
  | n + 1, .four ns st told x, l =>
    if allFit ns (fourCorners ns) = true then
      match (if st = true then surePart (fourCorners ns) else none) with
      | some q => some (some (.part q), .four (turnedOver ns q) st true x, l)
      | none => match askF n x l with
        | none => none
        | some (none, x', l') => some (none, .four ns st told x', l')
        | some (some .waits, x', l') => some (some .waits, .four ns st told x', l')
        | some (some .fin, _, l') => askF n (.fourR (ns.getD 0 0) (ns.getD 2 0) told) l'
        | some (some (.part q), x', l') => if fits q then askF n (.four (withOne ns q) true told x') l' else none
    else none
  | n + 1, .eight ns i j told x y, l =>
    if allFit ns (eightCorners ns) = true then
      match (if 0 < i ∧ 0 < j then surePart (eightCorners ns) else none) with
      | some q => some (some (.part q), .eight (turnedOver ns q) i j true x y, l)
      | none =>
        if i ≤ j then match askF n x l with
          | none => none
          | some (none, x', l') => some (none, .eight ns i j told x' y, l')
          | some (some .waits, x', l') => some (some .waits, .eight ns i j told x' y, l')
          | some (some .fin, _, l') => askF n (.eightR (oneBox (leftOf ns 0) told y)) l'
          | some (some (.part q), x', l') => if fits q then askF n (.eight (withFirst ns q) (i + 1) j told x' y) l' else none
        else match askF n y l with
          | none => none
          | some (none, y', l') => some (none, .eight ns i j told x y', l')
          | some (some .waits, y', l') => some (some .waits, .eight ns i j told x y', l')
          | some (some .fin, _, l') => askF n (.eightR (oneBox (leftOf ns 1) told x)) l'
          | some (some (.part q), y', l') => if fits q then askF n (.eight (withSecond ns q) i (j + 1) told x y') l' else none
    else none
  | n + 1, .eightR r, l => (askF n r l).map fun z => (z.1, .eightR z.2.1, z.2.2)
def BoxAt (A : Ad) (K : PySem.W.Frag) (H : Hp) : Box → Addr → List Addr → Prop
  | .leaf c, a, fp => ∃ ca, fp = [a, ca] ∧ LeafAt A K H a ca c ∧ a ≠ ca
  | .fb t b told, a, fp => ∃ dx, fp = [a] ∧ H a = some (.ins A.c_FractionBox dx (fbF t b told))
  | .four ns st told x, a, fp => ∃ dx p tx fx, fp = a :: fx ∧ H a = some (.ins A.c_FourBox dx (foF p tx st told .non)) ∧ SqT K H p (ns.map V.int) ∧ BoxAt A K H x tx fx ∧ a ∉ fx
  | .fourR t b told, a, fp => ∃ dx p tx st told' r dr, fp = [a, r] ∧ H a = some (.ins A.c_FourBox dx (foF p tx st told' (.ref r))) ∧ H r = some (.ins A.c_FractionBox dr (fbF t b told)) ∧ a ≠ r
  | .eight ns i j told x y, a, fp => ∃ dx p t l tx ty fx fy, fp = a :: l :: (fx ++ fy) ∧ H a = some (.ins A.c_EightBox dx (eiF p t l told .non)) ∧ SqT K H p (ns.map V.int) ∧ SqT K H t [.ref tx, .ref ty] ∧ H l = some (.lst [.int i, .int j]) ∧
      BoxAt A K H x tx fx ∧ BoxAt A K H y ty fy ∧ a ∉ fx ∧ a ∉ fy ∧ l ∉ fx ∧ l ∉ fy ∧ ∀ c ∈ fx, c ∉ fy
  | .eightR r, a, fp => ∃ dx p t l told b fr, fp = a :: fr ∧ H a = some (.ins A.c_EightBox dx (eiF p t l told (.ref b))) ∧ BoxAt A K H r b fr ∧ a ∉ fr
section
variable {P : Program} [NoTree P] {w : World} {K : PySem.W.Frag} {mg : Str → Option Value} {base : Heap} {A : Ad}
/-- no tuple, no locked thing -/
def Soft (H : Hp) (c : Addr) : Prop := (∃ C dx fs, H c = some (.ins C dx fs)) ∨ ∃ xs, H c = some (.lst xs)
theorem Soft.no {H : Hp} {c : Addr} {o : HO} (h : Soft H c) (e : H c = some o) : (∀ ys, o ≠ .tup ys) ∧ ∀ ob u, o ≠ .frz ob u := by
  rcases h with ⟨C, dx, fs, z⟩ | ⟨xs, z⟩
  · rw [z] at e; cases e; exact ⟨fun _ q => (by cases q), fun _ _ q => (by cases q)⟩
  · rw [z] at e; cases e; exact ⟨fun _ q => (by cases q), fun _ _ q => (by cases q)⟩
theorem BoxAt.soft {H : Hp} : ∀ {B : Box} {a : Addr} {fp : List Addr}, BoxAt A K H B a fp → ∀ c ∈ fp, Soft H c
  | .leaf ch, a, fp, h => by
    obtain ⟨ca, rfl, ⟨⟨dx, e⟩, hc⟩, _⟩ := h
    intro c hm
    simp only [List.mem_cons, List.not_mem_nil, or_false] at hm
    rcases hm with rfl | rfl
    · exact .inl ⟨_, _, _, e⟩
    · exact .inl hc.there
  | .fb t b told, a, fp, h => by
    obtain ⟨dx, rfl, e⟩ := h
    intro c hm
    simp only [List.mem_cons, List.not_mem_nil, or_false] at hm
    subst hm
    exact .inl ⟨_, _, _, e⟩
  | .four ns st told x, a, fp, h => by
    obtain ⟨dx, p, tx, fx, rfl, e, hp, hx, na⟩ := h
    intro c hm
    rcases List.mem_cons.mp hm with rfl | hm
    · exact .inl ⟨_, _, _, e⟩
    · exact BoxAt.soft hx c hm
  | .fourR t b told, a, fp, h => by
    obtain ⟨dx, p, tx, st, told', r, dr, rfl, e, er, _⟩ := h
    intro c hm
    simp only [List.mem_cons, List.not_mem_nil, or_false] at hm
    rcases hm with rfl | rfl
    · exact .inl ⟨_, _, _, e⟩
    · exact .inl ⟨_, _, _, er⟩
  | .eight ns i j told x y, a, fp, h => by
    obtain ⟨dx, p, t, l, tx, ty, fx, fy, rfl, e, hp, ht, hl, hx, hy, _⟩ := h
    intro c hm
    rcases List.mem_cons.mp hm with rfl | hm
    · exact .inl ⟨_, _, _, e⟩
    · rcases List.mem_cons.mp hm with rfl | hm
      · exact .inr ⟨_, hl⟩
      · rcases List.mem_append.mp hm with hm | hm
        · exact BoxAt.soft hx c hm
        · exact BoxAt.soft hy c hm
  | .eightR r, a, fp, h => by
    obtain ⟨dx, p, t, l, told, b, fr, rfl, e, hr, _⟩ := h
    intro c hm
    rcases List.mem_cons.mp hm with rfl | hm
    · exact .inl ⟨_, _, _, e⟩
    · exact BoxAt.soft hr c hm
theorem BoxAt.kept {H H' : Hp} {N : Addr → Prop} (k : ∀ c o, H c = some o → ¬ N c → H' c = some o) (hN : ∀ c o, N c → H c = some o → (∀ ys, o ≠ .tup ys) ∧ ∀ ob u, o ≠ .frz ob u) :
    ∀ {B : Box} {a : Addr} {fp : List Addr}, BoxAt A K H B a fp → (∀ c ∈ fp, ¬ N c) → BoxAt A K H' B a fp
  | .leaf ch, a, fp, h, n => by
    obtain ⟨ca, rfl, ⟨⟨dx, e⟩, hc⟩, ne⟩ := h
    exact ⟨ca, rfl, ⟨⟨dx, k _ _ e (n a (by simp))⟩, hc.kept (n ca (by simp)) k hN⟩, ne⟩
  | .fb t b told, a, fp, h, n => by
    obtain ⟨dx, rfl, e⟩ := h
    exact ⟨dx, rfl, k _ _ e (n a (by simp))⟩
  | .four ns st told x, a, fp, h, n => by
    obtain ⟨dx, p, tx, fx, rfl, e, hp, hx, na⟩ := h
    exact ⟨dx, p, tx, fx, rfl, k _ _ e (n a (by simp)), sqT_but hp k hN, BoxAt.kept k hN hx (fun c hc => n c (by simp [hc])), na⟩
  | .fourR t b told, a, fp, h, n => by
    obtain ⟨dx, p, tx, st, told', r, dr, rfl, e, er, ne⟩ := h
    exact ⟨dx, p, tx, st, told', r, dr, rfl, k _ _ e (n a (by simp)), k _ _ er (n r (by simp)), ne⟩
  | .eight ns i j told x y, a, fp, h, n => by
    obtain ⟨dx, p, t, l, tx, ty, fx, fy, rfl, e, hp, ht, hl, hx, hy, z⟩ := h
    exact ⟨dx, p, t, l, tx, ty, fx, fy, rfl, k _ _ e (n a (by simp)), sqT_but hp k hN, sqT_but ht k hN, k _ _ hl (n l (by simp)), BoxAt.kept k hN hx (fun c hc => n c (by simp [hc])), BoxAt.kept k hN hy (fun c hc => n c (by simp [hc])), z⟩
  | .eightR r, a, fp, h, n => by
    obtain ⟨dx, p, t, l, told, b, fr, rfl, e, hr, na⟩ := h
    exact ⟨dx, p, t, l, told, b, fr, rfl, k _ _ e (n a (by simp)), BoxAt.kept k hN hr (fun c hc => n c (by simp [hc])), na⟩
theorem BoxAt.same {H H' : Hp} {B : Box} {a : Addr} {fp : List Addr} (h : BoxAt A K H B a fp) (s : Same H H') : BoxAt A K H' B a fp :=
  h.kept (N := fun _ => False) (fun c o e _ => s c o e) (fun _ _ z => z.elim) fun _ _ z => z
/-- the box itself is of its footprint -/
theorem BoxAt.mem {H : Hp} {B : Box} {a : Addr} {fp : List Addr} (h : BoxAt A K H B a fp) : a ∈ fp := by
  cases B with
  | leaf c => obtain ⟨ca, rfl, _⟩ := h; simp
  | fb t b u => obtain ⟨dx, rfl, _⟩ := h; simp
  | four ns st told x => obtain ⟨dx, p, tx, fx, rfl, _⟩ := h; simp
  | fourR t b u => obtain ⟨dx, p, tx, st, told', r, dr, rfl, _⟩ := h; simp
  | eight ns i j told x y => obtain ⟨dx, p, t, l, tx, ty, fx, fy, rfl, _⟩ := h; simp
  | eightR r => obtain ⟨dx, p, t, l, told, b, fr, rfl, _⟩ := h; simp
theorem allFit_ns {ns : List Int} {cs : List (Int × Int)} (h : allFit ns cs = true) : (∀ z ∈ ns, fits z) ∧ ∀ c ∈ cs, fits c.1 ∧ fits c.2 := by
  unfold allFit at h
  rw [Bool.and_eq_true, List.all_eq_true, List.all_eq_true] at h
  refine ⟨fun z hz => of_decide_eq_true (h.1 z hz), fun c hc => ?_⟩
  have := h.2 c hc
  rw [Bool.and_eq_true] at this
  exact ⟨of_decide_eq_true this.1, of_decide_eq_true this.2⟩
theorem surePart_fits {cs : List (Int × Int)} {q : Int} (h : surePart cs = some q) (hf : ∀ c ∈ cs, fits c.1 ∧ fits c.2) (hc : 0 < cs.length) : fits q := by
  have hfd : ∀ d ∈ flipped cs, fits d.1 ∧ fits d.2 := by
    unfold flipped
    split
    · intro d hd
      obtain ⟨c, hc, rfl⟩ := List.mem_map.mp hd
      exact ⟨fits_neg (hf c hc).1, fits_neg (hf c hc).2⟩
    · exact hf
  have hlen : 0 < (flipped cs).length := by
    unfold flipped
    split
    · rw [List.length_map]; exact hc
    · exact hc
  unfold surePart at h
  simp only at h
  generalize flipped cs = ds at *
  match ds, hlen with
  | d0 :: dr, _ =>
    rw [List.getD_cons_zero] at h
    split at h
    · rename_i hp
      split at h
      · cases h
        have p0 : 0 < d0.2 := of_decide_eq_true (List.all_eq_true.mp hp d0 List.mem_cons_self)
        exact Nat.lt_of_le_of_lt (fdiv_abs (by omega)) (hfd d0 List.mem_cons_self).1
      · cases h
    · cases h
theorem turnedOver_len {ns : List Int} {q : Int} {h : Nat} (e : ns.length = 2 * h) : (turnedOver ns q).length = ns.length := by
  unfold turnedOver
  rw [List.length_append, List.length_drop, List.length_zipWith, List.length_take, List.length_drop]
  omega
theorem oneBox_ok {ns : List Int} {told : Bool} {x : Box} (hl : ns.length = 4) (hx : x.Ok) (hk : x.kind ≠ 1) : (oneBox ns told x).Ok ∧ (oneBox ns told x).wt ≤ x.wt + 1 ∧ ((oneBox ns told x).kind = 1 ∨ (oneBox ns told x).kind = 2) := by
  unfold oneBox
  split
  · exact ⟨⟨hl, hx, hk⟩, Nat.le_refl _, .inr rfl⟩
  · split
    · exact ⟨trivial, Nat.zero_le _, .inl rfl⟩
    · exact ⟨trivial, Nat.zero_le _, .inl rfl⟩
theorem askF_ok : ∀ {n : Nat} {B : Box} {l : Int} {o : Option Ans} {B' : Box} {l' : Int}, B.Ok → askF n B l = some (o, B', l') → B'.Ok ∧ B'.wt ≤ B.wt ∧ B'.kind = B.kind
  | 0, B, l, o, B', l', _, e => by cases B <;> cases e
  | n + 1, .leaf c, l, o, B', l', ok, e => by
    cases e
    exact ⟨Chain.Ok.then_ (ch := c) ok l, Nat.le_refl _, rfl⟩
  | n + 1, .fb t b told, l, o, B', l', ok, e => by
    simp only [askF, Option.map_eq_some_iff] at e
    obtain ⟨r, _, e⟩ := e
    cases e
    exact ⟨trivial, Nat.le_refl _, rfl⟩
  | n + 1, .fourR t b told, l, o, B', l', ok, e => by
    simp only [askF, Option.map_eq_some_iff] at e
    obtain ⟨r, _, e⟩ := e
    cases e
    exact ⟨trivial, Nat.le_refl _, rfl⟩
  | n + 1, .four ns st told x, l, o, B', l', ok, e => by
    obtain ⟨hl, hx, hk⟩ := ok
    simp only [askF] at e
    split at e
    · split at e
      · cases e
        exact ⟨⟨(turnedOver_len (h := 2) hl).trans hl, hx, hk⟩, Nat.le_refl _, rfl⟩
      · split at e
        · cases e
        · rename_i x' l1 ex
          cases e
          obtain ⟨a1, a2, a3⟩ := askF_ok hx ex
          exact ⟨⟨hl, a1, a3 ▸ hk⟩, Nat.succ_le_succ a2, rfl⟩
        · rename_i x' l1 ex
          cases e
          obtain ⟨a1, a2, a3⟩ := askF_ok hx ex
          exact ⟨⟨hl, a1, a3 ▸ hk⟩, Nat.succ_le_succ a2, rfl⟩
        · obtain ⟨a1, a2, a3⟩ := askF_ok (B := .fourR _ _ _) trivial e
          exact ⟨a1, Nat.le_trans a2 (Nat.succ_le_succ (Nat.zero_le _)), a3⟩
        · rename_i q x' l1 ex
          split at e
          · obtain ⟨a1, a2, a3⟩ := askF_ok hx ex
            obtain ⟨b1, b2, b3⟩ := askF_ok (B := .four (withOne ns q) true told x') ⟨rfl, a1, a3 ▸ hk⟩ e
            exact ⟨b1, Nat.le_trans b2 (Nat.succ_le_succ a2), b3⟩
          · cases e
    · cases e
  | n + 1, .eight ns i j told x y, l, o, B', l', ok, e => by
    obtain ⟨hl, hx, hy, hkx, hky, hi, hj⟩ := ok
    simp only [askF] at e
    have wx : x.wt ≤ max x.wt y.wt := Nat.le_max_left _ _
    have wy : y.wt ≤ max x.wt y.wt := Nat.le_max_right _ _
    split at e
    · split at e
      · cases e
        exact ⟨⟨(turnedOver_len (h := 4) hl).trans hl, hx, hy, hkx, hky, hi, hj⟩, Nat.le_refl _, rfl⟩
      · split at e
        · split at e
          · cases e
          · rename_i x' l1 ex
            cases e
            obtain ⟨a1, a2, a3⟩ := askF_ok hx ex
            exact ⟨⟨hl, a1, hy, a3 ▸ hkx, hky, hi, hj⟩, (by show max _ _ + 3 ≤ max _ _ + 3; omega), rfl⟩
          · rename_i x' l1 ex
            cases e
            obtain ⟨a1, a2, a3⟩ := askF_ok hx ex
            exact ⟨⟨hl, a1, hy, a3 ▸ hkx, hky, hi, hj⟩, (by show max _ _ + 3 ≤ max _ _ + 3; omega), rfl⟩
          · have z := oneBox_ok (ns := leftOf ns 0) (told := told) rfl hy hky
            obtain ⟨b1, b2, b3⟩ := askF_ok (B := .eightR (oneBox (leftOf ns 0) told y)) ⟨z.1, z.2.2⟩ e
            exact ⟨b1, Nat.le_trans b2 (by show _ + 2 ≤ max _ _ + 3; have := z.2.1; omega), b3⟩
          · rename_i q x' l1 ex
            split at e
            · obtain ⟨a1, a2, a3⟩ := askF_ok hx ex
              obtain ⟨b1, b2, b3⟩ := askF_ok (B := .eight (withFirst ns q) (i + 1) j told x' y) ⟨rfl, a1, hy, a3 ▸ hkx, hky, by omega, hj⟩ e
              exact ⟨b1, Nat.le_trans b2 (by show max _ _ + 3 ≤ max _ _ + 3; omega), b3⟩
            · cases e
        · split at e
          · cases e
          · rename_i x' l1 ex
            cases e
            obtain ⟨a1, a2, a3⟩ := askF_ok hy ex
            exact ⟨⟨hl, hx, a1, hkx, a3 ▸ hky, hi, hj⟩, (by show max _ _ + 3 ≤ max _ _ + 3; omega), rfl⟩
          · rename_i x' l1 ex
            cases e
            obtain ⟨a1, a2, a3⟩ := askF_ok hy ex
            exact ⟨⟨hl, hx, a1, hkx, a3 ▸ hky, hi, hj⟩, (by show max _ _ + 3 ≤ max _ _ + 3; omega), rfl⟩
          · have z := oneBox_ok (ns := leftOf ns 1) (told := told) rfl hx hkx
            obtain ⟨b1, b2, b3⟩ := askF_ok (B := .eightR (oneBox (leftOf ns 1) told x)) ⟨z.1, z.2.2⟩ e
            exact ⟨b1, Nat.le_trans b2 (by show _ + 2 ≤ max _ _ + 3; have := z.2.1; omega), b3⟩
          · rename_i q x' l1 ex
            split at e
            · obtain ⟨a1, a2, a3⟩ := askF_ok hy ex
              obtain ⟨b1, b2, b3⟩ := askF_ok (B := .eight (withSecond ns q) i (j + 1) told x x') ⟨rfl, hx, a1, hkx, a3 ▸ hky, hi, by omega⟩ e
              exact ⟨b1, Nat.le_trans b2 (by show max _ _ + 3 ≤ max _ _ + 3; omega), b3⟩
            · cases e
    · cases e
  | n + 1, .eightR r, l, o, B', l', ok, e => by
    simp only [askF, Option.map_eq_some_iff] at e
    obtain ⟨⟨o1, r1, l1⟩, e1, e⟩ := e
    cases e
    obtain ⟨a1, a2, a3⟩ := askF_ok ok.1 e1
    exact ⟨⟨a1, by rw [a3]; exact ok.2⟩, Nat.add_le_add_right a2 2, rfl⟩
end
/-! ### boxes, asked -/
/-- what follows of a box's asking, at a, with the meter at m: none: NoValue is raised -/
def FinB (A : Ad) (K : PySem.W.Frag) (Q : VK) (E : XK) (H : Hp) (a m : Addr) (fp : List Addr) (l s : Int) (o : Option Ans) (B' : Box) (l' : Int) : Prop :=
  ∀ (H' : Hp) (fp' : List Addr), BoxAt A K H' B' a fp' → MeterAt A H' m l' (s + (l - l')) → m ∉ fp' → (∀ c z, H c = some z → c ∉ fp → c ≠ m → H' c = some z) → (∀ c ∈ fp', c ∈ fp ∨ H c = none) →
    match o with
    | none => E (.ref A.c_NoValue) none H'
    | some an => ∀ v, an.At A H' v → Q v H'
theorem FinB.step {A : Ad} {K : PySem.W.Frag} {Q : VK} {E : XK} {H H1 : Hp} {a m : Addr} {fp fp1 : List Addr} {l s l1 s1 : Int} {o : Option Ans} {B' : Box} {l' : Int} (k : FinB A K Q E H a m fp l s o B' l')
    (fr : ∀ c z, H c = some z → c ∉ fp → c ≠ m → H1 c = some z) (sub : ∀ c ∈ fp1, c ∈ fp ∨ H c = none) (es : s1 + l1 = s + l) : FinB A K Q E H1 a m fp1 l1 s1 o B' l' := by
  intro H' fp' hB hm nm fr' sub'
  refine k H' fp' hB (by rw [show s + (l - l') = s1 + (l1 - l') by omega]; exact hm) nm (fun c z e hc hcm => fr' c z (fr c z e hc hcm) (fun q => ?_) hcm) (fun c hc => ?_)
  · rcases sub c q with q | q
    · exact hc q
    · rw [q] at e; cases e
  · rcases sub' c hc with q | q
    · exact sub c q
    · cases ec : H c with
      | none => exact .inr rfl
      | some z =>
        rcases Decidable.em (c ∈ fp) with q1 | q1
        · exact .inl q1
        · have := fr c z ec q1 (fun q2 => nm (q2 ▸ hc))
          rw [q] at this
          cases this
/-- a box of the class kd, no heavier than d, asked -/
def spB (A : Ad) (K : PySem.W.Frag) (kd d : Nat) : Sp := fun vs H Q E => ∃ (a m : Addr) (fp : List Addr) (B : Box) (l s : Int) (n : Nat) (o : Option Ans) (B' : Box) (l' : Int), vs = [.ref a, .ref m] ∧ BoxAt A K H B a fp ∧ B.Ok ∧ B.wt ≤ d ∧ B.kind = kd ∧ MeterAt A H m l s ∧ m ∉ fp ∧ askF n B l = some (o, B', l') ∧
  FinB A K Q E H a m fp l s o B' l'
section
variable {P : Program} [NoTree P] {w : World} {K : PySem.W.Frag} {mg : Str → Option Value} {base : Heap} {A : Ad}
theorem ok_ask_leaf (T : CT K mg A) (D : DT K mg A) (d : Nat) : MOk P w K mg base CX0 2 A.c_Leaf "ask" ["self", "meter"] (spB A K 0 d) := by
  obtain ⟨cl, f, fd, F, M, B⟩ := ok_Leaf_ask (P := P) (w := w) (base := base) T D
  refine ⟨cl, f, fd, F.imp fun vs H Q E h => ?_, M, B⟩
  obtain ⟨a, m, fp, B, l, s, n, o, B', l', rfl, hB, ok, _, hk, hm, nm, e, k⟩ := h
  cases B with
  | leaf ch =>
    cases n with
    | zero => cases e
    | succ n =>
      cases e
      obtain ⟨ca, rfl, hL, ne⟩ := hB
      have n1 : m ≠ a := fun z => nm (by simp [z])
      have n2 : m ≠ ca := fun z => nm (by simp [z])
      refine ⟨a, ca, m, ch, l, s, rfl, hL, ok, hm, ne, n1.symm, n2.symm, fun v H' hl hm' ha kp => ?_⟩
      refine k H' [a, ca] ⟨ca, rfl, hl, ne⟩ (by rw [show s + (l - (l - ch.took l)) = s + ch.took l by omega]; exact hm') nm (fun c o e hc hcm => kp c o e (fun z => hc (by simp [z])) hcm) (fun c hc => .inl hc) v ha
  | fb t b u => cases hk
  | four ns st told x => cases hk
  | fourR t b u => cases hk
  | eight ns i j told x y => cases hk
  | eightR r => cases hk
theorem fb_sub (T : CT K mg A) {t b : Int} {told : Bool} {r : Option Ans × Int × Int × Bool} {a dx m : Addr} {H : Hp} {Q : VK} {E : XK} (e : fbAsk t b told = some r) (ha : H a = some (.ins A.c_FractionBox dx (fbF t b told)))
    (k : ∀ H', H' a = some (.ins A.c_FractionBox dx (fbF r.2.1 r.2.2.1 r.2.2.2)) → (∀ c o, H c = some o → c ≠ a → H' c = some o) → match r.1 with
      | none => E (.ref A.c_NoValue) none H'
      | some an => ∀ v, an.At A H' v → Q v H') : sp_fb A K [.ref a, .ref m] H Q E := by
  unfold fbAsk at e
  split at e
  · rename_i hf
    refine ⟨a, dx, _, t, b, told, rfl, ha, hf.1, hf.2, fun hb ht => ?_, fun hb ht => ?_, fun hb v H' hv hA kp => ?_⟩
    · rw [if_pos hb, if_pos ht] at e
      cases e
      exact k H ha (fun c o e _ => e) _ rfl
    · rw [if_pos hb, if_neg (by rw [ht]; decide)] at e
      cases e
      exact k H ha (fun c o e _ => e)
    · rw [if_neg hb] at e
      cases e
      exact k H' hA kp _ ⟨_, rfl, hv⟩
  · cases e
theorem ok_ask_fb (T : CT K mg A) (D : DT K mg A) (d : Nat) : MOk P w K mg base (L2.CX P w) 35 A.c_FractionBox "ask" ["self", "meter"] (spB A K 1 d) := by
  obtain ⟨cl, f, fd, F, M, B⟩ := ok_FractionBox_ask (P := P) (w := w) (base := base) T D
  refine ⟨cl, f, fd, F.imp fun vs H Q E h => ?_, M, B⟩
  obtain ⟨a, m, fp, B, l, s, n, o, B', l', rfl, hB, ok, _, hk, hm, nm, e, k⟩ := h
  cases B with
  | fb t b told =>
    cases n with
    | zero => cases e
    | succ n =>
      simp only [askF, Option.map_eq_some_iff] at e
      obtain ⟨r, er, e⟩ := e
      cases e
      obtain ⟨dx, rfl, ha⟩ := hB
      obtain ⟨dm, em⟩ := hm
      have nma : m ≠ a := fun z => nm (by simp [z])
      refine fb_sub T er ha fun H' hA kp => ?_
      exact k H' [a] ⟨dx, rfl, hA⟩ ⟨dm, by rw [show s + (l - l) = s by omega]; exact kp _ _ em nma⟩ nm (fun c o e hc _ => kp c o e (fun z => hc (by simp [z]))) (fun c hc => .inl hc)
  | leaf ch => cases hk
  | four ns st told x => cases hk
  | fourR t b u => cases hk
  | eight ns i j told x y => cases hk
  | eightR r => cases hk
theorem Box.kinds (B : Box) : B.kind = 0 ∨ B.kind = 1 ∨ B.kind = 2 ∨ B.kind = 3 := by
  cases B <;> simp [Box.kind]
theorem BoxAt.cls {H : Hp} {B : Box} {a : Addr} {fp : List Addr} (h : BoxAt A K H B a fp) : ∃ C dx fs, H a = some (.ins C dx fs) ∧ fs.lookup ("ask" : Str) = none ∧ (B.kind = 0 → C = A.c_Leaf) ∧ (B.kind = 1 → C = A.c_FractionBox) ∧ (B.kind = 2 → C = A.c_FourBox) ∧ (B.kind = 3 → C = A.c_EightBox) := by
  cases B with
  | leaf c => obtain ⟨ca, rfl, ⟨⟨dx, e⟩, _⟩, _⟩ := h; exact ⟨_, _, _, e, rfl, fun _ => rfl, fun z => (by cases z), fun z => (by cases z), fun z => (by cases z)⟩
  | fb t b u => obtain ⟨dx, rfl, e⟩ := h; exact ⟨_, _, _, e, rfl, fun z => (by cases z), fun _ => rfl, fun z => (by cases z), fun z => (by cases z)⟩
  | four ns st told x => obtain ⟨dx, p, tx, fx, rfl, e, _⟩ := h; exact ⟨_, _, _, e, rfl, fun z => (by cases z), fun z => (by cases z), fun _ => rfl, fun z => (by cases z)⟩
  | fourR t b u => obtain ⟨dx, p, tx, st, told', r, dr, rfl, e, _⟩ := h; exact ⟨_, _, _, e, rfl, fun z => (by cases z), fun z => (by cases z), fun _ => rfl, fun z => (by cases z)⟩
  | eight ns i j told x y => obtain ⟨dx, p, t, l, tx, ty, fx, fy, rfl, e, _⟩ := h; exact ⟨_, _, _, e, rfl, fun z => (by cases z), fun z => (by cases z), fun z => (by cases z), fun _ => rfl⟩
  | eightR r => obtain ⟨dx, p, t, l, told, b, fr, rfl, e, _⟩ := h; exact ⟨_, _, _, e, rfl, fun z => (by cases z), fun z => (by cases z), fun z => (by cases z), fun _ => rfl⟩
theorem leaf_some {n : Nat} {B B' : Box} {l l' : Int} (hk : B.kind = 0) (e : askF n B l = some (none, B', l')) : False := by
  cases B <;> cases hk
  cases n with
  | zero => cases e
  | succ n => cases e
/-- a tree within, asked: by its class -/
theorem ask_any {σ : St} {H : Hp} {to : TE} {ta : TA} {Q : VK} {E : XK} {d : Nat} {tx m : Addr} {fx : List Addr} {x x' : Box} {l s l' : Int} {n : Nat} {o : Option Ans} (hto : ∀ R : VK, R (.ref tx) H → to σ H R) (hta : ∀ R : List V → Hp → Prop, R [.ref m] H → ta σ H R)
    (hB : BoxAt A K H x tx fx) (ok : x.Ok) (hw : x.wt ≤ d) (hk : x.kind ≠ 1) (hm : MeterAt A H m l s) (nm : m ∉ fx) (e : askF n x l = some (o, x', l')) (k : FinB A K Q E H tx m fx l s o x' l') :
    tMeth A.c_Leaf "ask" (spB A K 0 d) [] E0 to ta σ H Q ∨ tMeth A.c_FourBox "ask" (spB A K 2 d) [] E to ta σ H Q ∨ tMeth A.c_EightBox "ask" (spB A K 3 d) [] E to ta σ H Q := by
  obtain ⟨C, dx, fs, ec, hl, c0, c1, c2, c3⟩ := hB.cls
  rcases x.kinds with z | z | z | z
  · refine .inl (hto _ ⟨tx, dx, fs, rfl, by rw [← c0 z]; exact ec, hl, hta _ ⟨tx, m, fx, x, l, s, n, o, x', l', rfl, hB, ok, hw, z, hm, nm, e, ?_⟩⟩)
    cases o with
    | none => exact (leaf_some z e).elim
    | some an => exact k
  · exact absurd z hk
  · exact .inr (.inl (hto _ ⟨tx, dx, fs, rfl, by rw [← c2 z]; exact ec, hl, hta _ ⟨tx, m, fx, x, l, s, n, o, x', l', rfl, hB, ok, hw, z, hm, nm, e, k⟩⟩))
  · exact .inr (.inr (hto _ ⟨tx, dx, fs, rfl, by rw [← c3 z]; exact ec, hl, hta _ ⟨tx, m, fx, x, l, s, n, o, x', l', rfl, hB, ok, hw, z, hm, nm, e, k⟩⟩))
theorem ok_ask_four {d : Nat} (T : CT K mg A) (D : DT K mg A) (M_four : MOk P w K mg base (L2.CX P w) (40 + d) A.c_FourBox "ask" ["self", "meter"] (spB A K 2 d)) (M_eight : MOk P w K mg base (L2.CX P w) (40 + d) A.c_EightBox "ask" ["self", "meter"] (spB A K 3 d)) :
    MOk P w K mg base (L2.CX P w) (40 + (d + 1)) A.c_FourBox "ask" ["self", "meter"] (spB A K 2 (d + 1)) := by
  have M_leaf := ok_ask_leaf (P := P) (w := w) (base := base) T D d
  have M_fb := ok_FractionBox_ask (P := P) (w := w) (base := base) T D
  have M_tell := ok_FourBox_tell (P := P) (w := w) (base := base) T D
  have M_take := ok_FourBox_take (P := P) (w := w) (base := base) T D
  have G_sure_part := ok_sure_part (P := P) (w := w) (base := base) T D
  have G_four_corners := ok_four_corners (P := P) (w := w) (base := base) T D
  refine MOk.of T.cl_FourBox D.FourBox_ask fun f fd F => ?_
  refine F.okX (k := 40 + d) sc_FourBox_ask (fun vs H Q E h => ?_) (fun cdv Ar outer s H vs Q E hr h => ?_)
  · obtain ⟨a, m, fp, B, l, s, n, o, B', l', rfl, _⟩ := h
    rfl
  · obtain ⟨a, m, fp, B, l, sp, n, o, B', l', rfl, hB, ok, hw, hk, hm, nm, e, k⟩ := h
    refine ⟨_, (pss_cons (ps_while (passes_of rfl) (pt_cmpR op_isN (pe_fld (pv 0) rfl) pe_non (nomark _))
      (C8.pss_cut (ps_set (i := 2) sc_FourBox_ask.nd rfl (Or.inl rfl) (pe_ifExp (pt_val (pe_fld (pv 0) rfl)) (pe_c G_sure_part (hr.mono (by first | decide | omega)) (pa_cons (pe_c G_four_corners (hr.mono (by first | decide | omega)) (pa_cons (pe_fld (pv 0) rfl) pa_nil)) pa_nil)) pe_non))
    (pss_cons (ps_if (pt_cmpR op_notN (pv 2) pe_non (nomark _))
      (pss_one (ps_ret (pe_m M_tell (hr.mono (by first | decide | omega)) (pv 0) (pa_cons (pv 2) pa_nil)))) pss_nil)
    (pss_cons (ps_set (i := 3) sc_FourBox_ask.nd rfl (Or.inl rfl) ((pe_alt (pe_m M_leaf (hr.mono (by first | decide | omega)) (pe_fld (pv 0) rfl) (pa_cons (pv 1) pa_nil)) (pe_alt (pe_mX M_four (hr.mono (by first | decide | omega)) (passes_tk (takes_of rfl rfl rfl rfl)) (pe_fld (pv 0) rfl) (pa_cons (pv 1) pa_nil)) (pe_mX M_eight (hr.mono (by first | decide | omega)) (passes_tk (takes_of rfl rfl rfl rfl)) (pe_fld (pv 0) rfl) (pa_cons (pv 1) pa_nil))))))
    (pss_cons (ps_if (pt_cmpR (op_eqD hr.units) (pv 3) (pe_glob (v := .ref A.k_WAITS) (by rfl) T.g_WAITS rfl) (nomark _))
      (pss_one (ps_ret (pv 3))) pss_nil)
    (pss_one (ps_expr (pe_m M_take (hr.mono (by first | decide | omega)) (pv 0) (pa_cons (pv 3) pa_nil)))))))))
    (pss_one (ps_ret (pe_mX M_fb (hr.mono (by first | decide | omega)) (passes_tk (takes_of rfl rfl rfl rfl)) (pe_fld (pv 0) rfl) (pa_cons (pv 1) pa_nil))))), ?_⟩
    have cl := T.cl_FourBox
    refine ⟨fun n1 σ H1 => ∃ v2 v3 fp1 B1 l1 s1, σ = [some (V.ref a), some (V.ref m), v2, v3] ∧ BoxAt A K H1 B1 a fp1 ∧ B1.Ok ∧ B1.wt ≤ d + 1 ∧ B1.kind = 2 ∧ MeterAt A H1 m l1 s1 ∧ m ∉ fp1 ∧ askF n1 B1 l1 = some (o, B', l') ∧ FinB A K Q E H1 a m fp1 l1 s1 o B' l',
      ⟨n, none, none, fp, B, l, sp, rfl, hB, ok, hw, hk, hm, nm, e, k⟩, ?_⟩
    rintro n1 σ H1 ⟨v2, v3, fp1, B1, l1, s1, rfl, hB1, ok1, hw1, hk1, hm1, nm1, e1, k1⟩
    cases B1 with
    | leaf c => cases hk1
    | fb t b u => cases hk1
    | eight ns i j told x y => cases hk1
    | eightR r => cases hk1
    | fourR t b told =>
      obtain ⟨dx, p, tx, st, told', r, dr, rfl, ea, er, ne⟩ := hB1
      obtain ⟨dm, em⟩ := hm1
      refine ⟨_, rfl, a, _, dx, _, _, rfl, ea, cl, T.n_FourBox_rest, rfl, rfl, _, rfl, ite2 (fun c => ?_) (fun c => ?_)⟩
      · exact absurd (of_decide_eq_true c) (by intro z; cases z)
      · cases n1 with
        | zero => cases e1
        | succ n1 =>
          simp only [askF, Option.map_eq_some_iff] at e1
          obtain ⟨z, ez, e1⟩ := e1
          cases e1
          have nma : m ≠ a := fun z => nm1 (by simp [z])
          have nmr : m ≠ r := fun z => nm1 (by simp [z])
          refine ⟨_, rfl, a, _, dx, _, _, rfl, ea, cl, T.n_FourBox_rest, rfl, r, dr, _, rfl, er, rfl, _, rfl, fb_sub T ez er fun H' hA kp => ?_⟩
          exact k1 H' [a, r] ⟨dx, p, tx, st, told', r, dr, rfl, kp _ _ ea ne, hA, ne⟩ ⟨dm, by rw [Int.sub_self, Int.add_zero]; exact kp _ _ em nmr⟩ nm1 (fun c o e hc _ => kp c o e (fun z => hc (by simp [z]))) (fun c hc => .inl hc)
    | four ns st told x =>
      obtain ⟨dx, p, tx, fx, rfl, ea, hp, hx, na⟩ := hB1
      obtain ⟨hl4, okx, kx⟩ := ok1
      refine ⟨_, rfl, a, _, dx, _, _, rfl, ea, cl, T.n_FourBox_rest, rfl, rfl, _, rfl, ite2 (fun c => ?_) (fun c => absurd (decide_eq_true rfl) c)⟩
      cases n1 with
      | zero => cases e1
      | succ n1 =>
      simp only [askF] at e1
      split at e1
      case isFalse => cases e1
      rename_i hfit
      obtain ⟨hf, hcf⟩ := allFit_ns hfit
      refine ⟨_, fun σ' H' z => z, fun σ' H' => ∃ pv, σ' = [some (V.ref a), some (V.ref m), some pv, v3] ∧ Same H1 H' ∧ pv = (match (if st = true then surePart (fourCorners ns) else none) with | some q => V.int q | none => V.non), ?_, ?_⟩
      · refine ⟨_, rfl, a, _, dx, _, _, rfl, ea, cl, T.n_FourBox_started, rfl, st, rfl, ?_⟩
        cases st with
        | true => exact ⟨_, rfl, a, _, dx, _, _, rfl, ea, cl, T.n_FourBox_numbers, rfl, p, ns, rfl, hp, hl4, fun L H2 hc s2 => ⟨L, fourCorners ns, rfl, hc, (by show 0 < 2; decide), (by show 2 ≤ 4; decide), hcf, fun H3 s3 => ⟨_, rfl, s2.trans s3, rfl⟩⟩⟩
        | false => exact ⟨_, rfl, Same.refl H1, rfl⟩
      · rintro σ' H3 ⟨pv, rfl, s3, rfl⟩
        have ea3 := s3 _ _ ea
        have hp3 := sqT_same hp s3
        have hx3 := hx.same s3
        obtain ⟨dm, em⟩ := hm1
        have em3 := s3 _ _ em
        have nma : m ≠ a := fun z => nm1 (by simp [z])
        have nmx : m ∉ fx := fun z => nm1 (by simp [z])
        have k3 : FinB A K Q E H3 a m (a :: fx) l1 s1 o B' l' := k1.step (fun c z e _ _ => s3 c z e) (fun c hc => .inl hc) rfl
        cases es : (if st = true then surePart (fourCorners ns) else none) with
        | some q =>
          rw [es] at e1
          cases e1
          have fq : fits q := by
            cases st with
            | true => exact surePart_fits es hcf (by show 0 < 2; decide)
            | false => cases es
          refine ⟨_, rfl, rfl, _, rfl, ite2 (fun _ => ?_) (fun c => absurd rfl c)⟩
          refine ⟨_, rfl, a, dx, _, rfl, ea3, rfl, _, rfl, a, dx, p, tx, ns, st, told, q, rfl, ea3, hp3, hl4, hf, fq, fun r p' H4 hr4 ha4 hp4 kp => ?_⟩
          have hx4 := hx3.kept (N := fun c => c = a) (fun c o e n => kp c o e n) (fun c o e z => by subst e; rw [ea3] at z; exact ins_no (Option.some.inj z).symm) (fun c hc z => na (z ▸ hc))
          exact k3 H4 (a :: fx) ⟨dx, p', tx, fx, rfl, ha4, hp4, hx4, na⟩ ⟨dm, by rw [Int.sub_self, Int.add_zero]; exact kp _ _ em3 nma⟩ nm1 (fun c o e hc _ => kp c o e (fun z => hc (by simp [z]))) (fun c hc => .inl hc) _ ⟨r, rfl, hr4⟩
        | none =>
          rw [es] at e1
          simp only at e1
          refine ⟨_, rfl, rfl, _, rfl, ite2 (fun c => absurd c (by decide)) (fun _ => ?_)⟩
          cases ex : askF n1 x l1 with
          | none => rw [ex] at e1; cases e1
          | some z =>
            obtain ⟨ox, x', l2⟩ := z
            rw [ex] at e1
            obtain ⟨okx', wx', kx'⟩ := askF_ok okx ex
            refine ask_any (tx := tx) (m := m) (fx := fx) (x := x) (l := l1) (s := s1) (n := n1) (fun R h => ⟨_, rfl, a, _, dx, _, _, rfl, ea3, cl, T.n_FourBox_tree, rfl, h⟩) (fun R h => ⟨_, rfl, h⟩) hx3 okx (by show x.wt ≤ d; exact Nat.le_of_succ_le_succ hw1) kx ⟨dm, em3⟩ nmx ex fun H4 fx' hx4 hm4 nm4 fr4 sub4 => ?_
            have ea4 := fr4 _ _ ea3 na nma.symm
            have hp4 : SqT K H4 p (ns.map V.int) := sqT_but (N := fun c => c ∈ fx ∨ c = m) hp3 (fun c o e n => fr4 c o e (fun z => n (.inl z)) (fun z => n (.inr z))) fun c o z e => by
              rcases z with z | rfl
              · exact (hx3.soft c z).no e
              · rw [em3] at e; exact ins_no (Option.some.inj e).symm
            have na4 : a ∉ fx' := fun z => by
              rcases sub4 a z with q | q
              · exact na q
              · rw [ea3] at q; cases q
            have nm5 : m ∉ a :: fx' := fun z => by
              rcases List.mem_cons.mp z with q | q
              · exact nma q
              · exact nm4 q
            have fr5 : ∀ c z, H3 c = some z → c ∉ a :: fx → c ≠ m → H4 c = some z := fun c z e hc hcm => fr4 c z e (fun q => hc (List.mem_cons_of_mem _ q)) hcm
            have sub5 : ∀ c ∈ a :: fx', c ∈ a :: fx ∨ H3 c = none := fun c hc => by
              rcases List.mem_cons.mp hc with rfl | hc
              · exact .inl List.mem_cons_self
              · rcases sub4 c hc with q | q
                · exact .inl (List.mem_cons_of_mem _ q)
                · exact .inr q
            cases ox with
            | none =>
              cases e1
              exact k3 H4 (a :: fx') ⟨dx, p, tx, fx', rfl, ea4, hp4, hx4, na4⟩ hm4 nm5 fr5 sub5
            | some an =>
              intro v hv
              obtain ⟨pv', rfl, hpv⟩ := hv.tup T
              have hW : SqT K H4 A.k_WAITS Ans.waits.vals := T.t_WAITS H4
              refine ⟨_, rfl, _, _, an.dp hpv, Ans.waits.dp hW, an.shaped, Ans.waits.shaped, _, rfl, ?_⟩
              rw [eqv_waits]
              cases an with
              | waits =>
                cases e1
                exact iteT ⟨_, rfl, k3 H4 (a :: fx') ⟨dx, p, tx, fx', rfl, ea4, hp4, hx4, na4⟩ hm4 nm5 fr5 sub5 _ hv⟩
              | fin =>
                simp only at e1
                refine iteF ⟨_, rfl, a, dx, _, rfl, ea4, rfl, _, rfl, a, dx, p, tx, ns, st, told, _, .fin, rfl, hv, ea4, hp4, hl4, hf, fun r dr H5 ha5 hr5 nr5 kp5 => ?_⟩
                have nar : a ≠ r := ne_of_none ea4 nr5
                obtain ⟨dm4, em4⟩ := hm4
                have nmr : m ≠ r := ne_of_none em4 nr5
                refine ⟨n1, Nat.lt_succ_self _, _, _, [a, r], .fourR (ns.getD 0 0) (ns.getD 2 0) told, l2, s1 + (l1 - l2), rfl, ⟨dx, p, tx, st, told, r, dr, rfl, ha5, hr5, nar⟩, trivial, (by show 1 ≤ d + 1; omega), rfl, ⟨dm4, kp5 _ _ em4 nma⟩, ?_, e1, ?_⟩
                · intro z
                  simp only [List.mem_cons, List.not_mem_nil, or_false] at z
                  rcases z with z | z
                  · exact nma z
                  · exact nmr z
                · refine k3.step (fun c z e hc hcm => ?_) (fun c hc => ?_) (by omega)
                  · exact kp5 c z (fr5 c z e hc hcm) (fun q => hc (q ▸ List.mem_cons_self))
                  · simp only [List.mem_cons, List.not_mem_nil, or_false] at hc
                    rcases hc with rfl | rfl
                    · exact .inl List.mem_cons_self
                    · cases q : H3 c with
                      | none => exact .inr rfl
                      | some z =>
                        rcases Decidable.em (c ∈ a :: fx) with q1 | q1
                        · exact .inl q1
                        · have := fr5 c z q q1 nmr.symm
                          rw [nr5] at this
                          cases this
              | part q =>
                simp only at e1
                split at e1
                case isFalse => cases e1
                rename_i fq
                refine iteF ⟨_, rfl, a, dx, _, rfl, ea4, rfl, _, rfl, a, dx, p, tx, ns, st, told, _, .part q, rfl, hv, ea4, hp4, hl4, hf, fq, fun p' H5 ha5 hp5 kp5 => ?_⟩
                obtain ⟨dm4, em4⟩ := hm4
                have hx5 := hx4.kept (N := fun c => c = a) (fun c o e n => kp5 c o e n) (fun c o e z => by subst e; rw [ea4] at z; exact ins_no (Option.some.inj z).symm) (fun c hc z => na4 (z ▸ hc))
                refine ⟨n1, Nat.lt_succ_self _, _, _, a :: fx', .four (withOne ns q) true told x', l2, s1 + (l1 - l2), rfl, ⟨dx, p', tx, fx', rfl, ha5, hp5, hx5, na4⟩, ⟨rfl, okx', kx' ▸ kx⟩, (by show x'.wt + 1 ≤ d + 1; exact Nat.succ_le_succ (Nat.le_trans wx' (Nat.le_of_succ_le_succ hw1))), rfl, ⟨dm4, kp5 _ _ em4 nma⟩, nm5, e1, ?_⟩
                exact k3.step (fun c z e hc hcm => kp5 c z (fr5 c z e hc hcm) (fun q => hc (q ▸ List.mem_cons_self))) sub5 (by omega)
end
/-! ### eights, asked -/
section
variable {P : Program} [NoTree P] {w : World} {K : PySem.W.Frag} {mg : Str → Option Value} {base : Heap} {A : Ad}
theorem oneIs_at {H : Hp} {p z r dr C : Addr} {ns : List Int} {told : Bool} {fs : Flds} {x : Box} {fx : List Addr} (one : OneIs A p z ns told C fs) (hr : H r = some (.ins C dr fs)) (hp : SqT K H p (ns.map V.int)) (hx : BoxAt A K H x z fx) (nr : r ∉ fx) :
    ∃ fr, BoxAt A K H (oneBox ns told x) r fr ∧ ∀ c ∈ fr, c = r ∨ c ∈ fx := by
  unfold oneBox
  rcases one with ⟨h1, rfl, rfl⟩ | ⟨h1, h2, rfl, rfl⟩ | ⟨h1, h2, rfl, rfl⟩
  · rw [if_pos h1]
    exact ⟨r :: fx, ⟨dr, p, z, fx, rfl, hr, hp, hx, nr⟩, fun c hc => List.mem_cons.mp hc⟩
  · rw [if_neg (fun q => q h1), if_pos h2]
    exact ⟨[r], ⟨dr, rfl, hr⟩, fun c hc => .inl (by simpa using hc)⟩
  · rw [if_neg (fun q => q h1), if_neg (fun q => q h2)]
    exact ⟨[r], ⟨dr, rfl, hr⟩, fun c hc => .inl (by simpa using hc)⟩
theorem ask_rest {σ : St} {H : Hp} {to : TE} {ta : TA} {Q : VK} {E : XK} {d : Nat} {tx m : Addr} {fx : List Addr} {x x' : Box} {l s l' : Int} {n : Nat} {o : Option Ans} (hto : ∀ R : VK, R (.ref tx) H → to σ H R) (hta : ∀ R : List V → Hp → Prop, R [.ref m] H → ta σ H R)
    (hB : BoxAt A K H x tx fx) (ok : x.Ok) (hw : x.wt ≤ d) (hk : x.kind = 1 ∨ x.kind = 2) (hm : MeterAt A H m l s) (nm : m ∉ fx) (e : askF n x l = some (o, x', l')) (k : FinB A K Q E H tx m fx l s o x' l') :
    tMeth A.c_FractionBox "ask" (spB A K 1 d) [] E to ta σ H Q ∨ tMeth A.c_FourBox "ask" (spB A K 2 d) [] E to ta σ H Q := by
  obtain ⟨C, dx, fs, ec, hl, c0, c1, c2, c3⟩ := hB.cls
  rcases hk with z | z
  · exact .inl (hto _ ⟨tx, dx, fs, rfl, by rw [← c1 z]; exact ec, hl, hta _ ⟨tx, m, fx, x, l, s, n, o, x', l', rfl, hB, ok, hw, z, hm, nm, e, k⟩⟩)
  · exact .inr (hto _ ⟨tx, dx, fs, rfl, by rw [← c2 z]; exact ec, hl, hta _ ⟨tx, m, fx, x, l, s, n, o, x', l', rfl, hB, ok, hw, z, hm, nm, e, k⟩⟩)
theorem ok_ask_eight {d : Nat} (T : CT K mg A) (D : DT K mg A) (M_four : MOk P w K mg base (L2.CX P w) (40 + (d + 1)) A.c_FourBox "ask" ["self", "meter"] (spB A K 2 (d + 1))) (M_eight : MOk P w K mg base (L2.CX P w) (40 + (d + 1)) A.c_EightBox "ask" ["self", "meter"] (spB A K 3 (d + 1))) :
    MOk P w K mg base (L2.CX P w) (40 + (d + 2)) A.c_EightBox "ask" ["self", "meter"] (spB A K 3 (d + 2)) := by
  have M_leaf := ok_ask_leaf (P := P) (w := w) (base := base) T D (d + 1)
  have M_fb := ok_ask_fb (P := P) (w := w) (base := base) T D (d + 1)
  have M_tell := ok_EightBox_tell (P := P) (w := w) (base := base) T D
  have M_take := ok_EightBox_take (P := P) (w := w) (base := base) T D
  have G_sure_part := ok_sure_part (P := P) (w := w) (base := base) T D
  have G_eight_corners := ok_eight_corners (P := P) (w := w) (base := base) T D
  refine MOk.of T.cl_EightBox D.EightBox_ask fun f fd F => ?_
  refine F.okX (k := 40 + (d + 1)) sc_EightBox_ask (fun vs H Q E h => ?_) (fun cdv Ar outer s H vs Q E hr h => ?_)
  · obtain ⟨a, m, fp, B, l, s, n, o, B', l', rfl, _⟩ := h
    rfl
  · obtain ⟨a, m, fp, B, l, sp, n, o, B', l', rfl, hB, ok, hw, hk, hm, nm, e, k⟩ := h
    refine ⟨_, (pss_cons (ps_while (passes_of rfl) (pt_cmpR op_isN (pe_fld (pv 0) rfl) pe_non (nomark _))
      (C8.pss_cut (ps_set (i := 2) sc_EightBox_ask.nd rfl (Or.inl rfl) (pe_ifExp (pt_cmpR op_gt (pe_callB (cr_min rfl) (by rfl) T.b_min (by decide +kernel) (pa_cons (pe_fld (pv 0) rfl) pa_nil)) pe_int (nomark _)) (pe_c G_sure_part (hr.mono (by first | decide | omega)) (pa_cons (pe_c G_eight_corners (hr.mono (by first | decide | omega)) (pa_cons (pe_fld (pv 0) rfl) pa_nil)) pa_nil)) pe_non))
    (pss_cons (ps_if (pt_cmpR op_notN (pv 2) pe_non (nomark _))
      (pss_one (ps_ret (pe_m M_tell (hr.mono (by first | decide | omega)) (pv 0) (pa_cons (pv 2) pa_nil)))) pss_nil)
    (C8.pss_cut (ps_set (i := 3) sc_EightBox_ask.nd rfl (Or.inl rfl) (pe_ifExp (pt_cmpR op_le (pe_ix ix_list (pe_fld (pv 0) rfl) pe_int (fun _ _ => rfl)) (pe_ix ix_list (pe_fld (pv 0) rfl) pe_int (fun _ _ => rfl)) (nomark _)) pe_int pe_int))
    (pss_cons (ps_set (i := 4) sc_EightBox_ask.nd rfl (Or.inl rfl) ((pe_alt (pe_m M_leaf (hr.mono (by first | decide | omega)) (pe_ix ix_tup (pe_fld (pv 0) rfl) (pv 3) (fun _ _ => rfl)) (pa_cons (pv 1) pa_nil)) (pe_alt (pe_mX M_four (hr.mono (by first | decide | omega)) (passes_tk (takes_of rfl rfl rfl rfl)) (pe_ix ix_tup (pe_fld (pv 0) rfl) (pv 3) (fun _ _ => rfl)) (pa_cons (pv 1) pa_nil)) (pe_mX M_eight (hr.mono (by first | decide | omega)) (passes_tk (takes_of rfl rfl rfl rfl)) (pe_ix ix_tup (pe_fld (pv 0) rfl) (pv 3) (fun _ _ => rfl)) (pa_cons (pv 1) pa_nil))))))
    (pss_cons (ps_if (pt_cmpR (op_eqD hr.units) (pv 4) (pe_glob (v := .ref A.k_WAITS) (by rfl) T.g_WAITS rfl) (nomark _))
      (pss_one (ps_ret (pv 4))) pss_nil)
    (pss_one (ps_expr (pe_m M_take (hr.mono (by first | decide | omega)) (pv 0) (pa_cons (pv 3) (pa_cons (pv 4) pa_nil)))))))))))
    (pss_one (ps_ret ((pe_alt (pe_mX M_fb (hr.mono (by first | decide | omega)) (passes_tk (takes_of rfl rfl rfl rfl)) (pe_fld (pv 0) rfl) (pa_cons (pv 1) pa_nil)) (pe_mX M_four (hr.mono (by first | decide | omega)) (passes_tk (takes_of rfl rfl rfl rfl)) (pe_fld (pv 0) rfl) (pa_cons (pv 1) pa_nil))))))), ?_⟩
    have cl := T.cl_EightBox
    refine ⟨fun n1 σ H1 => ∃ v2 v3 v4 fp1 B1 l1 s1, σ = [some (V.ref a), some (V.ref m), v2, v3, v4] ∧ BoxAt A K H1 B1 a fp1 ∧ B1.Ok ∧ B1.wt ≤ d + 2 ∧ B1.kind = 3 ∧ MeterAt A H1 m l1 s1 ∧ m ∉ fp1 ∧ askF n1 B1 l1 = some (o, B', l') ∧ FinB A K Q E H1 a m fp1 l1 s1 o B' l',
      ⟨n, none, none, none, fp, B, l, sp, rfl, hB, ok, hw, hk, hm, nm, e, k⟩, ?_⟩
    rintro n1 σ H1 ⟨v2, v3, v4, fp1, B1, l1, s1, rfl, hB1, ok1, hw1, hk1, hm1, nm1, e1, k1⟩
    cases B1 with
    | leaf c => cases hk1
    | fb t b u => cases hk1
    | four ns st told x => cases hk1
    | fourR t b told => cases hk1
    | eightR r =>
      obtain ⟨dx, p, t, L, told, b, fr, rfl, ea, hr1, na⟩ := hB1
      refine ⟨_, rfl, a, _, dx, _, _, rfl, ea, cl, T.n_EightBox_rest, rfl, rfl, _, rfl, ite2 (fun c => ?_) (fun c => ?_)⟩
      · exact absurd (of_decide_eq_true c) (by intro z; cases z)
      · cases n1 with
        | zero => cases e1
        | succ n1 =>
          simp only [askF, Option.map_eq_some_iff] at e1
          obtain ⟨⟨o1, r1, l2⟩, er, e1⟩ := e1
          cases e1
          have nma : m ≠ a := fun z => nm1 (by simp [z])
          have nmr : m ∉ fr := fun z => nm1 (by simp [z])
          refine ask_rest (tx := b) (m := m) (fx := fr) (x := r) (l := l1) (s := s1) (n := n1) (fun R h => ⟨_, rfl, a, _, dx, _, _, rfl, ea, cl, T.n_EightBox_rest, rfl, h⟩) (fun R h => ⟨_, rfl, h⟩) hr1 ok1.1 (by have : r.wt + 2 ≤ d + 2 := hw1; omega) ok1.2 hm1 nmr er fun H4 fr' hr4 hm4 nm4 fr4 sub4 => ?_
          have ea4 := fr4 _ _ ea na nma.symm
          refine k1 H4 (a :: fr') ⟨dx, p, t, L, told, b, fr', rfl, ea4, hr4, fun z => ?_⟩ hm4 (fun z => ?_) (fun c z e hc hcm => fr4 c z e (fun q => hc (List.mem_cons_of_mem _ q)) hcm) (fun c hc => ?_)
          · rcases sub4 a z with q | q
            · exact na q
            · rw [ea] at q; cases q
          · rcases List.mem_cons.mp z with q | q
            · exact nma q
            · exact nm4 q
          · rcases List.mem_cons.mp hc with rfl | hc
            · exact .inl List.mem_cons_self
            · rcases sub4 c hc with q | q
              · exact .inl (List.mem_cons_of_mem _ q)
              · exact .inr q
    | eight ns i j told x y =>
      obtain ⟨dx, p, t, L, tx, ty, fx, fy, rfl, ea, hp, ht, hL, hx, hy, na1, na2, nl1, nl2, dj0⟩ := hB1
      obtain ⟨hl8, okx, oky, kx, ky, hi, hj⟩ := ok1
      have hwE : max x.wt y.wt + 3 ≤ d + 2 := hw1
      have wx : x.wt ≤ d + 1 := by omega
      have wy : y.wt ≤ d + 1 := by omega
      refine ⟨_, rfl, a, _, dx, _, _, rfl, ea, cl, T.n_EightBox_rest, rfl, rfl, _, rfl, ite2 (fun c => ?_) (fun c => absurd (decide_eq_true rfl) c)⟩
      cases n1 with
      | zero => cases e1
      | succ n1 =>
      simp only [askF] at e1
      split at e1
      case isFalse => cases e1
      rename_i hfit
      obtain ⟨hf, hcf⟩ := allFit_ns hfit
      refine ⟨_, fun σ' H' z => z, fun σ' H' => ∃ pv, σ' = [some (V.ref a), some (V.ref m), some pv, v3, v4] ∧ Same H1 H' ∧ pv = (match (if 0 < i ∧ 0 < j then surePart (eightCorners ns) else none) with | some q => V.int q | none => V.non), ?_, ?_⟩
      · refine ⟨_, rfl, a, _, dx, _, _, rfl, ea, cl, T.n_EightBox_taken, rfl, L, [i, j], rfl, SqL.of hL, (by show 0 < 2; decide), fun mn hmn hmin => ⟨_, _, rfl, rfl, _, rfl, ite2 (fun c => ?_) (fun c => ?_)⟩⟩
        · have c' : mn > 0 := of_decide_eq_true c
          have h1 := hmin i (by simp)
          have h2 := hmin j (by simp)
          rw [if_pos (show 0 < i ∧ 0 < j by omega)]
          exact ⟨_, rfl, a, _, dx, _, _, rfl, ea, cl, T.n_EightBox_numbers, rfl, p, ns, rfl, hp, hl8, fun Lc H2 hc s2 => ⟨Lc, eightCorners ns, rfl, hc, (by show 0 < 4; decide), (by show 4 ≤ 4; decide), hcf, fun H3 s3 => ⟨_, rfl, s2.trans s3, rfl⟩⟩⟩
        · have c' : ¬ mn > 0 := fun z => c (decide_eq_true z)
          rw [if_neg (show ¬ (0 < i ∧ 0 < j) from fun z => by
            simp only [List.mem_cons, List.not_mem_nil, or_false] at hmn
            rcases hmn with rfl | rfl <;> omega)]
          exact ⟨_, rfl, Same.refl H1, rfl⟩
      · rintro σ' H3 ⟨pv, rfl, s3, rfl⟩
        have ea3 := s3 _ _ ea
        have hp3 := sqT_same hp s3
        have ht3 := sqT_same ht s3
        have hL3 := s3 _ _ hL
        have hx3 := hx.same s3
        have hy3 := hy.same s3
        obtain ⟨dm, em⟩ := hm1
        have em3 := s3 _ _ em
        have nma : m ≠ a := fun z => nm1 (by simp [z])
        have nml : m ≠ L := fun z => nm1 (by simp [z])
        have nmx : m ∉ fx := fun z => nm1 (by simp [z])
        have nmy : m ∉ fy := fun z => nm1 (by simp [z])
        have k3 : FinB A K Q E H3 a m (a :: L :: (fx ++ fy)) l1 s1 o B' l' := k1.step (fun c z e _ _ => s3 c z e) (fun c hc => .inl hc) rfl
        cases es : (if 0 < i ∧ 0 < j then surePart (eightCorners ns) else none) with
        | some q =>
          rw [es] at e1
          cases e1
          have fq : fits q := by
            split at es
            · exact surePart_fits es hcf (by show 0 < 4; decide)
            · cases es
          refine ⟨_, rfl, rfl, _, rfl, ite2 (fun _ => ?_) (fun c => absurd rfl c)⟩
          refine ⟨_, rfl, a, dx, _, rfl, ea3, rfl, _, rfl, a, dx, p, t, L, ns, told, q, rfl, ea3, hp3, hl8, hf, fq, fun r p' H4 hr4 ha4 hp4 kp => ?_⟩
          have sf : ∀ c o, c = a → H3 c = some o → (∀ ys, o ≠ .tup ys) ∧ ∀ ob u, o ≠ .frz ob u := fun c o e z => by subst e; rw [ea3] at z; exact ins_no (Option.some.inj z).symm
          have hx4 := hx3.kept (N := fun c => c = a) (fun c o e n => kp c o e n) sf (fun c hc z => na1 (z ▸ hc))
          have hy4 := hy3.kept (N := fun c => c = a) (fun c o e n => kp c o e n) sf (fun c hc z => na2 (z ▸ hc))
          have ht4 := sqT_but (N := fun c => c = a) ht3 (fun c o e n => kp c o e n) sf
          have nLa : L ≠ a := ne_of hL3 ea3 (by intro z; cases z)
          exact k3 H4 (a :: L :: (fx ++ fy)) ⟨dx, p', t, L, tx, ty, fx, fy, rfl, ha4, hp4, ht4, kp _ _ hL3 nLa, hx4, hy4, na1, na2, nl1, nl2, dj0⟩ ⟨dm, by rw [Int.sub_self, Int.add_zero]; exact kp _ _ em3 nma⟩ nm1 (fun c o e hc _ => kp c o e (fun z => hc (by simp [z]))) (fun c hc => .inl hc) _ ⟨r, rfl, hr4⟩
        | none =>
          rw [es] at e1
          simp only at e1
          refine ⟨_, rfl, rfl, _, rfl, ite2 (fun c => absurd c (by decide)) (fun _ => ?_)⟩
          refine ⟨fun σ' H' => H3 = H' ∧ σ' = [some (V.ref a), some (V.ref m), some V.non, some (V.int (if i ≤ j then 0 else 1)), v4], ?_, ?_⟩
          · refine ⟨_, rfl, a, _, dx, _, _, rfl, ea3, cl, T.n_EightBox_taken, rfl, L, _, 0, _, rfl, rfl, SqL.of hL3, atI_nat (j := 0) rfl, _, rfl, a, _, dx, _, _, rfl, ea3, cl, T.n_EightBox_taken, rfl, L, _, 1, _, rfl, rfl, SqL.of hL3, atI_nat (j := 1) rfl, _, _, rfl, rfl, _, rfl, ite2 (fun c => ?_) (fun c => ?_)⟩
            · rw [if_pos (of_decide_eq_true c)]
              exact ⟨rfl, rfl⟩
            · rw [if_neg (fun z => c (decide_eq_true z))]
              exact ⟨rfl, rfl⟩
          rintro σ' H3' ⟨rfl, rfl⟩
          split at e1
          · rename_i cij
            rw [if_pos cij]
            cases ex : askF n1 x l1 with
            | none => rw [ex] at e1; cases e1
            | some z =>
              obtain ⟨ox, x', l2⟩ := z
              rw [ex] at e1
              obtain ⟨okc', wc', kc'⟩ := askF_ok okx ex
              refine ask_any (tx := tx) (m := m) (fx := fx) (x := x) (l := l1) (s := s1) (n := n1) (fun R h => ⟨_, rfl, a, _, dx, _, _, rfl, ea3, cl, T.n_EightBox_trees, rfl, _, rfl, t, _, 0, _, rfl, rfl, ht3, atI_nat (j := 0) rfl, h⟩) (fun R h => ⟨_, rfl, h⟩) hx3 okx wx kx ⟨dm, em3⟩ nmx ex fun H4 fc' hc4 hm4 nm4 fr4 sub4 => ?_
              have ea4 := fr4 _ _ ea3 na1 nma.symm
              have hL4 := fr4 _ _ hL3 nl1 nml.symm
              have soft4 : ∀ c o, (c ∈ fx ∨ c = m) → H3 c = some o → (∀ ys, o ≠ .tup ys) ∧ ∀ ob u, o ≠ .frz ob u := fun c o z e => by
                rcases z with z | rfl
                · exact (hx3.soft c z).no e
                · rw [em3] at e; exact ins_no (Option.some.inj e).symm
              have frN : ∀ c o, H3 c = some o → ¬ (c ∈ fx ∨ c = m) → H4 c = some o := fun c o e n => fr4 c o e (fun z => n (.inl z)) (fun z => n (.inr z))
              have hp4 : SqT K H4 p (ns.map V.int) := sqT_but hp3 frN soft4
              have ht4 : SqT K H4 t [.ref tx, .ref ty] := sqT_but ht3 frN soft4
              have ho4 := hy3.kept frN soft4 (fun c hc z => by
                rcases z with z | rfl
                · exact dj0 c z hc
                · exact nmy hc)
              have old : ∀ c z, H3 c = some z → c ∉ fx → c ∉ fc' := fun c z e hn q => by
                rcases sub4 c q with q | q
                · exact hn q
                · rw [e] at q; cases q
              have nac : a ∉ fc' := old _ _ ea3 na1
              have nlc : L ∉ fc' := old _ _ hL3 nl1
              have dj : ∀ c ∈ fc', c ∉ fy := fun c hc hd => by
                obtain ⟨z, ez⟩ : ∃ z, H3 c = some z := by
                  rcases hy3.soft c hd with ⟨_, _, _, q⟩ | ⟨_, q⟩
                  · exact ⟨_, q⟩
                  · exact ⟨_, q⟩
                exact old c z ez (fun q => dj0 c q hd) hc
              have nm5 : m ∉ a :: L :: (fc' ++ fy) := fun z => by
                simp only [List.mem_cons, List.mem_append] at z
                rcases z with z | z | z | z
                · exact nma z
                · exact nml z
                · exact nm4 z
                · exact nmy z
              have fr5 : ∀ c z, H3 c = some z → c ∉ a :: L :: (fx ++ fy) → c ≠ m → H4 c = some z := fun c z e hc hcm => fr4 c z e (fun q => hc (by simp [q])) hcm
              have sub5 : ∀ c ∈ a :: L :: (fc' ++ fy), c ∈ a :: L :: (fx ++ fy) ∨ H3 c = none := fun c hc => by
                simp only [List.mem_cons, List.mem_append] at hc ⊢
                rcases hc with z | z | z | z
                · exact .inl (.inl z)
                · exact .inl (.inr (.inl z))
                · rcases sub4 c z with q | q
                  · exact .inl (.inr (.inr (.inl q)))
                  · exact .inr q
                · exact .inl (.inr (.inr (.inr z)))


              cases ox with
              | none =>
                cases e1
                exact k3 H4 (a :: L :: (fc' ++ fy)) ⟨dx, p, t, L, tx, ty, fc', fy, rfl, ea4, hp4, ht4, hL4, hc4, ho4, nac, na2, nlc, nl2, dj⟩ hm4 nm5 fr5 sub5
              | some an =>
                intro v hv
                obtain ⟨pv', rfl, hpv⟩ := hv.tup T
                have hW : SqT K H4 A.k_WAITS Ans.waits.vals := T.t_WAITS H4
                refine ⟨_, rfl, _, _, an.dp hpv, Ans.waits.dp hW, an.shaped, Ans.waits.shaped, _, rfl, ?_⟩
                rw [eqv_waits]
                cases an with
                | waits =>
                  cases e1
                  exact iteT ⟨_, rfl, k3 H4 (a :: L :: (fc' ++ fy)) ⟨dx, p, t, L, tx, ty, fc', fy, rfl, ea4, hp4, ht4, hL4, hc4, ho4, nac, na2, nlc, nl2, dj⟩ hm4 nm5 fr5 sub5 _ hv⟩
                | fin =>
                  simp only at e1
                  refine iteF ⟨_, rfl, a, dx, _, rfl, ea4, rfl, _, rfl, _, rfl, a, dx, p, t, L, tx, ty, ns, told, 0, i, j, _, .fin, rfl, by decide, hv, ea4, hp4, ht4, hL4, hl8, hf, fun p' r dr C fs H5 hp5 nr5 ha5 kp5 hr5 one => ?_⟩
                  obtain ⟨dm4, em4⟩ := hm4
                  have nar : a ≠ r := ne_of_none ea4 nr5
                  have nmr : m ≠ r := ne_of_none em4 nr5
                  have ho5 := ho4.kept (N := fun c => c = a) (fun c o e n => kp5 c o e n) (fun c o e z => by subst e; rw [ea4] at z; exact ins_no (Option.some.inj z).symm) (fun c hc z => na2 (z ▸ hc))
                  have nro : r ∉ fy := fun z => by
                    rcases ho4.soft r z with ⟨_, _, _, q⟩ | ⟨_, q⟩
                    · rw [nr5] at q; cases q
                    · rw [nr5] at q; cases q
                  obtain ⟨fr, hr6, sub6⟩ := oneIs_at one hr5 hp5 ho5 nro
                  have z6 := oneBox_ok (ns := leftOf ns 0) (told := told) rfl oky ky
                  refine ⟨n1, Nat.lt_succ_self _, _, _, _, a :: fr, .eightR (oneBox (leftOf ns 0) told y), l2, s1 + (l1 - l2), rfl, ⟨dx, p, t, L, told, r, fr, rfl, ha5, hr6, ?_⟩, ⟨z6.1, z6.2.2⟩, (by show _ + 2 ≤ d + 2; have := z6.2.1; omega), rfl, ⟨dm4, kp5 _ _ em4 nma⟩, ?_, e1, ?_⟩
                  · intro z
                    rcases sub6 a z with q | q
                    · exact nar q
                    · exact na2 q
                  · intro z
                    rcases List.mem_cons.mp z with q | q
                    · exact nma q
                    · rcases sub6 m q with q | q
                      · exact nmr q
                      · exact nmy q
                  · refine k3.step (fun c z e hc hcm => ?_) (fun c hc => ?_) (by omega)
                    · exact kp5 c z (fr5 c z e hc hcm) (fun q => hc (q ▸ List.mem_cons_self))
                    · rcases List.mem_cons.mp hc with rfl | hc
                      · exact .inl List.mem_cons_self
                      · rcases sub6 c hc with rfl | q
                        · cases q : H3 c with
                          | none => exact .inr rfl
                          | some z =>
                            rcases Decidable.em (c ∈ a :: L :: (fx ++ fy)) with q1 | q1
                            · exact .inl q1
                            · have := fr5 c z q q1 nmr.symm
                              rw [nr5] at this
                              cases this
                        · exact .inl (by simp [q])
                | part q =>
                  simp only at e1
                  split at e1
                  case isFalse => cases e1
                  rename_i fq
                  refine iteF ⟨_, rfl, a, dx, _, rfl, ea4, rfl, _, rfl, _, rfl, a, dx, p, t, L, tx, ty, ns, told, 0, i, j, _, .part q, rfl, by decide, hv, ea4, hp4, ht4, hL4, hl8, hf, fq, fun p' H5 ha5 hp5 hL5 kp5 => ?_⟩
                  obtain ⟨dm4, em4⟩ := hm4
                  have frN5 : ∀ c o, H4 c = some o → ¬ (c = a ∨ c = L) → H5 c = some o := fun c o e n => kp5 c o e (fun z => n (.inl z)) (fun z => n (.inr z))
                  have soft5 : ∀ c o, (c = a ∨ c = L) → H4 c = some o → (∀ ys, o ≠ .tup ys) ∧ ∀ ob u, o ≠ .frz ob u := fun c o z e => by
                    rcases z with rfl | rfl
                    · exact Soft.no (.inl ⟨_, _, _, ea4⟩) e
                    · exact Soft.no (.inr ⟨_, hL4⟩) e
                  have hc5 := hc4.kept frN5 soft5 (fun c hc z => by
                    rcases z with rfl | rfl
                    · exact nac hc
                    · exact nlc hc)
                  have ho5 := ho4.kept frN5 soft5 (fun c hc z => by
                    rcases z with rfl | rfl
                    · exact na2 hc
                    · exact nl2 hc)
                  have ht5 : SqT K H5 t [.ref tx, .ref ty] := sqT_but ht4 frN5 soft5
                  refine ⟨n1, Nat.lt_succ_self _, _, _, _, a :: L :: (fc' ++ fy), .eight (withFirst ns q) (i + 1) j told x' y, l2, s1 + (l1 - l2), rfl, ⟨dx, p', t, L, tx, ty, fc', fy, rfl, ha5, hp5, ht5, hL5, hc5, ho5, nac, na2, nlc, nl2, dj⟩, ⟨rfl, okc', oky, kc' ▸ kx, ky, by omega, hj⟩, (by show max _ _ + 3 ≤ d + 2; omega), rfl, ⟨dm4, kp5 _ _ em4 nma nml⟩, nm5, e1, ?_⟩
                  exact k3.step (fun c z e hc hcm => kp5 c z (fr5 c z e hc hcm) (fun q => hc (by simp [q])) (fun q => hc (by simp [q]))) sub5 (by omega)
          · rename_i cij
            rw [if_neg cij]
            cases ex : askF n1 y l1 with
            | none => rw [ex] at e1; cases e1
            | some z =>
              obtain ⟨ox, x', l2⟩ := z
              rw [ex] at e1
              obtain ⟨okc', wc', kc'⟩ := askF_ok oky ex
              refine ask_any (tx := ty) (m := m) (fx := fy) (x := y) (l := l1) (s := s1) (n := n1) (fun R h => ⟨_, rfl, a, _, dx, _, _, rfl, ea3, cl, T.n_EightBox_trees, rfl, _, rfl, t, _, 1, _, rfl, rfl, ht3, atI_nat (j := 1) rfl, h⟩) (fun R h => ⟨_, rfl, h⟩) hy3 oky wy ky ⟨dm, em3⟩ nmy ex fun H4 fc' hc4 hm4 nm4 fr4 sub4 => ?_
              have ea4 := fr4 _ _ ea3 na2 nma.symm
              have hL4 := fr4 _ _ hL3 nl2 nml.symm
              have soft4 : ∀ c o, (c ∈ fy ∨ c = m) → H3 c = some o → (∀ ys, o ≠ .tup ys) ∧ ∀ ob u, o ≠ .frz ob u := fun c o z e => by
                rcases z with z | rfl
                · exact (hy3.soft c z).no e
                · rw [em3] at e; exact ins_no (Option.some.inj e).symm
              have frN : ∀ c o, H3 c = some o → ¬ (c ∈ fy ∨ c = m) → H4 c = some o := fun c o e n => fr4 c o e (fun z => n (.inl z)) (fun z => n (.inr z))
              have hp4 : SqT K H4 p (ns.map V.int) := sqT_but hp3 frN soft4
              have ht4 : SqT K H4 t [.ref tx, .ref ty] := sqT_but ht3 frN soft4
              have ho4 := hx3.kept frN soft4 (fun c hc z => by
                rcases z with z | rfl
                · exact dj0 c hc z
                · exact nmx hc)
              have old : ∀ c z, H3 c = some z → c ∉ fy → c ∉ fc' := fun c z e hn q => by
                rcases sub4 c q with q | q
                · exact hn q
                · rw [e] at q; cases q
              have nac : a ∉ fc' := old _ _ ea3 na2
              have nlc : L ∉ fc' := old _ _ hL3 nl2
              have dj : ∀ c ∈ fc', c ∉ fx := fun c hc hd => by
                obtain ⟨z, ez⟩ : ∃ z, H3 c = some z := by
                  rcases hx3.soft c hd with ⟨_, _, _, q⟩ | ⟨_, q⟩
                  · exact ⟨_, q⟩
                  · exact ⟨_, q⟩
                exact old c z ez (fun q => dj0 c hd q) hc
              have nm5 : m ∉ a :: L :: (fx ++ fc') := fun z => by
                simp only [List.mem_cons, List.mem_append] at z
                rcases z with z | z | z | z
                · exact nma z
                · exact nml z
                · exact nmx z
                · exact nm4 z
              have fr5 : ∀ c z, H3 c = some z → c ∉ a :: L :: (fx ++ fy) → c ≠ m → H4 c = some z := fun c z e hc hcm => fr4 c z e (fun q => hc (by simp [q])) hcm
              have sub5 : ∀ c ∈ a :: L :: (fx ++ fc'), c ∈ a :: L :: (fx ++ fy) ∨ H3 c = none := fun c hc => by
                simp only [List.mem_cons, List.mem_append] at hc ⊢
                rcases hc with z | z | z | z
                · exact .inl (.inl z)
                · exact .inl (.inr (.inl z))
                · exact .inl (.inr (.inr (.inl z)))


                · rcases sub4 c z with q | q
                  · exact .inl (.inr (.inr (.inr q)))
                  · exact .inr q
              cases ox with
              | none =>
                cases e1
                exact k3 H4 (a :: L :: (fx ++ fc')) ⟨dx, p, t, L, tx, ty, fx, fc', rfl, ea4, hp4, ht4, hL4, ho4, hc4, na1, nac, nl1, nlc, fun c h1 h2 => dj c h2 h1⟩ hm4 nm5 fr5 sub5
              | some an =>
                intro v hv
                obtain ⟨pv', rfl, hpv⟩ := hv.tup T
                have hW : SqT K H4 A.k_WAITS Ans.waits.vals := T.t_WAITS H4
                refine ⟨_, rfl, _, _, an.dp hpv, Ans.waits.dp hW, an.shaped, Ans.waits.shaped, _, rfl, ?_⟩
                rw [eqv_waits]
                cases an with
                | waits =>
                  cases e1
                  exact iteT ⟨_, rfl, k3 H4 (a :: L :: (fx ++ fc')) ⟨dx, p, t, L, tx, ty, fx, fc', rfl, ea4, hp4, ht4, hL4, ho4, hc4, na1, nac, nl1, nlc, fun c h1 h2 => dj c h2 h1⟩ hm4 nm5 fr5 sub5 _ hv⟩
                | fin =>
                  simp only at e1
                  refine iteF ⟨_, rfl, a, dx, _, rfl, ea4, rfl, _, rfl, _, rfl, a, dx, p, t, L, tx, ty, ns, told, 1, i, j, _, .fin, rfl, by decide, hv, ea4, hp4, ht4, hL4, hl8, hf, fun p' r dr C fs H5 hp5 nr5 ha5 kp5 hr5 one => ?_⟩
                  obtain ⟨dm4, em4⟩ := hm4
                  have nar : a ≠ r := ne_of_none ea4 nr5
                  have nmr : m ≠ r := ne_of_none em4 nr5
                  have ho5 := ho4.kept (N := fun c => c = a) (fun c o e n => kp5 c o e n) (fun c o e z => by subst e; rw [ea4] at z; exact ins_no (Option.some.inj z).symm) (fun c hc z => na1 (z ▸ hc))
                  have nro : r ∉ fx := fun z => by
                    rcases ho4.soft r z with ⟨_, _, _, q⟩ | ⟨_, q⟩
                    · rw [nr5] at q; cases q
                    · rw [nr5] at q; cases q
                  obtain ⟨fr, hr6, sub6⟩ := oneIs_at one hr5 hp5 ho5 nro
                  have z6 := oneBox_ok (ns := leftOf ns 1) (told := told) rfl okx kx
                  refine ⟨n1, Nat.lt_succ_self _, _, _, _, a :: fr, .eightR (oneBox (leftOf ns 1) told x), l2, s1 + (l1 - l2), rfl, ⟨dx, p, t, L, told, r, fr, rfl, ha5, hr6, ?_⟩, ⟨z6.1, z6.2.2⟩, (by show _ + 2 ≤ d + 2; have := z6.2.1; omega), rfl, ⟨dm4, kp5 _ _ em4 nma⟩, ?_, e1, ?_⟩
                  · intro z
                    rcases sub6 a z with q | q
                    · exact nar q
                    · exact na1 q
                  · intro z
                    rcases List.mem_cons.mp z with q | q
                    · exact nma q
                    · rcases sub6 m q with q | q
                      · exact nmr q
                      · exact nmx q
                  · refine k3.step (fun c z e hc hcm => ?_) (fun c hc => ?_) (by omega)
                    · exact kp5 c z (fr5 c z e hc hcm) (fun q => hc (q ▸ List.mem_cons_self))
                    · rcases List.mem_cons.mp hc with rfl | hc
                      · exact .inl List.mem_cons_self
                      · rcases sub6 c hc with rfl | q
                        · cases q : H3 c with
                          | none => exact .inr rfl
                          | some z =>
                            rcases Decidable.em (c ∈ a :: L :: (fx ++ fy)) with q1 | q1
                            · exact .inl q1
                            · have := fr5 c z q q1 nmr.symm
                              rw [nr5] at this
                              cases this
                        · exact .inl (by simp [q])
                | part q =>
                  simp only at e1
                  split at e1
                  case isFalse => cases e1
                  rename_i fq
                  refine iteF ⟨_, rfl, a, dx, _, rfl, ea4, rfl, _, rfl, _, rfl, a, dx, p, t, L, tx, ty, ns, told, 1, i, j, _, .part q, rfl, by decide, hv, ea4, hp4, ht4, hL4, hl8, hf, fq, fun p' H5 ha5 hp5 hL5 kp5 => ?_⟩
                  obtain ⟨dm4, em4⟩ := hm4
                  have frN5 : ∀ c o, H4 c = some o → ¬ (c = a ∨ c = L) → H5 c = some o := fun c o e n => kp5 c o e (fun z => n (.inl z)) (fun z => n (.inr z))
                  have soft5 : ∀ c o, (c = a ∨ c = L) → H4 c = some o → (∀ ys, o ≠ .tup ys) ∧ ∀ ob u, o ≠ .frz ob u := fun c o z e => by
                    rcases z with rfl | rfl
                    · exact Soft.no (.inl ⟨_, _, _, ea4⟩) e
                    · exact Soft.no (.inr ⟨_, hL4⟩) e
                  have hc5 := hc4.kept frN5 soft5 (fun c hc z => by
                    rcases z with rfl | rfl
                    · exact nac hc
                    · exact nlc hc)
                  have ho5 := ho4.kept frN5 soft5 (fun c hc z => by
                    rcases z with rfl | rfl
                    · exact na1 hc
                    · exact nl1 hc)
                  have ht5 : SqT K H5 t [.ref tx, .ref ty] := sqT_but ht4 frN5 soft5
                  refine ⟨n1, Nat.lt_succ_self _, _, _, _, a :: L :: (fx ++ fc'), .eight (withSecond ns q) i (j + 1) told x x', l2, s1 + (l1 - l2), rfl, ⟨dx, p', t, L, tx, ty, fx, fc', rfl, ha5, hp5, ht5, hL5, ho5, hc5, na1, nac, nl1, nlc, fun c h1 h2 => dj c h2 h1⟩, ⟨rfl, okx, okc', kx, kc' ▸ ky, hi, by omega⟩, (by show max _ _ + 3 ≤ d + 2; omega), rfl, ⟨dm4, kp5 _ _ em4 nma nml⟩, nm5, e1, ?_⟩
                  exact k3.step (fun c z e hc hcm => kp5 c z (fr5 c z e hc hcm) (fun q => hc (by simp [q])) (fun q => hc (by simp [q]))) sub5 (by omega)
theorem mok_no {k : Nat} {C : Addr} {m qual : Str} {ps : List Str} {sp : Sp} {st : Stmt} {CX : CXT} (c : Cls K C) (D : ∃ f fd, Fun K m qual st f fd ∧ Meth K C m f ∧ Binds K fd ps []) (no : ∀ vs H Q E, ¬ sp vs H Q E) : MOk P w K mg base CX k C m ps sp :=
  MOk.of c D fun f fd F => ⟨(fun vs H Q E h => (no vs H Q E h).elim), (fun _ _ _ _ _ _ _ _ _ _ _ _ _ h => (no _ _ _ _ h).elim)⟩
theorem no_four {vs : List V} {H : Hp} {Q : VK} {E : XK} : ¬ spB A K 2 0 vs H Q E := by
  rintro ⟨a, m, fp, B, l, s, n, o, B', l', rfl, hB, ok, hw, hk, _⟩
  cases B with
  | four ns st told x => exact absurd hw (by show ¬ x.wt + 1 ≤ 0; omega)
  | fourR t b u => exact absurd hw (by show ¬ 1 ≤ 0; omega)
  | leaf c => cases hk
  | fb t b u => cases hk
  | eight ns i j told x y => cases hk
  | eightR r => cases hk
theorem no_eight {d : Nat} (hd : d ≤ 1) {vs : List V} {H : Hp} {Q : VK} {E : XK} : ¬ spB A K 3 d vs H Q E := by
  rintro ⟨a, m, fp, B, l, s, n, o, B', l', rfl, hB, ok, hw, hk, _⟩
  cases B with
  | four ns st told x => cases hk
  | fourR t b u => cases hk
  | leaf c => cases hk
  | fb t b u => cases hk
  | eight ns i j told x y => exact absurd hw (by show ¬ max x.wt y.wt + 3 ≤ d; omega)
  | eightR r => exact absurd hw (by show ¬ r.wt + 2 ≤ d; omega)
/-- fours and eights, no heavier than d -/
theorem ok_asks (T : CT K mg A) (D : DT K mg A) : ∀ d : Nat, MOk P w K mg base (L2.CX P w) (40 + d) A.c_FourBox "ask" ["self", "meter"] (spB A K 2 d) ∧ MOk P w K mg base (L2.CX P w) (40 + d) A.c_EightBox "ask" ["self", "meter"] (spB A K 3 d)
  | 0 => ⟨mok_no T.cl_FourBox D.FourBox_ask fun _ _ _ _ => no_four, mok_no T.cl_EightBox D.EightBox_ask fun _ _ _ _ => no_eight (by omega)⟩
  | 1 => by
    have h := ok_asks T D 0
    exact ⟨ok_ask_four T D h.1 h.2, mok_no T.cl_EightBox D.EightBox_ask fun _ _ _ _ => no_eight (by omega)⟩
  | d + 2 => by
    have h := ok_asks T D (d + 1)
    exact ⟨ok_ask_four T D h.1 h.2, ok_ask_eight T D h.1 h.2⟩
end
/-! ### trees, and the boxes that are made of them -/
inductive Tree where
  | leaf (f : Leaf)
  | four (ns : List Int) (x : Tree)
  | eight (ns : List Int) (x y : Tree)
  | power (x : Tree) (n : Nat)
def Tree.ht : Tree → Nat
  | .leaf _ => 0
  | .four _ x => x.ht + 1
  | .eight _ x y => max x.ht y.ht + 1
  | .power x _ => x.ht + 1
def Tree.At (K : PySem.W.Frag) (H : Hp) : Tree → Addr → Prop
  | .leaf f, v => f.At K H v
  | .four ns x, v => ∃ p tx, SqT K H v [.str "four", .ref p, .ref tx] ∧ SqT K H p (ns.map V.int) ∧ x.At K H tx
  | .eight ns x y, v => ∃ p tx ty, SqT K H v [.str "eight", .ref p, .ref tx, .ref ty] ∧ SqT K H p (ns.map V.int) ∧ x.At K H tx ∧ y.At K H ty
  | .power x n, v => ∃ tx, SqT K H v [.str "power", .ref tx, .int n] ∧ x.At K H tx
/-- some two columns are not made of one another -/
def Crossed (ns : List Int) : Prop := ∃ i k : Nat, k < i ∧ i < ns.length / 2 ∧ ns.getD i 0 * ns.getD (k + ns.length / 2) 0 ≠ ns.getD k 0 * ns.getD (i + ns.length / 2) 0
def Tree.Good : Tree → Prop
  | .leaf f => f.Good
  | .four ns x => ns.length = 4 ∧ (∀ z ∈ ns, tame z) ∧ Crossed ns ∧ x.Good
  | .eight ns x y => ns.length = 8 ∧ (∀ z ∈ ns, tame z) ∧ Crossed ns ∧ x.Good ∧ y.Good
  | .power x n => 1 ≤ n ∧ n ≤ 4 ∧ x.Good
def timesN : List Int := [1, 0, 0, 0, 0, 0, 0, 1]
def powB (R : Box → Prop) : Nat → Box → Prop
  | 0, _ => False
  | 1, B => R B
  | n + 2, B => ∃ x y, R x ∧ powB R (n + 1) y ∧ B = .eight timesN 0 0 false x y
/-- the box that a tree begins with -/
def Tree.Starts : Tree → Box → Prop
  | .leaf f, B => ∃ ch, f.Starts ch ∧ B = .leaf ch
  | .four ns x, B => ∃ X, x.Starts X ∧ B = .four ns false false X
  | .eight ns x y, B => ∃ X Y, x.Starts X ∧ y.Starts Y ∧ B = .eight ns 0 0 false X Y
  | .power x n, B => powB x.Starts n B
section
variable {P : Program} [NoTree P] {w : World} {K : PySem.W.Frag} {mg : Str → Option Value} {base : Heap} {A : Ad}
theorem Tree.At.same {H H' : Hp} (s : Same H H') : ∀ {t : Tree} {v : Addr}, t.At K H v → t.At K H' v
  | .leaf f, v, h => Leaf.At.same (f := f) h s
  | .four ns x, v, h => by
    obtain ⟨p, tx, h1, h2, h3⟩ := h
    exact ⟨p, tx, sqT_same h1 s, sqT_same h2 s, Tree.At.same s h3⟩
  | .eight ns x y, v, h => by
    obtain ⟨p, tx, ty, h1, h2, h3, h4⟩ := h
    exact ⟨p, tx, ty, sqT_same h1 s, sqT_same h2 s, Tree.At.same s h3, Tree.At.same s h4⟩
  | .power x n, v, h => by
    obtain ⟨tx, h1, h2⟩ := h
    exact ⟨tx, sqT_same h1 s, Tree.At.same s h2⟩
theorem powB_kind {R : Box → Prop} (h : ∀ B, R B → B.kind ≠ 1) : ∀ {n : Nat} {B : Box}, powB R n B → B.kind ≠ 1
  | 0, B, z => z.elim
  | 1, B, z => h B z
  | n + 2, B, z => by
    obtain ⟨x, y, _, _, rfl⟩ := z
    show 3 ≠ 1
    decide
theorem Tree.Starts.kind : ∀ {t : Tree} {B : Box}, t.Starts B → B.kind ≠ 1
  | .leaf f, B, h => by obtain ⟨ch, _, rfl⟩ := h; show 0 ≠ 1; decide
  | .four ns x, B, h => by obtain ⟨X, _, rfl⟩ := h; show 2 ≠ 1; decide
  | .eight ns x y, B, h => by obtain ⟨X, Y, _, _, rfl⟩ := h; show 3 ≠ 1; decide
  | .power x n, B, h => powB_kind (fun B z => Tree.Starts.kind z) h
/-- a box was made: new, and of the right beginning -/
def Made (A : Ad) (K : PySem.W.Frag) (R : Box → Prop) (H : Hp) (Q : VK) : Prop := ∀ (a : Addr) (fp : List Addr) (B : Box) (H' : Hp), BoxAt A K H' B a fp → R B → B.Ok → Same H H' → (∀ c ∈ fp, H c = none) → Q (.ref a) H'
def sp_box_of (A : Ad) (K : PySem.W.Frag) (d : Nat) : Sp := fun vs H Q _ => ∃ (v : Addr) (t : Tree), vs = [.ref v] ∧ t.At K H v ∧ t.Good ∧ t.ht ≤ d ∧ Made A K t.Starts H Q
def sp_power_box (A : Ad) (K : PySem.W.Frag) (d N : Nat) : Sp := fun vs H Q _ => ∃ (v : Addr) (t : Tree) (n : Nat), vs = [.ref v, .int n] ∧ t.At K H v ∧ t.Good ∧ t.ht ≤ d ∧ 1 ≤ n ∧ n ≤ N ∧ Made A K (powB t.Starts n) H Q
theorem cok_no {k : Nat} {x : Str} {st : Stmt} {ps : List Str} {sp : Sp} (D : ∃ f fd, DefAt K mg x st ps f fd) (no : ∀ vs H Q E, ¬ sp vs H Q E) : COk P w K mg base CX0 k x ps sp := by
  obtain ⟨f, fd, F⟩ := D
  exact .of F ⟨(fun _ _ _ _ h => (no _ _ _ _ h).elim), (fun _ _ _ _ _ _ _ _ _ _ _ _ _ h => (no _ _ _ _ h).elim)⟩
/-- an eight is made of two new boxes -/
theorem eight_made {H H1 H2 : Hp} {Q : VK} {p tx ty : Addr} {fx fy : List Addr} {X Y : Box} {ns : List Int} (T : CT K mg A) (hx : BoxAt A K H1 X tx fx) (hy : BoxAt A K H2 Y ty fy) (okX : X.Ok) (okY : Y.Ok) (kX : X.kind ≠ 1) (kY : Y.kind ≠ 1) (hl : ns.length = 8)
    (s1 : Same H H1) (s2 : Same H1 H2) (nx : ∀ c ∈ fx, H c = none) (ny : ∀ c ∈ fy, H1 c = none) (hp : SqT K H2 p (ns.map V.int))
    (k : ∀ (a : Addr) (fp : List Addr) (H' : Hp), BoxAt A K H' (.eight ns 0 0 false X Y) a fp → Box.Ok (.eight ns 0 0 false X Y) → Same H H' → (∀ c ∈ fp, H c = none) → Q (.ref a) H') {x dx : Addr} (nx2 : H2 x = none) (nd2 : H2 dx = none) (ne : dx ≠ x) :
    sp_EightBox_init A [.ref x, .ref p, .ref tx, .ref ty] (upd (upd H2 dx (.own x)) x (.ins A.c_EightBox dx [])) (fun v H' => v = .non ∧ Q (.ref x) H') E0 := by
  refine ⟨x, dx, p, tx, ty, rfl, upd_same, fun q l H' nq nl nlq ha hq hL kp => ⟨rfl, ?_⟩⟩
  have s3 : Same H2 H' := fun c o e => kp c o (by rw [upd_ne (ne_of_none e nx2), upd_ne (ne_of_none e nd2)]; exact e) (ne_of_none e nx2)
  have nlx : l ≠ x := fun z => by rw [z, upd_same] at nl; cases nl
  have nld : l ≠ dx := fun z => by rw [z, upd_ne ne, upd_same] at nl; cases nl
  have nl2 : H2 l = none := by rw [upd_ne nlx, upd_ne nld] at nl; exact nl
  have some_of : ∀ {H0 : Hp} {B : Box} {b : Addr} {f : List Addr} {c : Addr}, BoxAt A K H0 B b f → c ∈ f → ∃ o, H0 c = some o := fun h hc => by
    rcases h.soft _ hc with ⟨_, _, _, q⟩ | ⟨_, q⟩
    · exact ⟨_, q⟩
    · exact ⟨_, q⟩
  have hx2 := hx.same s2
  have out : ∀ {B : Box} {b : Addr} {f : List Addr} {c : Addr}, BoxAt A K H2 B b f → H2 c = none → c ∉ f := fun h e hc => by
    obtain ⟨o, q⟩ := some_of h hc
    rw [e] at q
    cases q
  refine k x (x :: l :: (fx ++ fy)) H' ⟨dx, p, q, l, tx, ty, fx, fy, rfl, ha, sqT_same hp s3, SqT.of hq, hL, hx2.same s3, hy.same s3, out hx2 nx2, out hy nx2, out hx2 nl2, out hy nl2, fun c h1 h2 => ?_⟩ ⟨hl, okX, okY, kX, kY, by decide, by decide⟩ ((s1.trans s2).trans s3) (fun c hc => ?_)
  · obtain ⟨o, q⟩ := some_of hx h1
    rw [ny c h2] at q
    cases q
  · simp only [List.mem_cons, List.mem_append] at hc
    rcases hc with rfl | rfl | hc | hc
    · exact (s1.trans s2).free nx2
    · exact (s1.trans s2).free nl2
    · exact nx c hc
    · exact s1.free (ny c hc)
theorem ok_power_box {d N k : Nat} (T : CT K mg A) (D : DT K mg A) (hk : 5 ≤ k) (G_box_of : COk P w K mg base CX0 k "box_of" ["tree"] (sp_box_of A K d)) (G_power_box : COk P w K mg base CX0 (k + N) "power_box" ["tree", "times"] (sp_power_box A K d N)) :
    COk P w K mg base CX0 (k + (N + 1)) "power_box" ["tree", "times"] (sp_power_box A K d (N + 1)) := by
  have I_EightBox := ok_EightBox_init (P := P) (w := w) (base := base) T D
  refine COk.by D.power_box fun f fd F => ?_
  refine F.ok (k := k + N) sc_power_box (fun vs H Q E h => ?_) (fun cdv Ar outer s H vs Q E hr h => ?_)
  · obtain ⟨v, t, n, rfl, _⟩ := h
    rfl
  · obtain ⟨v, t, n, rfl, ht, hg, hd, h1, hN, k'⟩ := h
    refine ⟨_, (pss_cons (ps_if (pt_cmpR op_eq (pv 1) pe_int (nomark _))
      (pss_one (ps_ret (pe_c G_box_of (hr.mono (by first | decide | omega)) (pa_cons (pv 0) pa_nil)))) pss_nil)
    (pss_one (ps_ret (pe_mk I_EightBox (hr.mono (by first | decide | omega)) (pa_cons (pe_glob (v := .ref A.k_TIMES) (by rfl) T.g_TIMES rfl) (pa_cons (pe_c G_box_of (hr.mono (by first | decide | omega)) (pa_cons (pv 0) pa_nil)) (pa_cons (pe_c G_power_box (hr.mono (by first | decide | omega)) (pa_cons (pv 0) (pa_cons (pe_op op_sub (pv 1) pe_int) pa_nil))) pa_nil))))))), ?_⟩
    refine ⟨_, rfl, rfl, _, rfl, ite2 (fun c => ?_) (fun c => ?_)⟩
    · have e : n = 1 := by
        have := V.int.inj (of_decide_eq_true c)
        omega
      subst e
      exact ⟨_, rfl, v, t, rfl, ht, hg, hd, k'⟩
    · have e : n ≠ 1 := fun z => c (decide_eq_true (by rw [z]; rfl))
      obtain ⟨n, rfl⟩ : ∃ j, n = j + 2 := ⟨n - 2, by omega⟩
      refine ⟨_, rfl, v, t, rfl, ht, hg, hd, fun tx fx X H1 hx sX okX s1 nx => ?_⟩
      refine ⟨_, rfl, _, rfl, _, _, rfl, rfl, ?_⟩
      have en : (((n + 2 : Nat) : Int) - 1) = ((n + 1 : Nat) : Int) := by omega
      refine cast (congrArg (fun z => sp_power_box A K d N [V.ref v, V.int z] H1 _ E0) en.symm) ?_
      refine ⟨v, t, n + 1, rfl, ht.same s1, hg, hd, by omega, by omega, fun ty fy Y H2 hy sY okY s2 ny => ?_⟩
      intro x dx nx2 nd2 ne
      exact eight_made T hx hy okX okY sX.kind (powB_kind (fun B z => Tree.Starts.kind z) sY) rfl s1 s2 nx ny (T.t_TIMES H2) (fun a fp H' hB ok s n' => k' a fp _ H' hB ⟨X, Y, sX, sY, rfl⟩ ok s n') nx2 nd2 ne
theorem ok_power_all {d k : Nat} (T : CT K mg A) (D : DT K mg A) (hk : 5 ≤ k) (G : COk P w K mg base CX0 k "box_of" ["tree"] (sp_box_of A K d)) : ∀ N : Nat, COk P w K mg base CX0 (k + N) "power_box" ["tree", "times"] (sp_power_box A K d N)
  | 0 => cok_no D.power_box fun vs H Q E h => by
    obtain ⟨v, t, n, _, _, _, _, h1, h2, _⟩ := h
    omega
  | N + 1 => ok_power_box T D hk G (ok_power_all T D hk G N)
theorem ok_box_of_step {d k : Nat} (T : CT K mg A) (D : DT K mg A) (hk : 5 ≤ k) (hd : ∀ t : Tree, t.ht < d + 1 → t.ht ≤ d) (G_box_of : COk P w K mg base CX0 k "box_of" ["tree"] (sp_box_of A K d)) : COk P w K mg base CX0 (k + 5) "box_of" ["tree"] (sp_box_of A K (d + 1)) := by
  have G_leaf_of := ok_leaf_of (P := P) (w := w) (base := base) T D
  have G_power_box := ok_power_all (P := P) (w := w) (base := base) T D hk G_box_of 4
  have I_EightBox := ok_EightBox_init (P := P) (w := w) (base := base) T D
  have I_FourBox := ok_FourBox_init (P := P) (w := w) (base := base) T D
  refine COk.by D.box_of fun f fd F => ?_
  refine F.ok (k := k + 4) sc_box_of (fun vs H Q E h => ?_) (fun cdv Ar outer s H vs Q E hr h => ?_)
  · obtain ⟨v, t, rfl, _⟩ := h
    rfl
  · obtain ⟨v, t, rfl, ht, hg, hh, k'⟩ := h
    refine ⟨_, (pss_cons (ps_set (i := 1) sc_box_of.nd rfl (Or.inl rfl) (pe_ix ix_tup (pv 0) pe_int (fun _ _ => rfl)))
    (pss_cons (ps_if (pt_cmpR op_eq (pv 1) pe_str (nomark _))
      (pss_one (ps_ret (pe_mk I_FourBox (hr.mono (by first | decide | omega)) (pa_cons (pe_ix ix_tup (pv 0) pe_int (fun _ _ => rfl)) (pa_cons (pe_c G_box_of (hr.mono (by first | decide | omega)) (pa_cons (pe_ix ix_tup (pv 0) pe_int (fun _ _ => rfl)) pa_nil)) (pa_cons pe_bl (pa_cons pe_bl pa_nil))))))) pss_nil)
    (pss_cons (ps_if (pt_cmpR op_eq (pv 1) pe_str (nomark _))
      (pss_one (ps_ret (pe_mk I_EightBox (hr.mono (by first | decide | omega)) (pa_cons (pe_ix ix_tup (pv 0) pe_int (fun _ _ => rfl)) (pa_cons (pe_c G_box_of (hr.mono (by first | decide | omega)) (pa_cons (pe_ix ix_tup (pv 0) pe_int (fun _ _ => rfl)) pa_nil)) (pa_cons (pe_c G_box_of (hr.mono (by first | decide | omega)) (pa_cons (pe_ix ix_tup (pv 0) pe_int (fun _ _ => rfl)) pa_nil)) pa_nil)))))) pss_nil)
    (pss_cons (ps_if (pt_cmpR op_eq (pv 1) pe_str (nomark _))
      (pss_one (ps_ret (pe_c G_power_box (hr.mono (by first | decide | omega)) (pa_cons (pe_ix ix_tup (pv 0) pe_int (fun _ _ => rfl)) (pa_cons (pe_ix ix_tup (pv 0) pe_int (fun _ _ => rfl)) pa_nil))))) pss_nil)
    (pss_one (ps_ret (pe_c G_leaf_of (hr.mono (by first | decide | omega)) (pa_cons (pv 0) pa_nil)))))))), ?_⟩
    cases t with
    | leaf f =>
      have fin : Q = Q → sp_leaf_of A K [.ref v] H Q E0 := fun _ => ⟨v, f, rfl, ht, hg, fun a c ch H' hl st ok s na nc ne => k' a [a, c] (.leaf ch) H' ⟨c, rfl, hl, ne⟩ ⟨ch, st, rfl⟩ ok s (fun z hz => by
        simp only [List.mem_cons, List.not_mem_nil, or_false] at hz
        rcases hz with rfl | rfl
        · exact na
        · exact nc)⟩
      cases f with
      | frac t b => exact ⟨_, rfl, v, _, 0, _, rfl, rfl, ht, atI_nat (j := 0) rfl, _, rfl, rfl, _, rfl, iteF ⟨_, rfl, rfl, _, rfl, iteF ⟨_, rfl, rfl, _, rfl, iteF ⟨_, rfl, fin rfl⟩⟩⟩⟩
      | root t s b => exact ⟨_, rfl, v, _, 0, _, rfl, rfl, ht, atI_nat (j := 0) rfl, _, rfl, rfl, _, rfl, iteF ⟨_, rfl, rfl, _, rfl, iteF ⟨_, rfl, rfl, _, rfl, iteF ⟨_, rfl, fin rfl⟩⟩⟩⟩
      | ruled ps ring steps =>
        obtain ⟨p, q, u, hv, h3⟩ := id ht
        exact ⟨_, rfl, v, _, 0, _, rfl, rfl, hv, atI_nat (j := 0) rfl, _, rfl, rfl, _, rfl, iteF ⟨_, rfl, rfl, _, rfl, iteF ⟨_, rfl, rfl, _, rfl, iteF ⟨_, rfl, fin rfl⟩⟩⟩⟩
    | four ns x =>
      obtain ⟨p, tx, hv, hp, hx⟩ := ht
      obtain ⟨hl, ht', hc, gx⟩ := hg
      refine ⟨_, rfl, v, _, 0, _, rfl, rfl, hv, atI_nat (j := 0) rfl, _, rfl, rfl, _, rfl, iteT ⟨_, rfl, v, _, 1, _, rfl, rfl, hv, atI_nat (j := 1) rfl, _, rfl, v, _, 2, _, rfl, rfl, hv, atI_nat (j := 2) rfl, tx, x, rfl, hx, gx, Nat.le_of_succ_le_succ hh, fun bx fx X H1 hbx sX okX s1 nx => ?_⟩⟩
      intro r dr nr nd ne
      refine ⟨r, dr, _, rfl, rfl, upd_same, rfl, ?_⟩
      rw [upd_upd]
      have s2 := made_same (o := .own r) (o' := .ins A.c_FourBox dr (foF p bx false false .non)) nr nd
      have nrx : r ∉ fx := fun z => by
        rcases hbx.soft r z with ⟨_, _, _, q⟩ | ⟨_, q⟩
        · rw [nr] at q; cases q
        · rw [nr] at q; cases q
      refine k' r (r :: fx) (.four ns false false X) _ ⟨dr, p, bx, fx, rfl, upd_same, sqT_same hp (s1.trans s2), hbx.same s2, nrx⟩ ⟨X, sX, rfl⟩ ⟨hl, okX, sX.kind⟩ (s1.trans s2) (fun c hc => ?_)
      rcases List.mem_cons.mp hc with rfl | hc
      · exact s1.free nr
      · exact nx c hc
    | eight ns x y =>
      obtain ⟨p, tx, ty, hv, hp, hx, hy⟩ := ht
      obtain ⟨hl, ht', hc, gx, gy⟩ := hg
      have hm : max x.ht y.ht + 1 ≤ d + 1 := hh
      refine ⟨_, rfl, v, _, 0, _, rfl, rfl, hv, atI_nat (j := 0) rfl, _, rfl, rfl, _, rfl, iteF ⟨_, rfl, rfl, _, rfl, iteT ⟨_, rfl, v, _, 1, _, rfl, rfl, hv, atI_nat (j := 1) rfl, _, rfl, v, _, 2, _, rfl, rfl, hv, atI_nat (j := 2) rfl, tx, x, rfl, hx, gx, by omega, fun bx fx X H1 hbx sX okX s1 nx => ?_⟩⟩⟩
      have hv1 := sqT_same hv s1
      refine ⟨_, rfl, v, _, 3, _, rfl, rfl, hv1, atI_nat (j := 3) rfl, ty, y, rfl, hy.same s1, gy, by omega, fun byy fy Y H2 hby sY okY s2 ny => ?_⟩
      intro r dr nr nd ne
      exact eight_made T hbx hby okX okY sX.kind sY.kind hl s1 s2 nx ny (sqT_same hp (s1.trans s2)) (fun a fp H' hB ok s n' => k' a fp _ H' hB ⟨X, Y, sX, sY, rfl⟩ ok s n') nr nd ne
    | power x n =>
      obtain ⟨tx, hv, hx⟩ := ht
      obtain ⟨h1, h4, gx⟩ := hg
      exact ⟨_, rfl, v, _, 0, _, rfl, rfl, hv, atI_nat (j := 0) rfl, _, rfl, rfl, _, rfl, iteF ⟨_, rfl, rfl, _, rfl, iteF ⟨_, rfl, rfl, _, rfl, iteT ⟨_, rfl, v, _, 1, _, rfl, rfl, hv, atI_nat (j := 1) rfl, _, rfl, v, _, 2, _, rfl, rfl, hv, atI_nat (j := 2) rfl, tx, x, n, rfl, hx, gx, Nat.le_of_succ_le_succ hh, h1, h4, k'⟩⟩⟩⟩
end
/-! ### readings of trees -/
section
variable {P : Program} [NoTree P] {w : World} {K : PySem.W.Frag} {mg : Str → Option Value} {base : Heap} {A : Ad}
theorem ok_box_of_0 (T : CT K mg A) (D : DT K mg A) : COk P w K mg base CX0 6 "box_of" ["tree"] (sp_box_of A K 0) := by
  obtain ⟨f, fd, F, a, b, c⟩ := ok_box_of_leaf (P := P) (w := w) (base := base) T D
  refine ⟨f, fd, F.imp fun vs H Q E h => ?_, a, b, c⟩
  obtain ⟨v, t, rfl, ht, hg, hh, k'⟩ := h
  cases t with
  | leaf f => exact ⟨v, f, rfl, ht, hg, fun a c ch H' hl st ok s na nc ne => k' a [a, c] (.leaf ch) H' ⟨c, rfl, hl, ne⟩ ⟨ch, st, rfl⟩ ok s (fun z hz => by
        simp only [List.mem_cons, List.not_mem_nil, or_false] at hz
        rcases hz with rfl | rfl
        · exact na
        · exact nc)⟩
  | four ns x => exact absurd hh (by show ¬ x.ht + 1 ≤ 0; omega)
  | eight ns x y => exact absurd hh (by show ¬ max x.ht y.ht + 1 ≤ 0; omega)
  | power x n => exact absurd hh (by show ¬ x.ht + 1 ≤ 0; omega)
theorem ok_box_of_all (T : CT K mg A) (D : DT K mg A) : ∀ d : Nat, COk P w K mg base CX0 (6 + 5 * d) "box_of" ["tree"] (sp_box_of A K d)
  | 0 => ok_box_of_0 T D
  | d + 1 => (ok_box_of_step T D (by omega) (fun t h => Nat.le_of_lt_succ h) (ok_box_of_all T D d)).mono (by omega)
/-- a reading at r: its box, its meter -/
structure ReadB (A : Ad) (K : PySem.W.Frag) (H : Hp) (r a m : Addr) (fp : List Addr) (B : Box) (l s : Int) : Prop where
  rd : ∃ rx, H r = some (.ins A.c_Reading rx (reF a m))
  bx : BoxAt A K H B a fp
  mt : MeterAt A H m l s
  nr : r ∉ fp
  nm : m ∉ fp
  rm : r ≠ m
  ok : B.Ok
theorem ReadB.kept {H H' : Hp} {r a m : Addr} {fp : List Addr} {B : Box} {l s : Int} {N : Addr → Prop} (R : ReadB A K H r a m fp B l s) (k : ∀ c o, H c = some o → ¬ N c → H' c = some o) (hN : ∀ c o, N c → H c = some o → (∀ ys, o ≠ .tup ys) ∧ ∀ ob u, o ≠ .frz ob u)
    (n1 : ¬ N r) (n2 : ¬ N m) (n3 : ∀ c ∈ fp, ¬ N c) : ReadB A K H' r a m fp B l s := by
  obtain ⟨⟨rx, e⟩, hB, ⟨dm, em⟩, nr, nm, rm, ok⟩ := R
  exact ⟨⟨rx, k _ _ e n1⟩, hB.kept k hN n3, ⟨dm, k _ _ em n2⟩, nr, nm, rm, ok⟩
theorem ReadB.same {H H' : Hp} {r a m : Addr} {fp : List Addr} {B : Box} {l s : Int} (R : ReadB A K H r a m fp B l s) (k : Same H H') : ReadB A K H' r a m fp B l s :=
  R.kept (N := fun _ => False) (fun c o e _ => k c o e) (fun _ _ z => z.elim) (fun z => z) (fun z => z) (fun _ _ z => z)
/-- another list is written -/
theorem ReadB.put {H : Hp} {r a m d : Addr} {fp : List Addr} {B : Box} {l s : Int} {xs ys : List V} (R : ReadB A K H r a m fp B l s) (hd : H d = some (.lst xs)) (nd : d ∉ fp) : ReadB A K (upd H d (.lst ys)) r a m fp B l s := by
  obtain ⟨rx, e⟩ := R.rd
  obtain ⟨dm, em⟩ := R.mt
  refine R.kept (N := fun c => c = d) (fun c o e n => by rw [upd_ne n]; exact e) (fun c o z e => ?_) (fun z => ?_) (fun z => ?_) (fun c hc z => nd (z ▸ hc))
  · subst z
    exact Soft.no (.inr ⟨_, hd⟩) e
  · rw [z, hd] at e; cases e
  · rw [z, hd] at em; cases em
/-- one asking of a reading -/
def sp_partB (A : Ad) (K : PySem.W.Frag) (d : Nat) : Sp := fun vs H Q E => ∃ (r a m : Addr) (fp : List Addr) (B : Box) (l s q : Int) (n : Nat) (o : Option Ans) (B' : Box) (l' : Int), vs = [.ref r, .int q] ∧ ReadB A K H r a m fp B l s ∧ B.wt ≤ d ∧ askF n B q = some (o, B', l') ∧
  ∀ H' fp', ReadB A K H' r a m fp' B' l' (s + (q - l')) → (∀ c z, H c = some z → c ∉ fp → c ≠ m → H' c = some z) → (∀ c ∈ fp', c ∈ fp ∨ H c = none) →
    match o with
    | none => E (.ref A.c_NoValue) none H'
    | some an => ∀ v, an.At A H' v → Q v H'
/-- any box, asked: by its class -/
theorem ask_all {σ : St} {H : Hp} {to : TE} {ta : TA} {Q : VK} {E : XK} {d : Nat} {tx m : Addr} {fx : List Addr} {x x' : Box} {l s l' : Int} {n : Nat} {o : Option Ans} (hto : ∀ R : VK, R (.ref tx) H → to σ H R) (hta : ∀ R : List V → Hp → Prop, R [.ref m] H → ta σ H R)
    (hB : BoxAt A K H x tx fx) (ok : x.Ok) (hw : x.wt ≤ d) (hm : MeterAt A H m l s) (nm : m ∉ fx) (e : askF n x l = some (o, x', l')) (k : FinB A K Q E H tx m fx l s o x' l') :
    tMeth A.c_Leaf "ask" (spB A K 0 d) [] E0 to ta σ H Q ∨ tMeth A.c_FractionBox "ask" (spB A K 1 d) [] E to ta σ H Q ∨ tMeth A.c_FourBox "ask" (spB A K 2 d) [] E to ta σ H Q ∨ tMeth A.c_EightBox "ask" (spB A K 3 d) [] E to ta σ H Q := by
  by_cases hk : x.kind = 1
  · obtain ⟨C, dx, fs, ec, hl, c0, c1, c2, c3⟩ := hB.cls
    exact .inr (.inl (hto _ ⟨tx, dx, fs, rfl, by rw [← c1 hk]; exact ec, hl, hta _ ⟨tx, m, fx, x, l, s, n, o, x', l', rfl, hB, ok, hw, hk, hm, nm, e, k⟩⟩))
  · rcases ask_any hto hta hB ok hw hk hm nm e k with z | z | z
    · exact .inl z
    · exact .inr (.inr (.inl z))
    · exact .inr (.inr (.inr z))
theorem ok_partB (T : CT K mg A) (D : DT K mg A) (d : Nat) : MOk P w K mg base (L2.CX P w) (40 + d + 1) A.c_Reading "part" ["self", "most"] (sp_partB A K d) := by
  have M_allow := ok_Meter_allow (P := P) (w := w) (base := base) T D
  have M_leaf := ok_ask_leaf (P := P) (w := w) (base := base) T D d
  have M_fb := ok_ask_fb (P := P) (w := w) (base := base) T D d
  obtain ⟨M_four, M_eight⟩ := ok_asks (P := P) (w := w) (base := base) T D d
  refine MOk.of T.cl_Reading D.Reading_part fun f fd F => ?_
  refine F.okX (k := 40 + d) sc_Reading_part (fun vs H Q E h => ?_) (fun cdv Ar outer s H vs Q E hr h => ?_)
  · obtain ⟨r, a, m, fp, B, l, s, q, n, o, B', l', rfl, _⟩ := h
    rfl
  · obtain ⟨r, a, m, fp, B, l, sp, q, n, o, B', l', rfl, R, hw, e, k⟩ := h
    refine ⟨_, (pss_cons (ps_expr (pe_m M_allow (hr.mono (by first | decide | omega)) (pe_fld (pv 0) rfl) (pa_cons (pv 1) pa_nil)))
    (pss_one (ps_ret ((pe_alt (pe_m M_leaf (hr.mono (by first | decide | omega)) (pe_fld (pv 0) rfl) (pa_cons (pe_fld (pv 0) rfl) pa_nil)) (pe_alt (pe_mX M_fb (hr.mono (by first | decide | omega)) (passes_tk (takes_of rfl rfl rfl rfl)) (pe_fld (pv 0) rfl) (pa_cons (pe_fld (pv 0) rfl) pa_nil)) (pe_alt (pe_mX M_four (hr.mono (by first | decide | omega)) (passes_tk (takes_of rfl rfl rfl rfl)) (pe_fld (pv 0) rfl) (pa_cons (pe_fld (pv 0) rfl) pa_nil)) (pe_mX M_eight (hr.mono (by first | decide | omega)) (passes_tk (takes_of rfl rfl rfl rfl)) (pe_fld (pv 0) rfl) (pa_cons (pe_fld (pv 0) rfl) pa_nil))))))))), ?_⟩
    have cl := T.cl_Reading
    obtain ⟨⟨rx, er⟩, hB, ⟨dm, em⟩, nr, nm, rm, ok⟩ := R
    refine ⟨_, rfl, r, _, rx, _, _, rfl, er, cl, T.n_Reading_meter, rfl, m, dm, _, rfl, em, rfl, _, rfl, m, dm, l, sp, q, rfl, em, ?_⟩
    have fr1 : ∀ c o, H c = some o → ¬ c = m → (upd H m (.ins A.c_Meter dm (meF q sp))) c = some o := fun c o e n => by rw [upd_ne n]; exact e
    have hB1 := hB.kept (N := fun c => c = m) fr1 (fun c o z e => by subst z; rw [em] at e; exact ins_no (Option.some.inj e).symm) (fun c hc z => nm (z ▸ hc))
    have er1 := fr1 _ _ er rm
    refine ask_all (tx := a) (m := m) (fx := fp) (x := B) (l := q) (s := sp) (n := n) (fun R h => ⟨_, rfl, r, _, rx, _, _, rfl, er1, cl, T.n_Reading_box, rfl, h⟩) (fun R h => ⟨_, rfl, r, _, rx, _, _, rfl, er1, cl, T.n_Reading_meter, rfl, h⟩) hB1 ok hw ⟨dm, upd_same⟩ nm e fun H4 fp' hB4 hm4 nm4 fr4 sub4 => ?_
    obtain ⟨ok', _, _⟩ := askF_ok ok e
    have sub5 : ∀ c ∈ fp', c ∈ fp ∨ H c = none := fun c hc => by
      rcases sub4 c hc with z | z
      · exact .inl z
      · have ncm : c ≠ m := fun q => nm4 (q ▸ hc)
        rw [upd_ne ncm] at z
        exact .inr z
    refine k H4 fp' ⟨⟨rx, fr4 _ _ er1 nr rm⟩, hB4, hm4, fun z => ?_, nm4, rm, ok'⟩ (fun c z e hc hcm => fr4 c z (fr1 c z e hcm) hc hcm) sub5
    rcases sub5 r z with z | z
    · exact nr z
    · rw [er] at z; cases z
theorem ok_tookB (T : CT K mg A) (D : DT K mg A) : MOk P w K mg base CX0 1 A.c_Reading "took" ["self"] (fun vs H Q _ => ∃ r a m fp B l s, vs = [.ref r] ∧ ReadB A K H r a m fp B l s ∧ Q (.int s) H) := by
  obtain ⟨cl, f, fd, F, M, B⟩ := ok_Reading_took (P := P) (w := w) (base := base) T D
  refine ⟨cl, f, fd, F.imp fun vs H Q E h => ?_, M, B⟩
  obtain ⟨r, a, m, fp, B, l, s, rfl, ⟨⟨rx, e⟩, _, ⟨dm, e3⟩, _⟩, q⟩ := h
  exact ⟨r, rx, a, m, dm, l, s, rfl, e, e3, q⟩
end
/-! ### checks of fours, eights and powers -/
section
variable {P : Program} [NoTree P] {w : World} {K : PySem.W.Frag} {mg : Str → Option Value} {base : Heap} {A : Ad}
def sp_check_line (K : PySem.W.Frag) : Sp := fun vs H Q _ => ∃ (p : Addr) (ns : List Int), vs = [.ref p] ∧ SqT K H p (ns.map V.int) ∧ (∃ h, ns.length = 2 * h ∧ 0 < h ∧ h ≤ 4) ∧ (∀ z ∈ ns, tame z) ∧ Crossed ns ∧ ∀ H', Same H H' → Q .non H'
theorem ok_check_line (T : CT K mg A) (D : DT K mg A) : COk P w K mg base CX0 2 "check_line" ["numbers"] (sp_check_line K) := by
  have G_require : COk P w K mg base CX0 1 "require" ["holds", "why"] sp_require := ok_require D
  refine COk.by D.check_line fun f fd F => ?_
  refine F.ok sc_check_line (fun vs H Q E h => ?_) (fun cdv Ar outer s H vs Q E hr h => ?_)
  · obtain ⟨p, ns, rfl, _⟩ := h
    rfl
  · obtain ⟨p, ns, rfl, hp, ⟨h, hl, h0, h4⟩, hf, hc, k⟩ := h
    refine ⟨_, (pss_cons (ps_set (i := 1) sc_check_line.nd rfl (Or.inl rfl) (pe_op op_fdiv (pe_callB call_len_seq (by rfl) T.b_len (by decide +kernel) (pa_cons (pv 0) pa_nil)) pe_int))
    (pss_cons (ps_asg (pe_tup (pa_cons (pe_slice sl_tupA (pv 0) po_none (po_some (pv 1))) (pa_cons (pe_slice sl_tupA (pv 0) (po_some (pv 1)) po_none) pa_nil))) (pg_tup rfl (pgs_cons (pg_name (i := 2) sc_check_line.nd rfl (Or.inr rfl)) (pgs_cons (pg_name (i := 3) sc_check_line.nd rfl (Or.inr rfl)) pgs_nil))))
    (pss_cons (ps_setLc2 (i := 4) (own := [("i", 5), ("k", 6)]) (vs1 := [6]) (g := gName 5) (g1 := gName 6) (tt := tYes) (tt1 := tYes) rfl sc_check_line.nd rfl rfl (sw_true rfl rfl rfl (by decide +kernel)) (pi_range1 rfl T.b_range (pa_cons (pv 1) pa_nil)) (blkOk_by (own := [("i", 5), ("k", 6)]) (N := ["numbers", "half", "above", "below", "crossed", "i", "k"]) (sc := defScope s_check_line) (by decide +kernel)) (by decide) (fun _ _ _ _ _ => (pg_name (i := 5) sc_check_line.nd rfl (Or.inl rfl))) (fun _ _ _ _ _ => pts_nil) (fun _ _ _ _ _ => (pi_range1 rfl T.b_range (pa_cons (pv 5) pa_nil))) (fun _ _ _ _ _ => (pg_name (i := 6) sc_check_line.nd rfl (Or.inl rfl))) (fun _ _ _ _ _ => pts_nil) (fun _ _ _ _ _ => (pe_cmpR op_ne (pe_op op_mul (pe_ix (show IxR _ (rIxT K) from ix_tup) (pv 2) (pv 5) (fun _ _ => rfl)) (pe_ix (show IxR _ (rIxT K) from ix_tup) (pv 3) (pv 6) (fun _ _ => rfl))) (pe_op op_mul (pe_ix (show IxR _ (rIxT K) from ix_tup) (pv 2) (pv 6) (fun _ _ => rfl)) (pe_ix (show IxR _ (rIxT K) from ix_tup) (pv 3) (pv 5) (fun _ _ => rfl))) (nomark _))))
    (pss_one (ps_expr (pe_c G_require (hr.mono (by first | decide | omega)) (pa_cons (pe_callB (cr_any rfl) (by rfl) T.b_any (by decide +kernel) (pa_cons (pv 4) pa_nil)) (pa_cons pe_str pa_nil)))))))), ?_⟩
    have e1 : (((ns.map V.int).length : Nat) : Int) / 2 = ((h : Nat) : Int) := by rw [List.length_map, hl]; omega
    have nf : ¬ (HT.sIx (ns.map V.int).length 0 none = 0 ∧ HT.sIx (ns.map V.int).length (ns.map V.int).length (some (h : Int)) = (ns.map V.int).length) := fun z => by
      have := z.2
      rw [HT.sIx_nat, List.length_map] at this
      omega
    have c1 : cutV (ns.map V.int) none (some (h : Int)) = (ns.take h).map V.int := by
      rw [cut_takeB, List.map_take]
    have c2 : cutV (ns.map V.int) (some (h : Int)) none = (ns.drop h).map V.int := by
      rw [cut_dropB, List.map_drop]
    have lt : (ns.take h).length = h := by rw [List.length_take]; omega
    have ld : (ns.drop h).length = h := by rw [List.length_drop]; omega
    refine ⟨_, rfl, p, _, rfl, .inr hp, _, _, rfl, rfl, ⟨by decide, by decide⟩, ?_⟩
    show tSeq _ _ _ [some (V.ref p), some (V.int ((((ns.map V.int).length : Nat) : Int) / 2)), none, none, none, none, none] H
    rw [e1]
    refine ⟨_, rfl, _, rfl, _, rfl, p, _, rfl, hp, fun z => absurd z nf, fun _ u nu => ?_⟩
    have s1 := same_upd (o := .tup (cutV (ns.map V.int) none (some (h : Int)))) nu
    have hu : SqT K (upd H u (.tup (cutV (ns.map V.int) none (some (h : Int))))) u ((ns.take h).map V.int) := by rw [← c1]; exact SqT.of upd_same
    generalize upd H u (.tup (cutV (ns.map V.int) none (some (h : Int)))) = H1 at s1 hu ⊢
    have hp1 := sqT_same hp s1
    refine ⟨_, rfl, _, rfl, _, rfl, p, _, rfl, hp1, fun z => absurd z (not_whole h0 (by rw [List.length_map]; omega)), fun _ v nv => ?_⟩
    have s2 := same_upd (o := .tup (cutV (ns.map V.int) (some (h : Int)) none)) nv
    have hv : SqT K (upd H1 v (.tup (cutV (ns.map V.int) (some (h : Int)) none))) v ((ns.drop h).map V.int) := by rw [← c2]; exact SqT.of upd_same
    generalize upd H1 v (.tup (cutV (ns.map V.int) (some (h : Int)) none)) = H2 at s2 hv ⊢
    have hu2 := sqT_same hu s2
    refine ⟨(by show 2 ≤ sizeLine; decide), fun q3 nq3 => ?_⟩
    have s3 := same_upd (o := .tup [V.ref u, .ref v]) nq3
    refine ⟨q3, _, rfl, SqT.of upd_same, rfl, _, _, rfl, _, _, rfl, rfl, ?_⟩
    have hu3 := sqT_same hu2 s3
    have hv3 := sqT_same hv s3
    generalize upd H2 q3 (.tup [V.ref u, .ref v]) = H3 at s3 hu3 hv3 ⊢
    have gt : ∀ j : Nat, j < h → ((ns.take h).map V.int)[j]? = some (.int (ns.getD j 0)) := fun j hj => by
      rw [List.getElem?_map, List.getElem?_take_of_lt hj, List.getD_eq_getElem?_getD, List.getElem?_eq_getElem (show j < ns.length by omega)]
      rfl
    have gd : ∀ j : Nat, j < h → ((ns.drop h).map V.int)[j]? = some (.int (ns.getD (j + h) 0)) := fun j hj => by
      rw [List.getElem?_map, List.getElem?_drop, List.getD_eq_getElem?_getD, Nat.add_comm h j, List.getElem?_eq_getElem (show j + h < ns.length by omega)]
      rfl
    have tm : ∀ j : Nat, j < ns.length → tame (ns.getD j 0) := fun j hj => hf _ (by
      rw [List.getD_eq_getElem?_getD, List.getElem?_eq_getElem hj]
      exact List.getElem_mem hj)
    have cm : ∀ a b : Int, tame a → CMul a b := fun a b ha => .inl (by
      have : (2 : Int) ^ 64 = 18446744073709551616 := by decide
      obtain ⟨h1, h2⟩ := ha
      omega)
    have hX : ∃ i k : Nat, k < i ∧ i < h ∧ ns.getD i 0 * ns.getD (k + h) 0 ≠ ns.getD k 0 * ns.getD (i + h) 0 := by
      obtain ⟨i, k, h1, h2, h3⟩ := hc
      rw [show ns.length / 2 = h by omega] at h2 h3
      exact ⟨i, k, h1, h2, h3⟩
    have fin : ∀ (D0 : Addr) (bs : List Bool) (H' : Hp), H' D0 = some (.lst (bs.map V.bl)) → Same H3 H' → true ∈ bs → tDrop (tCall sp_require [] E0 (tCons (tCB (rAny K) (tCons (tVar 4) tNil)) (tCons (tC (.str "the numbers above and below the line are told by one another")) tNil))) { nx := fun _ H' => Q .non H', rt := Q } [some (V.ref p), some (V.int h), some (V.ref u), some (V.ref v), some (V.ref D0), none, none] H' := fun D0 bs H' hD s4 hb => by
      refine ⟨_, rfl, D0, bs, rfl, SqL.of hD, _, _, rfl, ?_, k H' (((s1.trans s2).trans s3).trans s4)⟩
      rw [List.any_eq_true]
      exact ⟨true, hb, rfl⟩
    refine ⟨_, rfl, (h : Int), rfl, by omega, by omega, fun D0 nD => ?_⟩
    refine ⟨fun i m H' => m = h - i ∧ i ≤ h ∧ Same H3 H' ∧ ∃ bs : List Bool, H' D0 = some (.lst (bs.map V.bl)) ∧ bs.length ≤ 4 * i ∧ ∀ i' k' : Nat, k' < i' → i' < i → ns.getD i' 0 * ns.getD (k' + h) 0 ≠ ns.getD k' 0 * ns.getD (i' + h) 0 → true ∈ bs,
      ⟨h, by omega, Nat.zero_le _, same_upd nD, [], upd_same, Nat.zero_le _, fun i' k' _ z _ => absurd z (Nat.not_lt_zero _)⟩, ?_⟩
    rintro i m H' ⟨rfl, hi, s4, bs, hD, hb, hall⟩
    by_cases hlt : i < h
    · refine .inr ⟨hlt, fun H'' => i + 1 ≤ h ∧ Same H3 H'' ∧ ∃ bs : List Bool, H'' D0 = some (.lst (bs.map V.bl)) ∧ bs.length ≤ 4 * (i + 1) ∧ ∀ i' k' : Nat, k' < i' → i' < i + 1 → ns.getD i' 0 * ns.getD (k' + h) 0 ≠ ns.getD k' 0 * ns.getD (i' + h) 0 → true ∈ bs,
        fun H'' z => ⟨h - (i + 1), by omega, rfl, z⟩, fun x H'' y => ?_⟩
      obtain ⟨rfl, rfl⟩ := y
      refine ⟨rfl, ?_⟩
      refine ⟨_, rfl, 0 + (i : Int), rfl, by omega, by omega, ?_⟩
      refine ⟨fun j kk H5 => kk = i - j ∧ j ≤ i ∧ Same H3 H5 ∧ ∃ bs : List Bool, H5 D0 = some (.lst (bs.map V.bl)) ∧ bs.length ≤ 4 * i + j ∧ ∀ i' k' : Nat, k' < i' → (i' < i ∨ (i' = i ∧ k' < j)) → ns.getD i' 0 * ns.getD (k' + h) 0 ≠ ns.getD k' 0 * ns.getD (i' + h) 0 → true ∈ bs,
        ⟨i, by omega, Nat.zero_le _, s4, bs, hD, hb, fun i' k' z1 z2 => hall i' k' z1 (by omega)⟩, ?_⟩
      rintro j kk H5 ⟨rfl, hj, s5, bs5, hD5, hb5, hall5⟩
      have hti : (0 + (i : Int)).toNat = i := by omega
      by_cases hjl : j < i
      · refine .inr ⟨(by show j < (0 + (i : Int)).toNat; omega), fun H6 => j + 1 ≤ i ∧ Same H3 H6 ∧ ∃ bs : List Bool, H6 D0 = some (.lst (bs.map V.bl)) ∧ bs.length ≤ 4 * i + (j + 1) ∧ ∀ i' k' : Nat, k' < i' → (i' < i ∨ (i' = i ∧ k' < j + 1)) → ns.getD i' 0 * ns.getD (k' + h) 0 ≠ ns.getD k' 0 * ns.getD (i' + h) 0 → true ∈ bs,
          fun H6 z => ⟨i - (j + 1), by omega, rfl, z⟩, fun x H6 y => ?_⟩
        obtain ⟨rfl, rfl⟩ := y
        refine ⟨rfl, ?_⟩
        have hu5 := sqT_same hu3 s5
        have hv5 := sqT_same hv3 s5
        have zi : ∀ {xs : List V} {n : Nat} {z : V}, xs[n]? = some z → atI xs (0 + (n : Int)) = some z := fun {xs n z} e => by rw [Int.zero_add]; exact atI_nat e
        refine ⟨_, rfl, _, rfl, u, _, _, _, rfl, rfl, hu5, zi (gt i hlt), _, rfl, _, rfl, v, _, _, _, rfl, rfl, hv5, zi (gd j (by omega)), _, _, rfl, rfl, cm _ _ (tm i (by omega)), ?_⟩
        refine ⟨_, rfl, _, rfl, u, _, _, _, rfl, rfl, hu5, zi (gt j (by omega)), _, rfl, _, rfl, v, _, _, _, rfl, rfl, hv5, zi (gd i hlt), _, _, rfl, rfl, cm _ _ (tm j (by omega)), ?_⟩
        refine ⟨rfl, _, hD5, ?_, by omega, ?_, bs5 ++ [!decide (V.int (ns.getD i 0 * ns.getD (j + h) 0) = V.int (ns.getD j 0 * ns.getD (i + h) 0))], ?_, ?_, ?_⟩
        · rw [List.length_map]
          exact Nat.lt_of_le_of_lt hb5 (Nat.lt_of_lt_of_le (show 4 * i + j < 64 by omega) (by decide))
        · intro c o z
          rw [upd_ne (ne_of_none z nD)]
          exact s5 _ _ z
        · rw [upd_same, List.map_append]
          rfl
        · rw [List.length_append]
          show _ + 1 ≤ _
          omega
        · intro i' k' z1 z2 z3
          rw [List.mem_append]
          rcases z2 with z2 | ⟨rfl, z2⟩
          · exact .inl (hall5 i' k' z1 (.inl z2) z3)
          · by_cases hk : k' < j
            · exact .inl (hall5 i' k' z1 (.inr ⟨rfl, hk⟩) z3)
            · have ek : k' = j := by omega
              subst ek
              right
              rw [List.mem_singleton, decide_eq_false (fun q => z3 (V.int.inj q))]
              rfl
      · refine .inl ⟨(by show (0 + (i : Int)).toNat ≤ j; omega), by omega, s5, bs5, hD5, by omega, fun i' k' z1 z2 z3 => hall5 i' k' z1 ?_ z3⟩
        rcases Nat.lt_or_ge i' i with q | q
        · exact .inl q
        · exact .inr ⟨by omega, by omega⟩
    · have ei : i = h := by omega
      obtain ⟨i0, k0, z1, z2, z3⟩ := hX
      exact .inl ⟨(by show ((h : Int)).toNat ≤ i; omega), fin D0 bs H' hD s4 (hall i0 k0 z1 (by omega) z3)⟩
/-- a good tree, not too deep -/
def sp_chk (K : PySem.W.Frag) (N : Nat) : Sp := fun vs H Q _ => ∃ (v : Addr) (t : Tree) (d : Int), vs = [.ref v, .int d] ∧ t.At K H v ∧ t.Good ∧ d + t.ht ≤ 5 ∧ t.ht ≤ N ∧ ∀ H', Same H H' → Q .non H'
def sp_check_four (K : PySem.W.Frag) (N : Nat) : Sp := fun vs H Q _ => ∃ (a p tx : Addr) (ns : List Int) (x : Tree) (d : Int), vs = [.ref a, .int d] ∧ SqT K H a [.str "four", .ref p, .ref tx] ∧ SqT K H p (ns.map V.int) ∧ ns.length = 4 ∧ (∀ z ∈ ns, tame z) ∧ Crossed ns ∧ x.At K H tx ∧ x.Good ∧ d + 1 + x.ht ≤ 5 ∧ x.ht ≤ N ∧ ∀ H', Same H H' → Q .non H'
theorem ok_check_four {k N : Nat} (T : CT K mg A) (D : DT K mg A) (hk : 2 ≤ k) (G_check_at_depth : COk P w K mg base CX0 k "check_at_depth" ["tree", "depth"] (sp_chk K N)) : COk P w K mg base CX0 (k + 1) "check_four" ["tree", "depth"] (sp_check_four K N) := by
  have G_check_row := ok_check_row (P := P) (w := w) (base := base) T D
  have G_check_line := ok_check_line (P := P) (w := w) (base := base) T D
  refine COk.by D.check_four fun f fd F => ?_
  refine F.ok (k := k) sc_check_four (fun vs H Q E h => ?_) (fun cdv Ar outer s H vs Q E hr h => ?_)
  · obtain ⟨a, p, tx, ns, x, d, rfl, _⟩ := h
    rfl
  · obtain ⟨a, p, tx, ns, x, d, rfl, ha, hp, hl, ht, hc, hx, gx, hd, hn, q⟩ := h
    refine ⟨_, (pss_cons (ps_expr (pe_c G_check_row (hr.mono (by first | decide | omega)) (pa_cons (pe_ix ix_tup (pv 0) pe_int (fun _ _ => rfl)) (pa_cons pe_int (pa_cons pe_int pa_nil)))))
    (pss_cons (ps_expr (pe_c G_check_line (hr.mono (by first | decide | omega)) (pa_cons (pe_ix ix_tup (pv 0) pe_int (fun _ _ => rfl)) pa_nil)))
    (pss_one (ps_expr (pe_c G_check_at_depth (hr.mono (by first | decide | omega)) (pa_cons (pe_ix ix_tup (pv 0) pe_int (fun _ _ => rfl)) (pa_cons (pe_op op_add (pv 1) pe_int) pa_nil))))))), ?_⟩
    refine ⟨_, rfl, a, _, 1, _, rfl, rfl, ha, atI_nat (j := 1) rfl, p, ns, 4, 4, rfl, hp, by omega, by omega, ht, ?_⟩
    refine ⟨_, rfl, a, _, 1, _, rfl, rfl, ha, atI_nat (j := 1) rfl, p, ns, rfl, hp, ⟨2, hl, by decide, by decide⟩, ht, hc, fun H1 s1 => ?_⟩
    exact ⟨_, rfl, a, _, 2, _, rfl, rfl, sqT_same ha s1, atI_nat (j := 2) rfl, _, rfl, _, _, rfl, rfl, tx, x, d + 1, rfl, hx.same s1, gx, hd, hn, fun H2 s2 => q H2 (s1.trans s2)⟩
def sp_check_eight (K : PySem.W.Frag) (N : Nat) : Sp := fun vs H Q _ => ∃ (a p tx ty : Addr) (ns : List Int) (x y : Tree) (d : Int), vs = [.ref a, .int d] ∧ SqT K H a [.str "eight", .ref p, .ref tx, .ref ty] ∧ SqT K H p (ns.map V.int) ∧ ns.length = 8 ∧ (∀ z ∈ ns, tame z) ∧ Crossed ns ∧ x.At K H tx ∧ y.At K H ty ∧ x.Good ∧ y.Good ∧ d + 1 + x.ht ≤ 5 ∧ d + 1 + y.ht ≤ 5 ∧ x.ht ≤ N ∧ y.ht ≤ N ∧ ∀ H', Same H H' → Q .non H'
theorem ok_check_eight {k N : Nat} (T : CT K mg A) (D : DT K mg A) (hk : 2 ≤ k) (G_check_at_depth : COk P w K mg base CX0 k "check_at_depth" ["tree", "depth"] (sp_chk K N)) : COk P w K mg base CX0 (k + 1) "check_eight" ["tree", "depth"] (sp_check_eight K N) := by
  have G_check_row := ok_check_row (P := P) (w := w) (base := base) T D
  have G_check_line := ok_check_line (P := P) (w := w) (base := base) T D
  refine COk.by D.check_eight fun f fd F => ?_
  refine F.ok (k := k) sc_check_eight (fun vs H Q E h => ?_) (fun cdv Ar outer s H vs Q E hr h => ?_)
  · obtain ⟨a, p, tx, ty, ns, x, y, d, rfl, _⟩ := h
    rfl
  · obtain ⟨a, p, tx, ty, ns, x, y, d, rfl, ha, hp, hl, ht, hc, hx, hy, gx, gy, hd, hd2, hn, hn2, q⟩ := h
    refine ⟨_, (pss_cons (ps_expr (pe_c G_check_row (hr.mono (by first | decide | omega)) (pa_cons (pe_ix ix_tup (pv 0) pe_int (fun _ _ => rfl)) (pa_cons pe_int (pa_cons pe_int pa_nil)))))
    (pss_cons (ps_expr (pe_c G_check_line (hr.mono (by first | decide | omega)) (pa_cons (pe_ix ix_tup (pv 0) pe_int (fun _ _ => rfl)) pa_nil)))
    (pss_cons (ps_expr (pe_c G_check_at_depth (hr.mono (by first | decide | omega)) (pa_cons (pe_ix ix_tup (pv 0) pe_int (fun _ _ => rfl)) (pa_cons (pe_op op_add (pv 1) pe_int) pa_nil))))
    (pss_one (ps_expr (pe_c G_check_at_depth (hr.mono (by first | decide | omega)) (pa_cons (pe_ix ix_tup (pv 0) pe_int (fun _ _ => rfl)) (pa_cons (pe_op op_add (pv 1) pe_int) pa_nil)))))))), ?_⟩
    refine ⟨_, rfl, a, _, 1, _, rfl, rfl, ha, atI_nat (j := 1) rfl, p, ns, 8, 8, rfl, hp, by omega, by omega, ht, ?_⟩
    refine ⟨_, rfl, a, _, 1, _, rfl, rfl, ha, atI_nat (j := 1) rfl, p, ns, rfl, hp, ⟨4, hl, by decide, by decide⟩, ht, hc, fun H1 s1 => ?_⟩
    refine ⟨_, rfl, a, _, 2, _, rfl, rfl, sqT_same ha s1, atI_nat (j := 2) rfl, _, rfl, _, _, rfl, rfl, tx, x, d + 1, rfl, hx.same s1, gx, hd, hn, fun H2 s2 => ?_⟩
    exact ⟨_, rfl, a, _, 3, _, rfl, rfl, sqT_same ha (s1.trans s2), atI_nat (j := 3) rfl, _, rfl, _, _, rfl, rfl, ty, y, d + 1, rfl, hy.same (s1.trans s2), gy, hd2, hn2, fun H3 s3 => q H3 ((s1.trans s2).trans s3)⟩
def sp_check_power (K : PySem.W.Frag) (N : Nat) : Sp := fun vs H Q _ => ∃ (a tx : Addr) (x : Tree) (n : Nat) (d : Int), vs = [.ref a, .int d] ∧ SqT K H a [.str "power", .ref tx, .int n] ∧ 1 ≤ n ∧ n ≤ 4 ∧ x.At K H tx ∧ x.Good ∧ d + 1 + x.ht ≤ 5 ∧ x.ht ≤ N ∧ ∀ H', Same H H' → Q .non H'
theorem ok_check_power {k N : Nat} (T : CT K mg A) (D : DT K mg A) (hk : 2 ≤ k) (G_check_at_depth : COk P w K mg base CX0 k "check_at_depth" ["tree", "depth"] (sp_chk K N)) : COk P w K mg base CX0 (k + 1) "check_power" ["tree", "depth"] (sp_check_power K N) := by
  have G_check_row := ok_check_row (P := P) (w := w) (base := base) T D
  have G_require : COk P w K mg base CX0 1 "require" ["holds", "why"] sp_require := ok_require D
  obtain ⟨tP, gi_MOST_POWER⟩ := T.i_MOST_POWER
  refine COk.by D.check_power fun f fd F => ?_
  refine F.ok (k := k) sc_check_power (fun vs H Q E h => ?_) (fun cdv Ar outer s H vs Q E hr h => ?_)
  · obtain ⟨a, tx, x, n, d, rfl, _⟩ := h
    rfl
  · obtain ⟨a, tx, x, n, d, rfl, ha, h1, h4, hx, gx, hd, hn, q⟩ := h
    refine ⟨_, (pss_cons (ps_expr (pe_c G_check_row (hr.mono (by first | decide | omega)) (pa_cons (pe_slice sl_tup (pv 0) (po_some pe_int) po_none) (pa_cons pe_int (pa_cons pe_int pa_nil)))))
    (pss_cons (ps_expr (pe_c G_require (hr.mono (by first | decide | omega)) (pa_cons (pe_chain op_le op_le pe_int (pe_ix ix_tup (pv 0) pe_int (fun _ _ => rfl)) (pe_glob (v := .int 4) (by rfl) gi_MOST_POWER ⟨_, rfl⟩)) (pa_cons pe_str pa_nil))))
    (pss_one (ps_expr (pe_c G_check_at_depth (hr.mono (by first | decide | omega)) (pa_cons (pe_ix ix_tup (pv 0) pe_int (fun _ _ => rfl)) (pa_cons (pe_op op_add (pv 1) pe_int) pa_nil))))))), ?_⟩
    refine ⟨_, rfl, _, rfl, a, _, rfl, ha, not_whole (k := 2) (by decide) (by show 2 ≤ 3; decide), fun u nu => ?_⟩
    have s1 := same_upd (o := .tup (cutV [.str "power", .ref tx, .int n] (some 2) none)) nu
    have hu : SqT K (upd H u (.tup (cutV [.str "power", .ref tx, .int n] (some 2) none))) u ([(n : Int)].map V.int) := by
      rw [cutV2]
      exact SqT.of upd_same
    refine ⟨u, [(n : Int)], 1, 1, rfl, hu, Int.le_refl _, Int.le_refl _, fun z hz => ?_, ?_⟩
    · rw [List.mem_singleton] at hz
      subst hz
      exact ⟨by omega, by omega⟩
    have ha1 := sqT_same ha s1
    refine ⟨_, rfl, a, _, 2, _, rfl, rfl, ha1, atI_nat (j := 2) rfl, _, _, rfl, rfl, true, (congrArg V.bl (decide_eq_true (show (1 : Int) ≤ (n : Int) by omega))), iteT ⟨_, _, rfl, rfl, _, _, rfl, decide_eq_true (by omega), ?_⟩⟩
    exact ⟨_, rfl, a, _, 1, _, rfl, rfl, ha1, atI_nat (j := 1) rfl, _, rfl, _, _, rfl, rfl, tx, x, d + 1, rfl, hx.same s1, gx, hd, hn, fun H2 s2 => q H2 (s1.trans s2)⟩
theorem chk_leaf {H : Hp} {Q : VK} {v : Addr} {f : Leaf} {d : Int} {sO sE sP : Sp} (ht : f.At K H v) (hg : f.Good) (hd : d ≤ 5) (q : ∀ H', Same H H' → Q .non H') : sp_check_at K (sp_check_fraction K) (sp_check_root K) (sp_check_ruled K) sO sE sP [.ref v, .int d] H Q E0 := by
  cases f with
  | frac t b => exact ⟨v, "fraction", [.int t, .int b], d, rfl, hd, ht, .inl ⟨rfl, rfl, v, t, b, d, rfl, ht, hg.1, hg.2.1, hg.2.2, fun H' s' => q H' s'⟩⟩
  | root t s b => exact ⟨v, "root", [.int t, .int s, .int b], d, rfl, hd, ht, .inr (.inl ⟨rfl, rfl, v, t, s, b, d, rfl, ht, hg.1, hg.2.1, hg.2.2.1, hg.2.2.2.1, hg.2.2.2.2, fun H' s' => q H' s'⟩)⟩
  | ruled ps ring steps =>
    obtain ⟨p, q', u, hv, hp, hq, hu⟩ := id ht
    exact ⟨v, "ruled", [.ref p, .ref q', .ref u], d, rfl, hd, hv, .inr (.inr (.inl ⟨rfl, rfl, v, p, q', u, ps, ring, steps, d, rfl, hv, hp, hq, hu, hg, fun H' s' => q H' s'⟩))⟩
theorem COk.imp {k : Nat} {x : Str} {ps : List Str} {sp sp' : Sp} (h : COk P w K mg base CX0 k x ps sp) (i : ∀ vs H Q E, sp' vs H Q E → sp vs H Q E) : COk P w K mg base CX0 k x ps sp' := by
  obtain ⟨f, fd, F, a, b, c⟩ := h
  exact ⟨f, fd, F.imp i, a, b, c⟩
theorem ok_chk (T : CT K mg A) (TT : TB K w mg A) (D : DT K mg A) : ∀ N : Nat, COk P w K mg base CX0 (4 + 2 * N) "check_at_depth" ["tree", "depth"] (sp_chk K N)
  | 0 => by
    refine (ok_check_at_depth (P := P) (w := w) (base := base) (k := 3) T TT D (by decide) (ok_check_fraction T D) (ok_check_root T D) (ok_check_ruled T D) (ok_no D.check_four) (ok_no D.check_eight) (ok_no D.check_power)).imp fun vs H Q E h => ?_
    obtain ⟨v, t, d, rfl, ht, hg, hd, hn, q⟩ := h
    cases t with
    | leaf f => exact chk_leaf ht hg (by have : d + 0 ≤ 5 := hd; omega) q
    | four ns x => exact absurd hn (by show ¬ x.ht + 1 ≤ 0; omega)
    | eight ns x y => exact absurd hn (by show ¬ max x.ht y.ht + 1 ≤ 0; omega)
    | power x n => exact absurd hn (by show ¬ x.ht + 1 ≤ 0; omega)
  | N + 1 => by
    have G := ok_chk T TT D N
    refine ((ok_check_at_depth (P := P) (w := w) (base := base) (k := 4 + 2 * N + 1) T TT D (by omega) ((ok_check_fraction T D).mono (by omega)) ((ok_check_root T D).mono (by omega)) ((ok_check_ruled T D).mono (by omega)) (ok_check_four T D (by omega) G) (ok_check_eight T D (by omega) G) (ok_check_power T D (by omega) G)).mono (by omega)).imp fun vs H Q E h => ?_
    obtain ⟨v, t, d, rfl, ht, hg, hd, hn, q⟩ := h
    cases t with
    | leaf f => exact chk_leaf ht hg (by have : d + 0 ≤ 5 := hd; omega) q
    | four ns x =>
      obtain ⟨p, tx, hv, hp, hx⟩ := ht
      obtain ⟨hl, ht', hc, gx⟩ := hg
      have h1 : d + ((x.ht + 1 : Nat) : Int) ≤ 5 := hd
      exact ⟨v, "four", [.ref p, .ref tx], d, rfl, by omega, hv, .inr (.inr (.inr (.inl ⟨rfl, rfl, v, p, tx, ns, x, d, rfl, hv, hp, hl, ht', hc, hx, gx, by omega, Nat.le_of_succ_le_succ hn, q⟩)))⟩
    | eight ns x y =>
      obtain ⟨p, tx, ty, hv, hp, hx, hy⟩ := ht
      obtain ⟨hl, ht', hc, gx, gy⟩ := hg
      have h1 : d + ((max x.ht y.ht + 1 : Nat) : Int) ≤ 5 := hd
      have h2 : max x.ht y.ht + 1 ≤ N + 1 := hn
      exact ⟨v, "eight", [.ref p, .ref tx, .ref ty], d, rfl, by omega, hv, .inr (.inr (.inr (.inr (.inl ⟨rfl, rfl, v, p, tx, ty, ns, x, y, d, rfl, hv, hp, hl, ht', hc, hx, hy, gx, gy, by omega, by omega, by omega, by omega, q⟩))))⟩
    | power x n =>
      obtain ⟨tx, hv, hx⟩ := ht
      obtain ⟨g1, g4, gx⟩ := hg
      have h1 : d + ((x.ht + 1 : Nat) : Int) ≤ 5 := hd
      exact ⟨v, "power", [.ref tx, .int n], d, rfl, by omega, hv, .inr (.inr (.inr (.inr (.inr ⟨rfl, rfl, v, tx, x, n, d, rfl, hv, g1, g4, hx, gx, by omega, Nat.le_of_succ_le_succ hn, q⟩))))⟩
/-- a reader of any good tree, up to five deep -/
def sp_readerB (A : Ad) (K : PySem.W.Frag) : Sp := fun vs H Q _ => ∃ (v : Addr) (t : Tree), vs = [.ref v] ∧ t.At K H v ∧ t.Good ∧ t.ht ≤ 4 ∧
  ∀ r a m fp B H', ReadB A K H' r a m fp B 0 0 → t.Starts B → Same H H' → H r = none → H m = none → (∀ c ∈ fp, H c = none) → Q (.ref r) H'
theorem ok_readerB (T : CT K mg A) (TT : TB K w mg A) (D : DT K mg A) : COk P w K mg base CX0 27 "reader" ["tree"] (sp_readerB A K) := by
  have G_box_of := ok_box_of_all (P := P) (w := w) (base := base) T D 4
  have I_Reading := ok_Reading_init (P := P) (w := w) (base := base) T D
  have G_check_tree := ok_check_tree D (ok_chk (P := P) (w := w) (base := base) T TT D 4)
  refine COk.by D.reader fun f fd F => ?_
  refine F.ok (k := 26) sc_reader (fun vs H Q E h => ?_) (fun cdv Ar outer s H vs Q E hr h => ?_)
  · obtain ⟨v, t, rfl, _⟩ := h
    rfl
  · obtain ⟨v, t, rfl, ht, hg, hh, k⟩ := h
    refine ⟨_, (pss_cons (ps_expr (pe_c G_check_tree (hr.mono (by first | decide | omega)) (pa_cons (pv 0) pa_nil)))
    (pss_one (ps_ret (pe_mk I_Reading (hr.mono (by first | decide | omega)) (pa_cons (pe_c G_box_of (hr.mono (by first | decide | omega)) (pa_cons (pv 0) pa_nil)) pa_nil))))), ?_⟩
    refine ⟨_, rfl, _, rfl, v, t, 1, rfl, ht, hg, by omega, hh, fun H1 s1 => ?_⟩
    refine ⟨_, rfl, v, t, rfl, ht.same s1, hg, hh, fun a fp B H2 hB sB ok s2 nf => ?_⟩
    intro x dx nx nd ne
    refine ⟨x, dx, a, rfl, upd_same, fun m H3 nm hx hm kp => ⟨rfl, ?_⟩⟩
    have s3 : Same H2 H3 := fun b o e => kp b o (by rw [upd_ne (ne_of_none e nx), upd_ne (ne_of_none e nd)]; exact e) (ne_of_none e nx)
    have nm2 : H2 m = none := by
      cases q : H2 m with
      | none => rfl
      | some o =>
        have hmx : m ≠ x := fun z => by rw [z, upd_same] at nm; cases nm
        have hmd : m ≠ dx := fun z => by rw [z, upd_ne ne, upd_same] at nm; cases nm
        rw [upd_ne hmx, upd_ne hmd, q] at nm
        cases nm
    have hxm : x ≠ m := fun z => by rw [← z, upd_same] at nm; cases nm
    have out : ∀ c, H2 c = none → c ∉ fp := fun c e hc => by
      rcases hB.soft c hc with ⟨_, _, _, q⟩ | ⟨_, q⟩
      · rw [e] at q; cases q
      · rw [e] at q; cases q
    exact k x a m fp B H3 ⟨⟨dx, hx⟩, hB.same s3, hm, out x nx, out m nm2, hxm, ok⟩ sB ((s1.trans s2).trans s3) ((s1.trans s2).free nx) ((s1.trans s2).free nm2) (fun c hc => s1.free (nf c hc))
end
/-! ### the sure part, told otherwise -/
theorem fdiv_negs (x y : Int) : (-x).fdiv (-y) = x.fdiv y := Int.neg_fdiv_neg x y
theorem fdiv_bounds {a b : Int} (hb : 0 < b) : a.fdiv b * b ≤ a ∧ a < (a.fdiv b + 1) * b := by
  have h1 := fmod_eq a b
  have h2 := fmod_pos (a := a) hb
  have e : (a.fdiv b + 1) * b = a.fdiv b * b + b := by rw [Int.add_mul, Int.one_mul]
  rw [e]
  generalize a.fdiv b * b = z at *
  omega
theorem fdiv_is {a b q : Int} (hb : 0 < b) (h0 : q * b ≤ a) (h1 : a < (q + 1) * b) : a.fdiv b = q := by
  have e : (q + 1) * b = q * b + b := by rw [Int.add_mul, Int.one_mul]
  rw [e] at h1
  exact (fdiv_unique (q := q) (r := a - q * b) hb (by omega) (by omega) (by omega)).1
/-- all lie from q to q + 1, the first one below q + 1 -/
def Lies (ds : List (Int × Int)) (q : Int) : Prop := (∀ d ∈ ds, 0 < d.2 ∧ q * d.2 ≤ d.1 ∧ d.1 ≤ (q + 1) * d.2) ∧ ∀ d, ds.head? = some d → d.1 < (q + 1) * d.2
def negs (cs : List (Int × Int)) : List (Int × Int) := cs.map fun c => (-c.1, -c.2)
def Sure (cs : List (Int × Int)) (q : Int) : Prop := Lies cs q ∨ Lies (negs cs) q
def coreS (ds : List (Int × Int)) : Option Int :=
  if ds.all (fun d => decide (0 < d.2)) then
    let q := (ds.getD 0 (0, 0)).1.fdiv (ds.getD 0 (0, 0)).2
    if ds.all (fun d => decide (q * d.2 ≤ d.1) && decide (d.1 ≤ (q + 1) * d.2)) then some q else none
  else none
theorem coreS_iff {d0 : Int × Int} {dr : List (Int × Int)} {q : Int} : coreS (d0 :: dr) = some q ↔ Lies (d0 :: dr) q := by
  unfold coreS
  simp only [List.getD_cons_zero]
  constructor
  · intro h
    split at h
    · rename_i hp
      split at h
      · rename_i hq
        cases h
        have p : ∀ d ∈ d0 :: dr, 0 < d.2 := fun d hd => of_decide_eq_true (List.all_eq_true.mp hp d hd)
        refine ⟨fun d hd => ⟨p d hd, ?_⟩, fun d hd => ?_⟩
        · have := List.all_eq_true.mp hq d hd
          rw [Bool.and_eq_true] at this
          exact ⟨of_decide_eq_true this.1, of_decide_eq_true this.2⟩
        · cases hd
          exact (fdiv_bounds (p d0 List.mem_cons_self)).2
      · cases h
    · cases h
  · rintro ⟨h1, h2⟩
    have h0 := h1 d0 List.mem_cons_self
    have e : d0.1.fdiv d0.2 = q := fdiv_is h0.1 h0.2.1 (h2 d0 rfl)
    rw [if_pos (List.all_eq_true.mpr fun d hd => decide_eq_true (h1 d hd).1), e]
    rw [if_pos (List.all_eq_true.mpr fun d hd => by rw [Bool.and_eq_true]; exact ⟨decide_eq_true (h1 d hd).2.1, decide_eq_true (h1 d hd).2.2⟩)]
theorem surePart_core (cs : List (Int × Int)) : surePart cs = coreS (flipped cs) := rfl
theorem sure_iff {cs : List (Int × Int)} {q : Int} (hc : cs ≠ []) : surePart cs = some q ↔ Sure cs q := by
  match cs, hc with
  | c0 :: cr, _ =>
    rw [surePart_core]
    unfold flipped
    rw [List.getD_cons_zero]
    by_cases h : c0.2 < 0
    · rw [if_pos h]
      show coreS ((-c0.1, -c0.2) :: negs cr) = some q ↔ _
      rw [coreS_iff]
      constructor
      · exact fun z => .inr z
      · rintro (z | z)
        · have := (z.1 c0 List.mem_cons_self).1
          omega
        · exact z
    · rw [if_neg h, coreS_iff]
      constructor
      · exact fun z => .inl z
      · rintro (z | z)
        · exact z
        · have := (z.1 (-c0.1, -c0.2) List.mem_cons_self).1
          dsimp only at this
          omega
theorem sure_none {cs : List (Int × Int)} (hc : cs ≠ []) : surePart cs = none ↔ ∀ q, ¬ Sure cs q := by
  constructor
  · intro h q z
    rw [(sure_iff hc).mpr z] at h
    cases h
  · intro h
    cases e : surePart cs with
    | none => rfl
    | some q => exact absurd ((sure_iff hc).mp e) (h q)
theorem chain_scale : ∀ (n : Nat) {k x y : Int}, y.natAbs ≤ n → k ≠ 0 → chain (x * k) (y * k) = chain x y
  | 0, k, x, y, hn, hk => by
    have : y = 0 := by omega
    subst this
    rw [Int.zero_mul, chain_zero, chain_zero]
  | n + 1, k, x, y, hn, hk => by
    by_cases hy : y = 0
    · subst hy
      rw [Int.zero_mul, chain_zero, chain_zero]
    · have hyk : y * k ≠ 0 := Int.mul_ne_zero hy hk
      have ef : (x * k).fdiv (y * k) = x.fdiv y := by
        rcases Int.lt_or_gt_of_ne hk with h | h
        · have z := Int.mul_fdiv_mul_of_pos_left x y (b := -k) (by omega)
          rw [Int.mul_neg, Int.mul_neg, fdiv_negs] at z
          exact z
        · exact Int.mul_fdiv_mul_of_pos_left x y h
      have em : (x * k).fmod (y * k) = x.fmod y * k := by
        rw [← fmod_eq, ef, ← fmod_eq, Int.sub_mul, Int.mul_assoc]
      rw [chain_cons hyk, chain_cons hy, ef, em, chain_scale n (by have := fmod_abs (a := x) hy; omega) hk]
/-! ### askings, one step at a time -/
theorem upd_at {H : Hp} {p : Addr} {o : HO} (_ : Same H (upd H p o)) : (upd H p o) p = some o := upd_same
theorem turned4 (a b c d q : Int) : turnedOver [a, b, c, d] q = [c, d, a - q * c, b - q * d] := by simp [turnedOver]
theorem turned8 (a b c d e f g h q : Int) : turnedOver [a, b, c, d, e, f, g, h] q = [e, f, g, h, a - q * e, b - q * f, c - q * g, d - q * h] := by simp [turnedOver]
theorem askF_pos {n : Nat} {B : Box} {l : Int} {r : Option Ans × Box × Int} (e : askF n B l = some r) : ∃ m, n = m + 1 := by
  cases n with
  | zero => cases B <;> cases e
  | succ m => exact ⟨m, rfl⟩
theorem askF_leaf (n : Nat) (c : Chain) (l : Int) : askF (n + 1) (.leaf c) l = some (some (c.ans l), .leaf (c.then_ l), l - c.took l) := rfl
/-- what stands ahead of taking -/
abbrev sureF (ns : List Int) (st : Bool) : Option Int := if st = true then surePart (fourCorners ns) else none
section
variable {n : Nat} {ns : List Int} {st told : Bool} {x x' : Box} {l l' q : Int}
theorem askF_four_tell (hf : allFit ns (fourCorners ns) = true) (hs : sureF ns st = some q) : askF (n + 1) (.four ns st told x) l = some (some (.part q), .four (turnedOver ns q) st true x, l) := by
  simp only [askF, if_pos hf, hs]
theorem askF_four_none (hf : allFit ns (fourCorners ns) = true) (hs : sureF ns st = none) (e : askF n x l = some (none, x', l')) : askF (n + 1) (.four ns st told x) l = some (none, .four ns st told x', l') := by
  simp only [askF, if_pos hf, hs, e]
theorem askF_four_waits (hf : allFit ns (fourCorners ns) = true) (hs : sureF ns st = none) (e : askF n x l = some (some .waits, x', l')) : askF (n + 1) (.four ns st told x) l = some (some .waits, .four ns st told x', l') := by
  simp only [askF, if_pos hf, hs, e]
theorem askF_four_fin (hf : allFit ns (fourCorners ns) = true) (hs : sureF ns st = none) (e : askF n x l = some (some .fin, x', l')) : askF (n + 1) (.four ns st told x) l = askF n (.fourR (ns.getD 0 0) (ns.getD 2 0) told) l' := by
  simp only [askF, if_pos hf, hs, e]
theorem askF_four_part (hf : allFit ns (fourCorners ns) = true) (hs : sureF ns st = none) (e : askF n x l = some (some (.part q), x', l')) (hq : fits q) : askF (n + 1) (.four ns st told x) l = askF n (.four (withOne ns q) true told x') l' := by
  simp only [askF, if_pos hf, hs, e, if_pos hq]
end
abbrev sureE (ns : List Int) (i j : Int) : Option Int := if 0 < i ∧ 0 < j then surePart (eightCorners ns) else none
section
variable {n : Nat} {ns : List Int} {i j : Int} {told : Bool} {x x' y y' : Box} {l l' q : Int}
theorem askF_eight_tell (hf : allFit ns (eightCorners ns) = true) (hs : sureE ns i j = some q) : askF (n + 1) (.eight ns i j told x y) l = some (some (.part q), .eight (turnedOver ns q) i j true x y, l) := by
  simp only [askF, if_pos hf, hs]
theorem askF_eight_none0 (hf : allFit ns (eightCorners ns) = true) (hs : sureE ns i j = none) (h : i ≤ j) (e : askF n x l = some (none, x', l')) : askF (n + 1) (.eight ns i j told x y) l = some (none, .eight ns i j told x' y, l') := by
  simp only [askF, if_pos hf, hs, if_pos h, e]
theorem askF_eight_waits0 (hf : allFit ns (eightCorners ns) = true) (hs : sureE ns i j = none) (h : i ≤ j) (e : askF n x l = some (some .waits, x', l')) : askF (n + 1) (.eight ns i j told x y) l = some (some .waits, .eight ns i j told x' y, l') := by
  simp only [askF, if_pos hf, hs, if_pos h, e]
theorem askF_eight_fin0 (hf : allFit ns (eightCorners ns) = true) (hs : sureE ns i j = none) (h : i ≤ j) (e : askF n x l = some (some .fin, x', l')) : askF (n + 1) (.eight ns i j told x y) l = askF n (.eightR (oneBox (leftOf ns 0) told y)) l' := by
  simp only [askF, if_pos hf, hs, if_pos h, e]
theorem askF_eight_part0 (hf : allFit ns (eightCorners ns) = true) (hs : sureE ns i j = none) (h : i ≤ j) (e : askF n x l = some (some (.part q), x', l')) (hq : fits q) : askF (n + 1) (.eight ns i j told x y) l = askF n (.eight (withFirst ns q) (i + 1) j told x' y) l' := by
  simp only [askF, if_pos hf, hs, if_pos h, e, if_pos hq]
theorem askF_eight_none1 (hf : allFit ns (eightCorners ns) = true) (hs : sureE ns i j = none) (h : ¬ i ≤ j) (e : askF n y l = some (none, y', l')) : askF (n + 1) (.eight ns i j told x y) l = some (none, .eight ns i j told x y', l') := by
  simp only [askF, if_pos hf, hs, if_neg h, e]
theorem askF_eight_waits1 (hf : allFit ns (eightCorners ns) = true) (hs : sureE ns i j = none) (h : ¬ i ≤ j) (e : askF n y l = some (some .waits, y', l')) : askF (n + 1) (.eight ns i j told x y) l = some (some .waits, .eight ns i j told x y', l') := by
  simp only [askF, if_pos hf, hs, if_neg h, e]
theorem askF_eight_fin1 (hf : allFit ns (eightCorners ns) = true) (hs : sureE ns i j = none) (h : ¬ i ≤ j) (e : askF n y l = some (some .fin, y', l')) : askF (n + 1) (.eight ns i j told x y) l = askF n (.eightR (oneBox (leftOf ns 1) told x)) l' := by
  simp only [askF, if_pos hf, hs, if_neg h, e]
theorem askF_eight_part1 (hf : allFit ns (eightCorners ns) = true) (hs : sureE ns i j = none) (h : ¬ i ≤ j) (e : askF n y l = some (some (.part q), y', l')) (hq : fits q) : askF (n + 1) (.eight ns i j told x y) l = askF n (.eight (withSecond ns q) i (j + 1) told x y') l' := by
  simp only [askF, if_pos hf, hs, if_neg h, e, if_pos hq]
end
theorem askF_rest {n : Nat} {r r' : Box} {l l' : Int} {o : Option Ans} (e : askF n r l = some (o, r', l')) : askF (n + 1) (.eightR r) l = some (o, .eightR r', l') := by
  simp only [askF, e, Option.map_some]
theorem ans_end {n : Nat} {c : Chain} (h : c.ended = true) (l : Int) : askF (n + 1) (.leaf c) l = some (some .fin, .leaf c, l) := by
  have e1 : c.ans l = .fin := by unfold Chain.ans; rw [if_pos h]
  have e2 : c.then_ l = c := by unfold Chain.then_; rw [if_pos h]
  have e3 : c.took l = 0 := by unfold Chain.took; rw [if_pos h]
  rw [askF_leaf, e1, e2, e3, Int.sub_zero]
theorem ans_waits {n : Nat} {c : Chain} (h : c.ended = false) {l : Int} (hl : l < 1) : askF (n + 1) (.leaf c) l = some (some .waits, .leaf c, l) := by
  have e1 : c.ans l = .waits := by unfold Chain.ans; rw [h, if_neg (by decide), if_pos hl]
  have e2 : c.then_ l = c := by unfold Chain.then_; rw [h, if_neg (by decide), if_pos hl]
  have e3 : c.took l = 0 := by unfold Chain.took; rw [h, if_neg (by decide), if_pos hl]
  rw [askF_leaf, e1, e2, e3, Int.sub_zero]
theorem ans_part {n : Nat} {c : Chain} (h : c.ended = false) {l : Int} (hl : ¬ l < 1) : askF (n + 1) (.leaf c) l = some (some (.part c.part), .leaf c.next, l - 1) := by
  have e1 : c.ans l = .part c.part := by unfold Chain.ans; rw [h, if_neg (by decide), if_neg hl]
  have e2 : c.then_ l = c.next := by unfold Chain.then_; rw [h, if_neg (by decide), if_neg hl]
  have e3 : c.took l = 1 := by unfold Chain.took; rw [h, if_neg (by decide), if_neg hl]
  rw [askF_leaf, e1, e2, e3]
/-! ### askings without fuel; what more parts of leaves change -/
inductive Asks : Box → Int → Option Ans → Box → Int → Prop
  | leaf {c l} : Asks (.leaf c) l (some (c.ans l)) (.leaf (c.then_ l)) (l - c.took l)
  | fb {t b told l r} : fbAsk t b told = some r → Asks (.fb t b told) l r.1 (.fb r.2.1 r.2.2.1 r.2.2.2) l
  | fourR {t b told l r} : fbAsk t b told = some r → Asks (.fourR t b told) l r.1 (.fourR r.2.1 r.2.2.1 r.2.2.2) l
  | tell4 {ns st told x l q} : allFit ns (fourCorners ns) = true → sureF ns st = some q → Asks (.four ns st told x) l (some (.part q)) (.four (turnedOver ns q) st true x) l
  | none4 {ns st told x x' l l'} : allFit ns (fourCorners ns) = true → sureF ns st = none → Asks x l none x' l' → Asks (.four ns st told x) l none (.four ns st told x') l'
  | wait4 {ns st told x x' l l'} : allFit ns (fourCorners ns) = true → sureF ns st = none → Asks x l (some .waits) x' l' → Asks (.four ns st told x) l (some .waits) (.four ns st told x') l'
  | fin4 {ns st told x x' l l1 o B' l'} : allFit ns (fourCorners ns) = true → sureF ns st = none → Asks x l (some .fin) x' l1 → Asks (.fourR (ns.getD 0 0) (ns.getD 2 0) told) l1 o B' l' → Asks (.four ns st told x) l o B' l'
  | part4 {ns st told x x' l l1 q o B' l'} : allFit ns (fourCorners ns) = true → sureF ns st = none → Asks x l (some (.part q)) x' l1 → fits q → Asks (.four (withOne ns q) true told x') l1 o B' l' → Asks (.four ns st told x) l o B' l'
  | tell8 {ns i j told x y l q} : allFit ns (eightCorners ns) = true → sureE ns i j = some q → Asks (.eight ns i j told x y) l (some (.part q)) (.eight (turnedOver ns q) i j true x y) l
  | none0 {ns i j told x y x' l l'} : allFit ns (eightCorners ns) = true → sureE ns i j = none → i ≤ j → Asks x l none x' l' → Asks (.eight ns i j told x y) l none (.eight ns i j told x' y) l'
  | wait0 {ns i j told x y x' l l'} : allFit ns (eightCorners ns) = true → sureE ns i j = none → i ≤ j → Asks x l (some .waits) x' l' → Asks (.eight ns i j told x y) l (some .waits) (.eight ns i j told x' y) l'
  | fin0 {ns i j told x y x' l l1 o B' l'} : allFit ns (eightCorners ns) = true → sureE ns i j = none → i ≤ j → Asks x l (some .fin) x' l1 → Asks (.eightR (oneBox (leftOf ns 0) told y)) l1 o B' l' → Asks (.eight ns i j told x y) l o B' l'
  | part0 {ns i j told x y x' l l1 q o B' l'} : allFit ns (eightCorners ns) = true → sureE ns i j = none → i ≤ j → Asks x l (some (.part q)) x' l1 → fits q → Asks (.eight (withFirst ns q) (i + 1) j told x' y) l1 o B' l' → Asks (.eight ns i j told x y) l o B' l'
  | none1 {ns i j told x y y' l l'} : allFit ns (eightCorners ns) = true → sureE ns i j = none → ¬ i ≤ j → Asks y l none y' l' → Asks (.eight ns i j told x y) l none (.eight ns i j told x y') l'
  | wait1 {ns i j told x y y' l l'} : allFit ns (eightCorners ns) = true → sureE ns i j = none → ¬ i ≤ j → Asks y l (some .waits) y' l' → Asks (.eight ns i j told x y) l (some .waits) (.eight ns i j told x y') l'
  | fin1 {ns i j told x y y' l l1 o B' l'} : allFit ns (eightCorners ns) = true → sureE ns i j = none → ¬ i ≤ j → Asks y l (some .fin) y' l1 → Asks (.eightR (oneBox (leftOf ns 1) told x)) l1 o B' l' → Asks (.eight ns i j told x y) l o B' l'
  | part1 {ns i j told x y y' l l1 q o B' l'} : allFit ns (eightCorners ns) = true → sureE ns i j = none → ¬ i ≤ j → Asks y l (some (.part q)) y' l1 → fits q → Asks (.eight (withSecond ns q) i (j + 1) told x y') l1 o B' l' → Asks (.eight ns i j told x y) l o B' l'
  | rest {r r' l l' o} : Asks r l o r' l' → Asks (.eightR r) l o (.eightR r') l'
theorem asks_of : ∀ (n : Nat) {B : Box} {l : Int} {o : Option Ans} {B' : Box} {l' : Int}, askF n B l = some (o, B', l') → Asks B l o B' l'
  | 0, _, _, _, _, _, e => by cases e
  | n + 1, .leaf c, l, o, B', l', e => by
    rw [askF_leaf] at e
    cases e
    exact .leaf
  | n + 1, .fb t b told, l, o, B', l', e => by
    have e : (fbAsk t b told).map (fun r => (r.1, Box.fb r.2.1 r.2.2.1 r.2.2.2, l)) = some (o, B', l') := e
    cases z : fbAsk t b told with
    | none => rw [z] at e; cases e
    | some r => rw [z] at e; cases e; exact .fb z
  | n + 1, .fourR t b told, l, o, B', l', e => by
    have e : (fbAsk t b told).map (fun r => (r.1, Box.fourR r.2.1 r.2.2.1 r.2.2.2, l)) = some (o, B', l') := e
    cases z : fbAsk t b told with
    | none => rw [z] at e; cases e
    | some r => rw [z] at e; cases e; exact .fourR z
  | n + 1, .four ns st told x, l, o, B', l', e => by
    by_cases hf : allFit ns (fourCorners ns) = true
    · cases hs : sureF ns st with
      | some q =>
        rw [askF_four_tell hf hs] at e
        cases e
        exact .tell4 hf hs
      | none =>
        cases hx : askF n x l with
        | none =>
          exfalso
          simp only [askF, if_pos hf, hs, hx] at e
          cases e
        | some r =>
          obtain ⟨a, x', l1⟩ := r
          have hX := asks_of n hx
          match a, hx, hX with
          | none, hx, hX =>
            rw [askF_four_none hf hs hx] at e
            cases e
            exact .none4 hf hs hX
          | some .waits, hx, hX =>
            rw [askF_four_waits hf hs hx] at e
            cases e
            exact .wait4 hf hs hX
          | some .fin, hx, hX =>
            rw [askF_four_fin hf hs hx] at e
            exact .fin4 hf hs hX (asks_of n e)
          | some (.part q), hx, hX =>
            by_cases hq : fits q
            · rw [askF_four_part hf hs hx hq] at e
              exact .part4 hf hs hX hq (asks_of n e)
            · exfalso
              simp only [askF, if_pos hf, hs, hx, if_neg hq] at e
              cases e
    · exfalso
      simp only [askF, if_neg hf] at e
      cases e
  | n + 1, .eight ns i j told x y, l, o, B', l', e => by
    by_cases hf : allFit ns (eightCorners ns) = true
    · cases hs : sureE ns i j with
      | some q =>
        rw [askF_eight_tell hf hs] at e
        cases e
        exact .tell8 hf hs
      | none =>
        by_cases h : i ≤ j
        · cases hx : askF n x l with
          | none =>
            exfalso
            simp only [askF, if_pos hf, hs, if_pos h, hx] at e
            cases e
          | some r =>
            obtain ⟨a, x', l1⟩ := r
            have hX := asks_of n hx
            match a, hx, hX with
            | none, hx, hX =>
              rw [askF_eight_none0 hf hs h hx] at e
              cases e
              exact .none0 hf hs h hX
            | some .waits, hx, hX =>
              rw [askF_eight_waits0 hf hs h hx] at e
              cases e
              exact .wait0 hf hs h hX
            | some .fin, hx, hX =>
              rw [askF_eight_fin0 hf hs h hx] at e
              exact .fin0 hf hs h hX (asks_of n e)
            | some (.part q), hx, hX =>
              by_cases hq : fits q
              · rw [askF_eight_part0 hf hs h hx hq] at e
                exact .part0 hf hs h hX hq (asks_of n e)
              · exfalso
                simp only [askF, if_pos hf, hs, if_pos h, hx, if_neg hq] at e
                cases e
        · cases hx : askF n y l with
          | none =>
            exfalso
            simp only [askF, if_pos hf, hs, if_neg h, hx] at e
            cases e
          | some r =>
            obtain ⟨a, y', l1⟩ := r
            have hX := asks_of n hx
            match a, hx, hX with
            | none, hx, hX =>
              rw [askF_eight_none1 hf hs h hx] at e
              cases e
              exact .none1 hf hs h hX
            | some .waits, hx, hX =>
              rw [askF_eight_waits1 hf hs h hx] at e
              cases e
              exact .wait1 hf hs h hX
            | some .fin, hx, hX =>
              rw [askF_eight_fin1 hf hs h hx] at e
              exact .fin1 hf hs h hX (asks_of n e)
            | some (.part q), hx, hX =>
              by_cases hq : fits q
              · rw [askF_eight_part1 hf hs h hx hq] at e
                exact .part1 hf hs h hX hq (asks_of n e)
              · exfalso
                simp only [askF, if_pos hf, hs, if_neg h, hx, if_neg hq] at e
                cases e
    · exfalso
      simp only [askF, if_neg hf] at e
      cases e
  | n + 1, .eightR r, l, o, B', l', e => by
    cases hx : askF n r l with
    | none =>
      exfalso
      simp only [askF, hx] at e
      cases e
    | some z =>
      obtain ⟨a, x', l1⟩ := z
      rw [askF_rest hx] at e
      cases e
      exact .rest (asks_of n hx)
/-- more fuel does no harm -/
theorem askF_up {B : Box} {l : Int} {o : Option Ans} {B' : Box} {l' : Int} (h : Asks B l o B' l') : ∃ n0, ∀ n, n0 ≤ n → askF n B l = some (o, B', l') := by
  have suc : ∀ {n0 n : Nat}, n0 + 1 ≤ n → ∃ m, n = m + 1 ∧ n0 ≤ m := fun {n0 n} h => ⟨n - 1, by omega, by omega⟩
  induction h with
  | leaf => exact ⟨1, fun n hn => by obtain ⟨m, rfl, _⟩ := suc hn; rfl⟩
  | fb e => exact ⟨1, fun n hn => by obtain ⟨m, rfl, _⟩ := suc hn; simp only [askF, e, Option.map_some]⟩
  | fourR e => exact ⟨1, fun n hn => by obtain ⟨m, rfl, _⟩ := suc hn; simp only [askF, e, Option.map_some]⟩
  | tell4 hf hs => exact ⟨1, fun n hn => by obtain ⟨m, rfl, _⟩ := suc hn; exact askF_four_tell hf hs⟩
  | none4 hf hs _ ih => obtain ⟨n0, ih⟩ := ih; exact ⟨n0 + 1, fun n hn => by obtain ⟨m, rfl, hm⟩ := suc hn; exact askF_four_none hf hs (ih m hm)⟩
  | wait4 hf hs _ ih => obtain ⟨n0, ih⟩ := ih; exact ⟨n0 + 1, fun n hn => by obtain ⟨m, rfl, hm⟩ := suc hn; exact askF_four_waits hf hs (ih m hm)⟩
  | fin4 hf hs _ _ ih ih2 => obtain ⟨n0, ih⟩ := ih; obtain ⟨n1, ih2⟩ := ih2; exact ⟨n0 + n1 + 1, fun n hn => by obtain ⟨m, rfl, hm⟩ := suc hn; rw [askF_four_fin hf hs (ih m (by omega))]; exact ih2 m (by omega)⟩
  | part4 hf hs _ hq _ ih ih2 => obtain ⟨n0, ih⟩ := ih; obtain ⟨n1, ih2⟩ := ih2; exact ⟨n0 + n1 + 1, fun n hn => by obtain ⟨m, rfl, hm⟩ := suc hn; rw [askF_four_part hf hs (ih m (by omega)) hq]; exact ih2 m (by omega)⟩
  | tell8 hf hs => exact ⟨1, fun n hn => by obtain ⟨m, rfl, _⟩ := suc hn; exact askF_eight_tell hf hs⟩
  | none0 hf hs h _ ih => obtain ⟨n0, ih⟩ := ih; exact ⟨n0 + 1, fun n hn => by obtain ⟨m, rfl, hm⟩ := suc hn; exact askF_eight_none0 hf hs h (ih m hm)⟩
  | wait0 hf hs h _ ih => obtain ⟨n0, ih⟩ := ih; exact ⟨n0 + 1, fun n hn => by obtain ⟨m, rfl, hm⟩ := suc hn; exact askF_eight_waits0 hf hs h (ih m hm)⟩
  | fin0 hf hs h _ _ ih ih2 => obtain ⟨n0, ih⟩ := ih; obtain ⟨n1, ih2⟩ := ih2; exact ⟨n0 + n1 + 1, fun n hn => by obtain ⟨m, rfl, hm⟩ := suc hn; rw [askF_eight_fin0 hf hs h (ih m (by omega))]; exact ih2 m (by omega)⟩
  | part0 hf hs h _ hq _ ih ih2 => obtain ⟨n0, ih⟩ := ih; obtain ⟨n1, ih2⟩ := ih2; exact ⟨n0 + n1 + 1, fun n hn => by obtain ⟨m, rfl, hm⟩ := suc hn; rw [askF_eight_part0 hf hs h (ih m (by omega)) hq]; exact ih2 m (by omega)⟩
  | none1 hf hs h _ ih => obtain ⟨n0, ih⟩ := ih; exact ⟨n0 + 1, fun n hn => by obtain ⟨m, rfl, hm⟩ := suc hn; exact askF_eight_none1 hf hs h (ih m hm)⟩
  | wait1 hf hs h _ ih => obtain ⟨n0, ih⟩ := ih; exact ⟨n0 + 1, fun n hn => by obtain ⟨m, rfl, hm⟩ := suc hn; exact askF_eight_waits1 hf hs h (ih m hm)⟩
  | fin1 hf hs h _ _ ih ih2 => obtain ⟨n0, ih⟩ := ih; obtain ⟨n1, ih2⟩ := ih2; exact ⟨n0 + n1 + 1, fun n hn => by obtain ⟨m, rfl, hm⟩ := suc hn; rw [askF_eight_fin1 hf hs h (ih m (by omega))]; exact ih2 m (by omega)⟩
  | part1 hf hs h _ hq _ ih ih2 => obtain ⟨n0, ih⟩ := ih; obtain ⟨n1, ih2⟩ := ih2; exact ⟨n0 + n1 + 1, fun n hn => by obtain ⟨m, rfl, hm⟩ := suc hn; rw [askF_eight_part1 hf hs h (ih m (by omega)) hq]; exact ih2 m (by omega)⟩
  | rest _ ih => obtain ⟨n0, ih⟩ := ih; exact ⟨n0 + 1, fun n hn => by obtain ⟨m, rfl, hm⟩ := suc hn; exact askF_rest (ih m hm)⟩
theorem Asks.one {B : Box} {l : Int} {o o2 : Option Ans} {B' B2 : Box} {l' l2 : Int} (h : Asks B l o B' l') (h2 : Asks B l o2 B2 l2) : o = o2 ∧ B' = B2 ∧ l' = l2 := by
  obtain ⟨n, e⟩ := askF_up h
  obtain ⟨m, e2⟩ := askF_up h2
  have z := (e (n + m) (by omega)).symm.trans (e2 (n + m) (by omega))
  cases z
  exact ⟨rfl, rfl, rfl⟩
theorem Chain.leaf_cases (c : Chain) (l : Int) : (c.ended = true ∧ c.ans l = .fin ∧ c.then_ l = c ∧ c.took l = 0) ∨ (c.ended = false ∧ l < 1 ∧ c.ans l = .waits ∧ c.then_ l = c ∧ c.took l = 0) ∨ (c.ended = false ∧ ¬ l < 1 ∧ c.ans l = .part c.part ∧ c.then_ l = c.next ∧ c.took l = 1) := by
  unfold Chain.ans Chain.then_ Chain.took
  cases c.ended with
  | true => exact .inl ⟨rfl, rfl, rfl, rfl⟩
  | false =>
    by_cases h : l < 1
    · right; left
      simp [h]
    · right; right
      simp [h]
/-- no more is taken than may be; it waits only where nothing is left -/
theorem Asks.left {B : Box} {l : Int} {o : Option Ans} {B' : Box} {l' : Int} (h : Asks B l o B' l') : 0 ≤ l → 0 ≤ l' ∧ l' ≤ l ∧ (o = some .waits → l' = 0) := by
  have fbw : ∀ {t b : Int} {told : Bool} {r : Option Ans × Int × Int × Bool}, fbAsk t b told = some r → r.1 ≠ some .waits := fun {t b told r} e z => by
    unfold fbAsk at e
    split at e
    · split at e
      · split at e
        · cases e; cases z
        · cases e; cases z
      · cases e; cases z
    · cases e
  induction h with
  | @leaf c l =>
    intro hl
    rcases c.leaf_cases l with ⟨_, e, _, e2⟩ | ⟨_, h, e, _, e2⟩ | ⟨_, h, e, _, e2⟩
    · rw [e, e2]; exact ⟨by omega, by omega, fun z => (by cases z)⟩
    · rw [e, e2]; exact ⟨by omega, by omega, fun _ => by omega⟩
    · rw [e, e2]; exact ⟨by omega, by omega, fun z => (by cases z)⟩
  | fb e => exact fun hl => ⟨hl, Int.le_refl _, fun z => absurd z (fbw e)⟩
  | fourR e => exact fun hl => ⟨hl, Int.le_refl _, fun z => absurd z (fbw e)⟩
  | tell4 => exact fun hl => ⟨hl, Int.le_refl _, fun z => (by cases z)⟩
  | none4 _ _ _ ih => exact fun hl => ⟨(ih hl).1, (ih hl).2.1, fun z => (by cases z)⟩
  | wait4 _ _ _ ih => exact ih
  | fin4 _ _ _ _ ih ih2 => exact fun hl => ⟨(ih2 (ih hl).1).1, Int.le_trans (ih2 (ih hl).1).2.1 (ih hl).2.1, (ih2 (ih hl).1).2.2⟩
  | part4 _ _ _ _ _ ih ih2 => exact fun hl => ⟨(ih2 (ih hl).1).1, Int.le_trans (ih2 (ih hl).1).2.1 (ih hl).2.1, (ih2 (ih hl).1).2.2⟩
  | tell8 => exact fun hl => ⟨hl, Int.le_refl _, fun z => (by cases z)⟩
  | none0 _ _ _ _ ih => exact fun hl => ⟨(ih hl).1, (ih hl).2.1, fun z => (by cases z)⟩
  | wait0 _ _ _ _ ih => exact ih
  | fin0 _ _ _ _ _ ih ih2 => exact fun hl => ⟨(ih2 (ih hl).1).1, Int.le_trans (ih2 (ih hl).1).2.1 (ih hl).2.1, (ih2 (ih hl).1).2.2⟩
  | part0 _ _ _ _ _ _ ih ih2 => exact fun hl => ⟨(ih2 (ih hl).1).1, Int.le_trans (ih2 (ih hl).1).2.1 (ih hl).2.1, (ih2 (ih hl).1).2.2⟩
  | none1 _ _ _ _ ih => exact fun hl => ⟨(ih hl).1, (ih hl).2.1, fun z => (by cases z)⟩
  | wait1 _ _ _ _ ih => exact ih
  | fin1 _ _ _ _ _ ih ih2 => exact fun hl => ⟨(ih2 (ih hl).1).1, Int.le_trans (ih2 (ih hl).1).2.1 (ih hl).2.1, (ih2 (ih hl).1).2.2⟩
  | part1 _ _ _ _ _ _ ih ih2 => exact fun hl => ⟨(ih2 (ih hl).1).1, Int.le_trans (ih2 (ih hl).1).2.1 (ih hl).2.1, (ih2 (ih hl).1).2.2⟩
  | rest _ ih => exact ih
/-- where it does not wait, more parts of leaves change nothing -/
theorem Asks.more {B : Box} {l : Int} {o : Option Ans} {B' : Box} {l' : Int} (h : Asks B l o B' l') (d : Int) (hd : 0 ≤ d) : o ≠ some .waits → Asks B (l + d) o B' (l' + d) := by
  induction h with
  | @leaf c l =>
    intro hw
    rcases c.leaf_cases l with ⟨h0, e, e1, e2⟩ | ⟨_, h, e, _, e2⟩ | ⟨h0, h, e, e1, e2⟩
    · have z := @Asks.leaf c (l + d)
      rcases c.leaf_cases (l + d) with ⟨_, f, f1, f2⟩ | ⟨g, _⟩ | ⟨g, _⟩
      · rw [f, f1, f2] at z
        rw [e, e1, e2, Int.sub_zero]
        rw [Int.sub_zero] at z
        exact z
      · rw [h0] at g; cases g
      · rw [h0] at g; cases g
    · exact absurd (congrArg some e) hw
    · have z := @Asks.leaf c (l + d)
      rcases c.leaf_cases (l + d) with ⟨g, _⟩ | ⟨_, g, _⟩ | ⟨_, _, f, f1, f2⟩
      · rw [h0] at g; cases g
      · omega
      · rw [f, f1, f2] at z
        rw [e, e1, e2, show l - 1 + d = l + d - 1 by omega]
        exact z
  | fb e => exact fun _ => .fb e
  | fourR e => exact fun _ => .fourR e
  | tell4 hf hs => exact fun _ => .tell4 hf hs
  | none4 hf hs _ ih => exact fun _ => .none4 hf hs (ih (by intro z; cases z))
  | wait4 => exact fun hw => absurd rfl hw
  | fin4 hf hs _ _ ih ih2 => exact fun hw => .fin4 hf hs (ih (by intro z; cases z)) (ih2 hw)
  | part4 hf hs _ hq _ ih ih2 => exact fun hw => .part4 hf hs (ih (by intro z; cases z)) hq (ih2 hw)
  | tell8 hf hs => exact fun _ => .tell8 hf hs
  | none0 hf hs h _ ih => exact fun _ => .none0 hf hs h (ih (by intro z; cases z))
  | wait0 => exact fun hw => absurd rfl hw
  | fin0 hf hs h _ _ ih ih2 => exact fun hw => .fin0 hf hs h (ih (by intro z; cases z)) (ih2 hw)
  | part0 hf hs h _ hq _ ih ih2 => exact fun hw => .part0 hf hs h (ih (by intro z; cases z)) hq (ih2 hw)
  | none1 hf hs h _ ih => exact fun _ => .none1 hf hs h (ih (by intro z; cases z))
  | wait1 => exact fun hw => absurd rfl hw
  | fin1 hf hs h _ _ ih ih2 => exact fun hw => .fin1 hf hs h (ih (by intro z; cases z)) (ih2 hw)
  | part1 hf hs h _ hq _ ih ih2 => exact fun hw => .part1 hf hs h (ih (by intro z; cases z)) hq (ih2 hw)
  | rest _ ih => exact fun hw => .rest (ih hw)
/-- waiting, and going on, is asking with the sum -/
theorem Asks.on {B : Box} {l : Int} {o : Option Ans} {B1 : Box} {l1 : Int} (h : Asks B l o B1 l1) (d : Int) (hd : 0 ≤ d) : 0 ≤ l → o = some .waits → ∀ {o2 B2 l2}, Asks B1 d o2 B2 l2 → Asks B (l + d) o2 B2 l2 := by
  induction h with
  | @leaf c l =>
    intro hl hw o2 B2 l2 h2
    rcases c.leaf_cases l with ⟨_, e, _⟩ | ⟨_, h, e, e1, e2⟩ | ⟨_, _, e, _⟩
    · rw [e] at hw; cases hw
    · rw [e1] at h2
      rw [show l + d = d by omega]
      exact h2
    · rw [e] at hw; cases hw
  | @fb t b told l r e =>
    intro hl hw
    exfalso
    have := (Asks.fb (l := l) e).left hl
    unfold fbAsk at e
    split at e
    · split at e
      · split at e
        · cases e; cases hw
        · cases e; cases hw
      · cases e; cases hw
    · cases e
  | @fourR t b told l r e =>
    intro hl hw
    exfalso
    unfold fbAsk at e
    split at e
    · split at e
      · split at e
        · cases e; cases hw
        · cases e; cases hw
      · cases e; cases hw
    · cases e
  | tell4 => intro hl hw; cases hw
  | none4 => intro hl hw; cases hw
  | wait4 hf hs hx ih =>
    intro hl hw o2 B2 l2 h2
    have ih := @ih hl rfl
    cases h2 with
    | tell4 _ hs' => rw [hs] at hs'; cases hs'
    | none4 _ _ hx2 => exact .none4 hf hs (ih hx2)
    | wait4 _ _ hx2 => exact .wait4 hf hs (ih hx2)
    | fin4 _ _ hx2 hr => exact .fin4 hf hs (ih hx2) hr
    | part4 _ _ hx2 hq hr => exact .part4 hf hs (ih hx2) hq hr
  | fin4 hf hs hx _ ih ih2 =>
    intro hl hw o2 B2 l2 h2
    have b := hx.left hl
    exact .fin4 hf hs (hx.more d hd (by intro z; cases z)) (ih2 b.1 hw h2)
  | part4 hf hs hx hq _ ih ih2 =>
    intro hl hw o2 B2 l2 h2
    have b := hx.left hl
    exact .part4 hf hs (hx.more d hd (by intro z; cases z)) hq (ih2 b.1 hw h2)
  | tell8 => intro hl hw; cases hw
  | none0 => intro hl hw; cases hw
  | wait0 hf hs h hx ih =>
    intro hl hw o2 B2 l2 h2
    have ih := @ih hl rfl
    cases h2 with
    | tell8 _ hs' => rw [hs] at hs'; cases hs'
    | none0 _ _ _ hx2 => exact .none0 hf hs h (ih hx2)
    | wait0 _ _ _ hx2 => exact .wait0 hf hs h (ih hx2)
    | fin0 _ _ _ hx2 hr => exact .fin0 hf hs h (ih hx2) hr
    | part0 _ _ _ hx2 hq hr => exact .part0 hf hs h (ih hx2) hq hr
    | none1 _ _ h' _ => exact absurd h h'
    | wait1 _ _ h' _ => exact absurd h h'
    | fin1 _ _ h' _ _ => exact absurd h h'
    | part1 _ _ h' _ _ _ => exact absurd h h'
  | fin0 hf hs h hx _ ih ih2 =>
    intro hl hw o2 B2 l2 h2
    have b := hx.left hl
    exact .fin0 hf hs h (hx.more d hd (by intro z; cases z)) (ih2 b.1 hw h2)
  | part0 hf hs h hx hq _ ih ih2 =>
    intro hl hw o2 B2 l2 h2
    have b := hx.left hl
    exact .part0 hf hs h (hx.more d hd (by intro z; cases z)) hq (ih2 b.1 hw h2)
  | none1 => intro hl hw; cases hw
  | wait1 hf hs h hx ih =>
    intro hl hw o2 B2 l2 h2
    have ih := @ih hl rfl
    cases h2 with
    | tell8 _ hs' => rw [hs] at hs'; cases hs'
    | none1 _ _ _ hx2 => exact .none1 hf hs h (ih hx2)
    | wait1 _ _ _ hx2 => exact .wait1 hf hs h (ih hx2)
    | fin1 _ _ _ hx2 hr => exact .fin1 hf hs h (ih hx2) hr
    | part1 _ _ _ hx2 hq hr => exact .part1 hf hs h (ih hx2) hq hr
    | none0 _ _ h' _ => exact absurd h' h
    | wait0 _ _ h' _ => exact absurd h' h
    | fin0 _ _ h' _ _ => exact absurd h' h
    | part0 _ _ h' _ _ _ => exact absurd h' h
  | fin1 hf hs h hx _ ih ih2 =>
    intro hl hw o2 B2 l2 h2
    have b := hx.left hl
    exact .fin1 hf hs h (hx.more d hd (by intro z; cases z)) (ih2 b.1 hw h2)
  | part1 hf hs h hx hq _ ih ih2 =>
    intro hl hw o2 B2 l2 h2
    have b := hx.left hl
    exact .part1 hf hs h (hx.more d hd (by intro z; cases z)) hq (ih2 b.1 hw h2)
  | rest _ ih =>
    intro hl hw o2 B2 l2 h2
    cases h2 with
    | rest h2 => exact .rest (ih hl hw h2)
/-! ### nested boxes: how great their numbers become -/
/-- the two corners' greatness p, r beside a child's value (α, γ) -/
def J2 (p r α γ S : Int) : Prop := p * (α - γ) + r * γ ≤ S ∧ p ≤ 2 * S ∧ r ≤ 3 * S
theorem J2.take {p r α γ S q p' r' : Int} (h : J2 p r α γ S) (p0 : 0 ≤ p) (r0 : 0 ≤ r) (p0' : 0 ≤ p') (r0' : 0 ≤ r') (g1 : 1 ≤ γ) (ga : γ ≤ α) (q1 : 1 ≤ q) (lo : q * γ ≤ α) (hi : α ≤ (q + 1) * γ)
    (e1 : p' ≤ (q - 1) * p + r) (e2 : r' ≤ q * p + r) (e3 : p' ≤ r' + p) (e4 : r' ≤ p' + p) : J2 p' r' γ (α - q * γ) S := by
  obtain ⟨h1, h2, h3⟩ := h
  have w1 : 0 ≤ γ - (α - q * γ) := by
    have : (q + 1) * γ = q * γ + γ := by grind
    omega
  have w2 : 0 ≤ α - q * γ := by omega
  have m1 := Int.mul_le_mul_of_nonneg_right e1 w1
  have m2 := Int.mul_le_mul_of_nonneg_right e2 w2
  have id : ((q - 1) * p + r) * (γ - (α - q * γ)) + (q * p + r) * (α - q * γ) = p * (α - γ) + r * γ := by grind
  have a1 : p' * (γ - (α - q * γ)) + r' * (α - q * γ) ≤ S := by omega
  have x1 := Int.mul_nonneg p0' w1
  have x2 := Int.mul_nonneg r0' w2
  have S0 : 0 ≤ S := by omega
  -- where the old one is not at 1
  have oldP : γ < α → p ≤ S := fun z => by
    have y1 := Int.mul_le_mul_of_nonneg_left (show 1 ≤ α - γ by omega) p0
    have y2 := Int.mul_nonneg r0 (show 0 ≤ γ by omega)
    omega
  refine ⟨a1, ?_, ?_⟩
  · by_cases z : γ - (α - q * γ) = 0
    · -- the child is at 1: the old one was at q + 1
      have : r' ≤ S := by
        have y := Int.mul_le_mul_of_nonneg_left (show 1 ≤ α - q * γ by omega) r0'
        omega
      have : γ < α := by
        have y := Int.mul_le_mul_of_nonneg_right q1 (show 0 ≤ γ by omega)
        omega
      have := oldP this
      omega
    · have y := Int.mul_le_mul_of_nonneg_left (show 1 ≤ γ - (α - q * γ) by omega) p0'
      omega
  · by_cases z : α - q * γ = 0
    · have : p' ≤ S := by
        have y := Int.mul_le_mul_of_nonneg_left (show 1 ≤ γ - (α - q * γ) by omega) p0'
        omega
      omega
    · have y := Int.mul_le_mul_of_nonneg_left (show 1 ≤ α - q * γ by omega) r0'
      omega
theorem J2.less {p r p' r' α γ S : Int} (h : J2 p r α γ S) (g0 : 0 ≤ γ) (ga : γ ≤ α) (hp : p' ≤ p) (hr : r' ≤ r) : J2 p' r' α γ S := by
  obtain ⟨h1, h2, h3⟩ := h
  have m1 := Int.mul_le_mul_of_nonneg_right hp (show 0 ≤ α - γ by omega)
  have m2 := Int.mul_le_mul_of_nonneg_right hr g0
  exact ⟨by omega, by omega, by omega⟩
/-- the child's value, told by lesser numbers -/
theorem J2.scale {p r α γ α' γ' k S : Int} (h : J2 p r α γ S) (p0 : 0 ≤ p) (r0 : 0 ≤ r) (k1 : 1 ≤ k) (e1 : α = k * α') (e2 : γ = k * γ') (g0 : 0 ≤ γ') (ga : γ' ≤ α') : J2 p r α' γ' S := by
  obtain ⟨h1, h2, h3⟩ := h
  refine ⟨?_, h2, h3⟩
  have x1 := Int.mul_nonneg p0 (show 0 ≤ α' - γ' by omega)
  have x2 := Int.mul_nonneg r0 g0
  have y := Int.mul_le_mul_of_nonneg_right k1 (show 0 ≤ p * (α' - γ') + r * γ' by omega)
  have e : p * (α - γ) + r * γ = k * (p * (α' - γ') + r * γ') := by rw [e1, e2]; grind
  omega
/-- the first part taken -/
theorem J2.start {A B p r m α γ M q : Int} (hm : 0 ≤ m) (A0 : 0 ≤ A) (ha : A ≤ m) (hb : B ≤ m) (hp : p ≤ A * (q.natAbs : Int) + B) (hr : r ≤ A * (q.natAbs : Int) + A + B) (g1 : 1 ≤ γ) (lo : q * γ ≤ α) (hi : α ≤ (q + 1) * γ) (hM : γ ≤ M) (hM1 : α ≤ M) (hM2 : -M ≤ α) :
    J2 p r γ (α - q * γ) (4 * (m * M)) := by
  have e0 : (q + 1) * γ = q * γ + γ := by grind
  have qM : (q.natAbs : Int) * γ ≤ M + γ := by
    rcases Int.lt_or_le q 0 with z | z
    · have : ((q.natAbs : Nat) : Int) = -q := by omega
      rw [this]
      have : -q * γ = -(q * γ) := by grind
      omega
    · have : ((q.natAbs : Nat) : Int) = q := by omega
      rw [this]
      omega
  have qa : (q.natAbs : Int) ≤ (q.natAbs : Int) * γ := by
    have := Int.mul_le_mul_of_nonneg_left g1 (show 0 ≤ (q.natAbs : Int) by omega)
    omega
  have aq : A * (q.natAbs : Int) ≤ m * (q.natAbs : Int) := Int.mul_le_mul_of_nonneg_right ha (by omega)
  have S1 : m * (q.natAbs : Int) ≤ m * (2 * M) := Int.mul_le_mul_of_nonneg_left (by omega) hm
  have S2 : m * 1 ≤ m * M := Int.mul_le_mul_of_nonneg_left (by omega) hm
  have e2 : m * (2 * M) = 2 * (m * M) := by grind
  refine ⟨?_, by omega, by omega⟩
  have w1 : 0 ≤ γ - (α - q * γ) := by omega
  have w2 : 0 ≤ α - q * γ := by omega
  have m1 := Int.mul_le_mul_of_nonneg_right (show p ≤ m * (q.natAbs : Int) + 2 * m by omega) w1
  have m2 := Int.mul_le_mul_of_nonneg_right (show r ≤ m * (q.natAbs : Int) + 2 * m by omega) w2
  have e1 : (m * (q.natAbs : Int) + 2 * m) * (γ - (α - q * γ)) + (m * (q.natAbs : Int) + 2 * m) * (α - q * γ) = m * ((q.natAbs : Int) * γ) + m * (2 * γ) := by grind
  have m3 : m * ((q.natAbs : Int) * γ) ≤ m * (2 * M) := Int.mul_le_mul_of_nonneg_left (by omega) hm
  have m4 : m * (2 * γ) ≤ m * (2 * M) := Int.mul_le_mul_of_nonneg_left (by omega) hm
  omega
/-- an eight's four corners beside the values of both children -/
structure J8 (p00 p01 p10 p11 ax gx ay gy S : Int) : Prop where
  full : (p00 * (ay - gy) + p01 * gy) * (ax - gx) + (p10 * (ay - gy) + p11 * gy) * gx ≤ S
  y0 : p00 * (ay - gy) + p01 * gy ≤ 2 * S
  y1 : p10 * (ay - gy) + p11 * gy ≤ 3 * S
  x0 : p00 * (ax - gx) + p10 * gx ≤ 2 * S
  x1 : p01 * (ax - gx) + p11 * gx ≤ 3 * S
  c00 : p00 ≤ 4 * S
  c01 : p01 ≤ 6 * S
  c10 : p10 ≤ 6 * S
  c11 : p11 ≤ 9 * S
theorem J8.swap {p00 p01 p10 p11 ax gx ay gy S : Int} (h : J8 p00 p01 p10 p11 ax gx ay gy S) : J8 p00 p10 p01 p11 ay gy ax gx S := by
  refine ⟨?_, h.x0, h.x1, h.y0, h.y1, h.c00, h.c10, h.c01, h.c11⟩
  have e : (p00 * (ax - gx) + p10 * gx) * (ay - gy) + (p01 * (ax - gx) + p11 * gx) * gy = (p00 * (ay - gy) + p01 * gy) * (ax - gx) + (p10 * (ay - gy) + p11 * gy) * gx := by grind
  have := h.full
  omega
theorem J8.take {p00 p01 p10 p11 ax gx ay gy S q p00' p01' p10' p11' : Int} (h : J8 p00 p01 p10 p11 ax gx ay gy S) (n00 : 0 ≤ p00) (n01 : 0 ≤ p01) (n10 : 0 ≤ p10) (n11 : 0 ≤ p11) (m00 : 0 ≤ p00') (m01 : 0 ≤ p01') (m10 : 0 ≤ p10') (m11 : 0 ≤ p11')
    (wy0 : 0 ≤ ay - gy) (wy1 : 0 ≤ gy) (g1 : 1 ≤ gx) (ga : gx ≤ ax) (q1 : 1 ≤ q) (lo : q * gx ≤ ax) (hi : ax ≤ (q + 1) * gx)
    (a1 : p00' ≤ (q - 1) * p00 + p10) (a2 : p10' ≤ q * p00 + p10) (a3 : p00' ≤ p10' + p00) (a4 : p10' ≤ p00' + p00)
    (b1 : p01' ≤ (q - 1) * p01 + p11) (b2 : p11' ≤ q * p01 + p11) (b3 : p01' ≤ p11' + p01) (b4 : p11' ≤ p01' + p01) : J8 p00' p01' p10' p11' gx (ax - q * gx) ay gy S := by
  have nn : ∀ {x y : Int}, 0 ≤ x → 0 ≤ y → 0 ≤ x * (ay - gy) + y * gy := fun hx hy => by
    have := Int.mul_nonneg hx wy0
    have := Int.mul_nonneg hy wy1
    omega
  have mm : ∀ {x y z w : Int}, x ≤ z → y ≤ w → x * (ay - gy) + y * gy ≤ z * (ay - gy) + w * gy := fun h1 h2 => by
    have := Int.mul_le_mul_of_nonneg_right h1 wy0
    have := Int.mul_le_mul_of_nonneg_right h2 wy1
    omega
  have full : J2 (p00 * (ay - gy) + p01 * gy) (p10 * (ay - gy) + p11 * gy) ax gx S := ⟨h.full, h.y0, h.y1⟩
  have f := full.take (nn n00 n01) (nn n10 n11) (nn m00 m01) (nn m10 m11) g1 ga q1 lo hi
    (by have := mm a1 b1; have e : ((q - 1) * p00 + p10) * (ay - gy) + ((q - 1) * p01 + p11) * gy = (q - 1) * (p00 * (ay - gy) + p01 * gy) + (p10 * (ay - gy) + p11 * gy) := by grind
        omega)
    (by have := mm a2 b2; have e : (q * p00 + p10) * (ay - gy) + (q * p01 + p11) * gy = q * (p00 * (ay - gy) + p01 * gy) + (p10 * (ay - gy) + p11 * gy) := by grind
        omega)
    (by have := mm a3 b3; have e : (p10' + p00) * (ay - gy) + (p11' + p01) * gy = (p10' * (ay - gy) + p11' * gy) + (p00 * (ay - gy) + p01 * gy) := by grind
        omega)
    (by have := mm a4 b4; have e : (p00' + p00) * (ay - gy) + (p01' + p01) * gy = (p00' * (ay - gy) + p01' * gy) + (p00 * (ay - gy) + p01 * gy) := by grind
        omega)
  have t0 : J2 p00 p10 ax gx (2 * S) := ⟨h.x0, by have := h.c00; omega, by have := h.c10; omega⟩
  have t1 : J2 p01 p11 ax gx (3 * S) := ⟨h.x1, by have := h.c01; omega, by have := h.c11; omega⟩
  have f0 := t0.take n00 n10 m00 m10 g1 ga q1 lo hi a1 a2 a3 a4
  have f1 := t1.take n01 n11 m01 m11 g1 ga q1 lo hi b1 b2 b3 b4
  exact ⟨f.1, f.2.1, f.2.2, f0.1, f1.1, by have := f0.2.1; omega, by have := f1.2.1; omega, by have := f0.2.2; omega, by have := f1.2.2; omega⟩
theorem J8.less {p00 p01 p10 p11 ax gx ay gy S p00' p01' p10' p11' : Int} (h : J8 p00 p01 p10 p11 ax gx ay gy S) (wx0 : 0 ≤ ax - gx) (wx1 : 0 ≤ gx) (wy0 : 0 ≤ ay - gy) (wy1 : 0 ≤ gy) (a1 : p00' ≤ p00) (a2 : p01' ≤ p01) (a3 : p10' ≤ p10) (a4 : p11' ≤ p11) : J8 p00' p01' p10' p11' ax gx ay gy S := by
  have my : ∀ {x y z w : Int}, x ≤ z → y ≤ w → x * (ay - gy) + y * gy ≤ z * (ay - gy) + w * gy := fun h1 h2 => by
    have := Int.mul_le_mul_of_nonneg_right h1 wy0
    have := Int.mul_le_mul_of_nonneg_right h2 wy1
    omega
  have mx : ∀ {x y z w : Int}, x ≤ z → y ≤ w → x * (ax - gx) + y * gx ≤ z * (ax - gx) + w * gx := fun h1 h2 => by
    have := Int.mul_le_mul_of_nonneg_right h1 wx0
    have := Int.mul_le_mul_of_nonneg_right h2 wx1
    omega
  exact ⟨Int.le_trans (mx (my a1 a2) (my a3 a4)) h.full, Int.le_trans (my a1 a2) h.y0, Int.le_trans (my a3 a4) h.y1, Int.le_trans (mx a1 a3) h.x0, Int.le_trans (mx a2 a4) h.x1, Int.le_trans a1 h.c00, Int.le_trans a2 h.c01, Int.le_trans a3 h.c10, Int.le_trans a4 h.c11⟩
/-! ### nested boxes: what holds of them all along (leaves, rests and fours) -/
@[irreducible] def cap : Int := ((2 ^ (capE - 10) : Nat) : Int)
theorem cap_eq : cap = ((2 ^ (capE - 10) : Nat) : Int) := by unfold cap; rfl
theorem cap_fits {z : Int} (h : (z.natAbs : Int) ≤ cap) : fits z := by
  rw [cap_eq] at h
  exact fits_of (Nat.lt_of_le_of_lt (Int.ofNat_le.mp h) (Nat.pow_lt_pow_right (by decide) (show capE - 10 < capE by decide)))
/-- so many parts of a chain, or all of them -/
def tp : Nat → Chain → List Int
  | 0, _ => []
  | n + 1, c => if c.ended = true then [] else c.part :: tp n c.next
def NBd (M : Int) (v : Int × Int) : Prop := (v.1.natAbs : Int) ≤ M ∧ (v.2.natAbs : Int) ≤ M
def NTold (v : Int × Int) : Prop := 0 ≤ v.2 ∧ v.2 ≤ v.1 ∧ 1 ≤ v.1
def Sc (v v' : Int × Int) : Prop := ∃ k : Int, 1 ≤ k ∧ v.1 = k * v'.1 ∧ v.2 = k * v'.2
theorem Sc.refl (v : Int × Int) : Sc v v := ⟨1, Int.le_refl _, (Int.one_mul _).symm, (Int.one_mul _).symm⟩
theorem Sc.trans {u v w : Int × Int} (h : Sc u v) (h' : Sc v w) : Sc u w := by
  obtain ⟨k, k1, e1, e2⟩ := h
  obtain ⟨j, j1, f1, f2⟩ := h'
  refine ⟨k * j, ?_, by rw [e1, f1, Int.mul_assoc], by rw [e2, f2, Int.mul_assoc]⟩
  have := Int.mul_le_mul k1 j1 (by decide) (by omega)
  omega
def restI (s told : Bool) (t b : Int) (v : Int × Int) (M : Int) : Prop := told = s ∧ (t.natAbs : Int) ≤ cap ∧ (b.natAbs : Int) ≤ cap ∧ (s = false → NBd M (t, b)) ∧ (s = true → NTold v ∧ NBd M v ∧ ((b = 0 ∧ v.2 = 0) ∨ ∃ k : Int, k ≠ 0 ∧ t = k * v.1 ∧ b = k * v.2))
/-- what an asking leaves, given what holds -/
def OutI (I : Box → Bool → Int × Int → Int → Prop) (o : Option Ans) (B' : Box) (s : Bool) (v : Int × Int) (M : Int) : Prop :=
  (o = none → s = false ∧ ∃ v', I B' false v' M) ∧
  (o = some .waits → ∃ v', I B' s v' M ∧ (s = true → Sc v v')) ∧
  (o = some .fin → s = true ∧ v.2 = 0 ∧ ∃ v', I B' true v' M ∧ Sc v v') ∧
  (∀ q, o = some (.part q) → ∃ w v', NBd M w ∧ 0 < w.2 ∧ q * w.2 ≤ w.1 ∧ w.1 ≤ (q + 1) * w.2 ∧ I B' true v' M ∧ Sc (w.2, w.1 - q * w.2) v' ∧ (s = true → w = v ∧ 1 ≤ q))
theorem fdiv_k {k x y : Int} (hk : k ≠ 0) : (k * x).fdiv (k * y) = x.fdiv y := by
  rw [Int.mul_comm k x, Int.mul_comm k y]
  rcases Int.lt_or_gt_of_ne hk with h | h
  · have z := Int.mul_fdiv_mul_of_pos_left x y (b := -k) (by omega)
    rw [Int.mul_neg, Int.mul_neg, fdiv_negs] at z
    exact z
  · exact Int.mul_fdiv_mul_of_pos_left x y h
/-- the digit, and what is left -/
theorem digit {w : Int × Int} {q M : Int} (hw : 0 < w.2) (lo : q * w.2 ≤ w.1) (hi : w.1 ≤ (q + 1) * w.2) (hM : NBd M w) : NTold (w.2, w.1 - q * w.2) ∧ NBd M (w.2, w.1 - q * w.2) := by
  have e : (q + 1) * w.2 = q * w.2 + w.2 := by grind
  have m2 := hM.2
  refine ⟨⟨by show 0 ≤ w.1 - q * w.2; omega, by show w.1 - q * w.2 ≤ w.2; omega, by show 1 ≤ w.2; omega⟩, m2, ?_⟩
  show ((w.1 - q * w.2).natAbs : Int) ≤ M
  omega
theorem rest_out {s told : Bool} {t b : Int} {v : Int × Int} {M : Int} (h : restI s told t b v M) : ∃ r, fbAsk t b told = some r ∧ OutI (fun B' s v M => ∃ t b told, B' = .fb t b told ∧ restI s told t b v M) r.1 (.fb r.2.1 r.2.2.1 r.2.2.2) s v M := by
  obtain ⟨rfl, ct, cb, h0, h1⟩ := h
  unfold fbAsk
  rw [if_pos ⟨cap_fits ct, cap_fits cb⟩]
  by_cases hb : b = 0
  · subst hb
    rw [if_pos rfl]
    cases told with
    | true =>
      rw [if_pos rfl]
      refine ⟨_, rfl, fun z => (by cases z), fun z => (by cases z), fun _ => ⟨rfl, ?_, v, ⟨t, 0, true, rfl, rfl, ct, cb, h0, h1⟩, Sc.refl v⟩, fun q z => (by cases z)⟩
      obtain ⟨_, _, ⟨_, e⟩ | ⟨k, hk, _, e⟩⟩ := h1 rfl
      · exact e
      · exact (Int.mul_eq_zero.mp e.symm).resolve_left hk
    | false =>
      rw [if_neg (by decide)]
      exact ⟨_, rfl, fun _ => ⟨rfl, v, t, 0, false, rfl, rfl, ct, cb, h0, h1⟩, fun z => (by cases z), fun z => (by cases z), fun q z => (by cases z)⟩
  · rw [if_neg hb]
    refine ⟨_, rfl, fun z => (by cases z), fun z => (by cases z), fun z => (by cases z), fun q z => ?_⟩
    cases z
    -- the worth w, (t, b) = k w
    obtain ⟨w, k, hk, e1, e2, w2, bw, ws⟩ : ∃ (w : Int × Int) (k : Int), k ≠ 0 ∧ t = k * w.1 ∧ b = k * w.2 ∧ 0 < w.2 ∧ NBd M w ∧ (told = true → w = v) := by
      cases told with
      | true =>
        obtain ⟨ht, bv, ⟨z, _⟩ | ⟨k, hk, e1, e2⟩⟩ := h1 rfl
        · exact absurd z hb
        refine ⟨v, k, hk, e1, e2, ?_, bv, fun _ => rfl⟩
        have := ht.1
        rcases Int.lt_or_eq_of_le this with z | z
        · exact z
        · rw [← z, Int.mul_zero] at e2
          exact absurd e2 hb
      | false =>
        have b0 := h0 rfl
        have b1 : (t.natAbs : Int) ≤ M := b0.1
        have b2 : (b.natAbs : Int) ≤ M := b0.2
        rcases Int.lt_or_gt_of_ne hb with z | z
        · exact ⟨(-t, -b), -1, by decide, by show t = -1 * -t; omega, by show b = -1 * -b; omega, by show 0 < -b; omega, ⟨by show ((-t).natAbs : Int) ≤ M; omega, by show ((-b).natAbs : Int) ≤ M; omega⟩, fun y => (by cases y)⟩
        · exact ⟨(t, b), 1, by decide, (Int.one_mul _).symm, (Int.one_mul _).symm, z, b0, fun y => (by cases y)⟩
    have eq : t.fdiv b = w.1.fdiv w.2 := by rw [e1, e2, fdiv_k hk]
    obtain ⟨lo, hi⟩ := fdiv_bounds (a := w.1) w2
    rw [← eq] at lo hi
    have hi := Int.le_of_lt hi
    obtain ⟨d1, d2⟩ := digit w2 lo hi bw
    refine ⟨w, (w.2, w.1 - t.fdiv b * w.2), bw, w2, lo, hi, ⟨b, t - t.fdiv b * b, true, rfl, rfl, cb, ?_, fun y => (by cases y), fun _ => ⟨d1, d2, .inr ⟨k, hk, e2, ?_⟩⟩⟩, Sc.refl _, fun y => ⟨ws y, ?_⟩⟩
    · have : ((t - t.fdiv b * b).natAbs : Int) ≤ (b.natAbs : Int) := by
        rw [fmod_eq]
        have := fmod_abs (a := t) hb
        omega
      omega
    · show t - t.fdiv b * b = k * (w.1 - t.fdiv b * w.2)
      generalize t.fdiv b = q at *
      rw [e1, e2]
      grind
    · have nt := (h1 y).1
      rw [← ws y] at nt
      have n1 := nt.2.1
      rcases Int.lt_or_le 0 (t.fdiv b) with z | z
      · omega
      · exfalso
        have hi2 := (fdiv_bounds (a := w.1) w2).2
        rw [← eq] at hi2
        have := Int.mul_le_mul_of_nonneg_right (show t.fdiv b + 1 ≤ 1 by omega) (Int.le_of_lt w2)
        omega
theorem fold_le {r : List Int} (h : ∀ p ∈ r, 1 ≤ p) : NTold (fold r) := by
  obtain ⟨h1, h2, _⟩ := fold_pos r h
  refine ⟨h2, ?_, h1⟩
  cases r with
  | nil => show (0 : Int) ≤ 1; decide
  | cons p r =>
    obtain ⟨g1, g2, _⟩ := fold_pos r fun q hq => h q (List.mem_cons_of_mem _ hq)
    have hp := h p List.mem_cons_self
    show (fold r).1 ≤ p * (fold r).1 + (fold r).2
    have := Int.mul_le_mul_of_nonneg_right hp (show 0 ≤ (fold r).1 by omega)
    omega
def leafI (l : Int) (c : Chain) (s : Bool) (v : Int × Int) (M : Int) : Prop := ∃ T : Nat, l ≤ T ∧ NBd M (fold (tp T c)) ∧ (∀ p ∈ (tp T c).tail, 1 ≤ p) ∧ (s = true → v = fold (tp T c) ∧ ∀ p ∈ tp T c, 1 ≤ p) ∧ (s = false → c.ended = false)
/-- a four's numbers beside its child's value u -/
def fourI (a b c d : Int) (st s : Bool) (u v : Int × Int) (Mx m S M : Int) : Prop := 0 ≤ m ∧ 1 ≤ Mx ∧ Mx + 2 ≤ cap ∧ 4 * (m * Mx) ≤ S ∧ S ≤ M ∧ 8 * S ≤ cap ∧
  (st = false → s = false ∧ (a.natAbs : Int) ≤ m ∧ (b.natAbs : Int) ≤ m ∧ (c.natAbs : Int) ≤ m ∧ (d.natAbs : Int) ≤ m) ∧
  (st = true → J2 (a.natAbs : Int) ((a + b).natAbs : Int) u.1 u.2 S ∧ J2 (c.natAbs : Int) ((c + d).natAbs : Int) u.1 u.2 S) ∧
  (s = true → st = true ∧ NTold v ∧ ∃ e : Int, (e = 1 ∨ e = -1) ∧ v = (e * (a * u.1 + b * u.2), e * (c * u.1 + d * u.2)) ∧ (0 ≤ e * c ∧ e * c ≤ e * a) ∧ (0 ≤ e * (c + d) ∧ e * (c + d) ≤ e * (a + b)))
theorem J2.val {a b α γ S : Int} (h : J2 (a.natAbs : Int) ((a + b).natAbs : Int) α γ S) (g0 : 0 ≤ γ) (ga : γ ≤ α) : ((a * α + b * γ).natAbs : Int) ≤ S := by
  have e : a * α + b * γ = a * (α - γ) + (a + b) * γ := by grind
  have n1 : ((a * (α - γ)).natAbs : Int) = (a.natAbs : Int) * (α - γ) := by rw [Int.natAbs_mul, Int.natCast_mul, Int.natAbs_of_nonneg (show 0 ≤ α - γ by omega)]
  have n2 : (((a + b) * γ).natAbs : Int) = ((a + b).natAbs : Int) * γ := by rw [Int.natAbs_mul, Int.natCast_mul, Int.natAbs_of_nonneg g0]
  have := h.1
  rw [e]
  omega
theorem OutI.map {I I' : Box → Bool → Int × Int → Int → Prop} {o : Option Ans} {B' B2 : Box} {s : Bool} {v : Int × Int} {M : Int} (h : OutI I o B' s v M) (f : ∀ s v M, I B' s v M → I' B2 s v M) : OutI I' o B2 s v M := by
  obtain ⟨h1, h2, h3, h4⟩ := h
  refine ⟨fun z => ?_, fun z => ?_, fun z => ?_, fun q z => ?_⟩
  · obtain ⟨a, v', b⟩ := h1 z
    exact ⟨a, v', f _ _ _ b⟩
  · obtain ⟨v', b, c⟩ := h2 z
    exact ⟨v', f _ _ _ b, c⟩
  · obtain ⟨a, b, v', c, d⟩ := h3 z
    exact ⟨a, b, v', f _ _ _ c, d⟩
  · obtain ⟨w, v', a, b, c, d, e, g⟩ := h4 q z
    exact ⟨w, v', a, b, c, d, f _ _ _ e, g⟩
theorem OutI.scale {I : Box → Bool → Int × Int → Int → Prop} {o : Option Ans} {B' : Box} {s : Bool} {v v1 : Int × Int} {M : Int} (h : OutI I o B' s v1 M) (hs : s = true → Sc v v1 ∧ NBd M v) : OutI I o B' s v M := by
  obtain ⟨h1, h2, h3, h4⟩ := h
  refine ⟨h1, fun z => ?_, fun z => ?_, fun q z => ?_⟩
  · obtain ⟨v', b, c⟩ := h2 z
    exact ⟨v', b, fun y => (hs y).1.trans (c y)⟩
  · obtain ⟨a, b, v', c, d⟩ := h3 z
    have sc := (hs a).1
    refine ⟨a, ?_, v', c, sc.trans d⟩
    obtain ⟨k, _, _, e2⟩ := sc
    rw [e2, b, Int.mul_zero]
  · obtain ⟨w, v', a, b, c, d, e, g, y⟩ := h4 q z
    cases s with
    | false => exact ⟨w, v', a, b, c, d, e, g, fun z => (by cases z)⟩
    | true =>
      obtain ⟨sc, bv⟩ := hs rfl
      obtain ⟨rfl, q1⟩ := y rfl
      obtain ⟨k, k1, e1, e2⟩ := id sc
      refine ⟨v, v', bv, ?_, ?_, ?_, e, Sc.trans ⟨k, k1, e2, ?_⟩ g, fun _ => ⟨rfl, q1⟩⟩
      · rw [e2]; exact Int.mul_pos (by omega) b
      · rw [e1, e2]
        have := Int.mul_le_mul_of_nonneg_left c (show 0 ≤ k by omega)
        have e3 : q * (k * w.2) = k * (q * w.2) := by grind
        omega
      · rw [e1, e2]
        have := Int.mul_le_mul_of_nonneg_left d (show 0 ≤ k by omega)
        have e3 : (q + 1) * (k * w.2) = k * ((q + 1) * w.2) := by grind
        omega
      · show v.1 - q * v.2 = k * (w.1 - q * w.2)
        rw [e1, e2]
        grind
theorem NTold.scale {v v' : Int × Int} (h : NTold v) (sc : Sc v v') : NTold v' := by
  obtain ⟨h1, h2, h3⟩ := h
  obtain ⟨k, k1, e1, e2⟩ := sc
  have pos : ∀ {z : Int}, 0 ≤ k * z → 0 ≤ z := fun {z} hz => by
    rcases Int.lt_or_le z 0 with y | y
    · have := Int.mul_neg_of_pos_of_neg (show 0 < k by omega) y
      omega
    · exact y
  have e3 : k * (v'.1 - v'.2) = v.1 - v.2 := by rw [e1, e2]; grind
  have z1 := pos (z := v'.2) (by omega)
  have z2 := pos (z := v'.1 - v'.2) (by omega)
  refine ⟨z1, by omega, ?_⟩
  rcases Int.lt_or_le 0 v'.1 with y | y
  · omega
  · have := Int.mul_nonpos_of_nonneg_of_nonpos (show 0 ≤ k by omega) y
    omega
theorem NBd.scale {v v' : Int × Int} {M : Int} (h : NBd M v) (sc : Sc v v') : NBd M v' := by
  obtain ⟨k, k1, e1, e2⟩ := sc
  have key : ∀ {x y : Int}, x = k * y → (y.natAbs : Int) ≤ (x.natAbs : Int) := fun {x y} e => by
    rw [e, Int.natAbs_mul, Int.natCast_mul]
    have := Int.mul_le_mul_of_nonneg_right (show 1 ≤ (k.natAbs : Int) by omega) (show 0 ≤ (y.natAbs : Int) by omega)
    omega
  exact ⟨Int.le_trans (key e1) h.1, Int.le_trans (key e2) h.2⟩
theorem leaf_out {l D : Int} (hD : 0 ≤ D) {c : Chain} {s : Bool} {v : Int × Int} {M : Int} (h : leafI (l + D) c s v M) : OutI (fun B' s v M => ∃ c', B' = .leaf c' ∧ leafI (l - c.took l + D) c' s v M) (some (c.ans l)) (.leaf (c.then_ l)) s v M := by
  obtain ⟨T, hT, bd, tl, hs, h0⟩ := h
  rcases c.leaf_cases l with ⟨he, e1, e2, e3⟩ | ⟨he, hl, e1, e2, e3⟩ | ⟨he, hl, e1, e2, e3⟩
  · rw [e1, e2, e3, Int.sub_zero]
    have st : s = true := by
      cases s with
      | true => rfl
      | false => rw [h0 rfl] at he; cases he
    refine ⟨fun z => (by cases z), fun z => (by cases z), fun _ => ⟨st, ?_, v, ⟨c, rfl, T, hT, bd, tl, fun _ => hs st, fun z => (by cases z)⟩, Sc.refl v⟩, fun q z => (by cases z)⟩
    rw [(hs st).1]
    have : tp T c = [] := by
      cases T with
      | zero => rfl
      | succ n => exact if_pos he
    rw [this]
    rfl
  · rw [e1, e2, e3, Int.sub_zero]
    exact ⟨fun z => (by cases z), fun _ => ⟨v, ⟨c, rfl, T, hT, bd, tl, hs, h0⟩, fun _ => Sc.refl v⟩, fun z => (by cases z), fun q z => (by cases z)⟩
  · rw [e1, e2, e3]
    obtain ⟨n, rfl⟩ : ∃ n, T = n + 1 := ⟨T - 1, by omega⟩
    have et : tp (n + 1) c = c.part :: tp n c.next := if_neg (by rw [he]; decide)
    rw [et] at bd tl hs
    have tl : ∀ p ∈ tp n c.next, 1 ≤ p := tl
    have nt := fold_le tl
    have bd : NBd M (c.part * (fold (tp n c.next)).1 + (fold (tp n c.next)).2, (fold (tp n c.next)).1) := bd
    have hs : s = true → v = (c.part * (fold (tp n c.next)).1 + (fold (tp n c.next)).2, (fold (tp n c.next)).1) ∧ ∀ p ∈ c.part :: tp n c.next, 1 ≤ p := hs
    refine ⟨fun z => (by cases z), fun z => (by cases z), fun z => (by cases z), fun q z => ?_⟩
    cases z
    generalize hx : fold (tp n c.next) = x at *
    obtain ⟨n1, n2, n3⟩ := nt
    have ex : (c.part + 1) * x.1 = c.part * x.1 + x.1 := by grind
    refine ⟨(c.part * x.1 + x.2, x.1), x, bd, by show 0 < x.1; omega, by show c.part * x.1 ≤ c.part * x.1 + x.2; omega, by show c.part * x.1 + x.2 ≤ (c.part + 1) * x.1; omega, ⟨c.next, rfl, n, by omega, ?_, fun p hp => tl p (List.mem_of_mem_tail hp), fun _ => ⟨hx.symm, tl⟩, fun z => (by cases z)⟩, ?_, fun y => ⟨(hs y).1.symm, (hs y).2 _ List.mem_cons_self⟩⟩
    · rw [hx]
      exact ⟨by have := bd.2; exact this, by have := bd.2; have b2 : ((x.1).natAbs : Int) ≤ M := this; omega⟩
    · refine ⟨1, Int.le_refl _, (Int.one_mul _).symm, ?_⟩
      show c.part * x.1 + x.2 - c.part * x.1 = 1 * x.2
      omega
/-! ### nested boxes: what holds all along, and that every asking ends (fours) -/
/-- an eight's numbers beside its children's values -/
def eightI (a b c d e f g h i j : Int) (s : Bool) (u y v : Int × Int) (Mx My m S1 S M : Int) : Prop := 0 ≤ m ∧ 1 ≤ Mx ∧ Mx + 2 ≤ cap ∧ 1 ≤ My ∧ My + 2 ≤ cap ∧ 4 * (m * Mx) ≤ S1 ∧ 4 * (S1 * My) ≤ S ∧ 16 * S ≤ M ∧ 64 * S ≤ cap ∧ 0 ≤ j ∧ (i = j ∨ i = j + 1) ∧
  (i = 0 → s = false ∧ ∀ z ∈ [a, b, c, d, e, f, g, h], (z.natAbs : Int) ≤ m) ∧
  (1 ≤ i → j = 0 → s = false ∧ J2 (a.natAbs : Int) ((a + c).natAbs : Int) u.1 u.2 S1 ∧ J2 (b.natAbs : Int) ((b + d).natAbs : Int) u.1 u.2 S1 ∧ J2 (e.natAbs : Int) ((e + g).natAbs : Int) u.1 u.2 S1 ∧ J2 (f.natAbs : Int) ((f + h).natAbs : Int) u.1 u.2 S1) ∧
  (1 ≤ j → J8 (a.natAbs : Int) ((a + b).natAbs : Int) ((a + c).natAbs : Int) ((a + b + c + d).natAbs : Int) u.1 u.2 y.1 y.2 S ∧ J8 (e.natAbs : Int) ((e + f).natAbs : Int) ((e + g).natAbs : Int) ((e + f + g + h).natAbs : Int) u.1 u.2 y.1 y.2 S) ∧
  (s = true → 1 ≤ j ∧ NTold v ∧ ∃ k : Int, (k = 1 ∨ k = -1) ∧ v = (k * (a * u.1 * y.1 + b * u.1 * y.2 + c * u.2 * y.1 + d * u.2 * y.2), k * (e * u.1 * y.1 + f * u.1 * y.2 + g * u.2 * y.1 + h * u.2 * y.2)) ∧
    (0 ≤ k * e ∧ k * e ≤ k * a) ∧ (0 ≤ k * (e + f) ∧ k * (e + f) ≤ k * (a + b)) ∧ (0 ≤ k * (e + g) ∧ k * (e + g) ≤ k * (a + c)) ∧ (0 ≤ k * (e + f + g + h) ∧ k * (e + f + g + h) ≤ k * (a + b + c + d)))
def Inv (l : Int) : Box → Bool → Int × Int → Int → Prop
  | .leaf c, s, v, M => leafI l c s v M
  | .fb t b told, s, v, M => restI s told t b v M
  | .fourR t b told, s, v, M => restI s told t b v M
  | .four ns st told x, s, v, M => told = s ∧ ∃ (a b c d : Int) (u : Int × Int) (Mx m S : Int), ns = [a, b, c, d] ∧ Inv l x st u Mx ∧ fourI a b c d st s u v Mx m S M
  | .eight ns i j told x y, s, v, M => told = s ∧ ∃ (a b c d e f g h : Int) (u w : Int × Int) (Mx My m S1 S : Int), ns = [a, b, c, d, e, f, g, h] ∧ Inv l x (decide (0 < i)) u Mx ∧ Inv l y (decide (0 < j)) w My ∧ eightI a b c d e f g h i j s u w v Mx My m S1 S M
  | .eightR r, s, v, M => Inv l r s v M
theorem Inv.mono {l l' : Int} (hl : l' ≤ l) : ∀ {B : Box} {s : Bool} {v : Int × Int} {M : Int}, Inv l B s v M → Inv l' B s v M
  | .leaf _, _, _, _, ⟨T, h, r⟩ => ⟨T, Int.le_trans hl h, r⟩
  | .fb _ _ _, _, _, _, h => h
  | .fourR _ _ _, _, _, _, h => h
  | .four _ _ _ _, _, _, _, ⟨h, a, b, c, d, u, Mx, m, S, e, hx, r⟩ => ⟨h, a, b, c, d, u, Mx, m, S, e, Inv.mono hl hx, r⟩
  | .eight _ _ _ _ _ _, _, _, _, ⟨h, a, b, c, d, e, f, g, k, u, w, Mx, My, m, S1, S, z, hx, hy, r⟩ => ⟨h, a, b, c, d, e, f, g, k, u, w, Mx, My, m, S1, S, z, Inv.mono hl hx, Inv.mono hl hy, r⟩
  | .eightR r, s, v, M, h => Inv.mono (B := r) hl h
theorem four_val {a b c d : Int} {s : Bool} {u v : Int × Int} {Mx m S M : Int} (h : fourI a b c d true s u v Mx m S M) (hu : NTold u) (e : Int) (he : e = 1 ∨ e = -1) : NBd M (e * (a * u.1 + b * u.2), e * (c * u.1 + d * u.2)) := by
  obtain ⟨_, _, _, _, hS, _, _, hJ, _⟩ := h
  have j1 := (hJ rfl).1.val hu.1 hu.2.1
  have j2 := (hJ rfl).2.val hu.1 hu.2.1
  rcases he with rfl | rfl
  · exact ⟨by show ((1 * (a * u.1 + b * u.2)).natAbs : Int) ≤ M; omega, by show ((1 * (c * u.1 + d * u.2)).natAbs : Int) ≤ M; omega⟩
  · exact ⟨by show ((-1 * (a * u.1 + b * u.2)).natAbs : Int) ≤ M; omega, by show ((-1 * (c * u.1 + d * u.2)).natAbs : Int) ≤ M; omega⟩
/-- every asking of a box up to n heavy ends well -/
def Tot (D : Int) (n : Nat) : Prop := ∀ (x : Box) (l : Int) (s : Bool) (v : Int × Int) (M : Int), x.wt ≤ n → x.Ok → 0 ≤ l → Inv (l + D) x s v M → (s = true → NTold v ∧ NBd M v) → ∃ o x' l', Asks x l o x' l' ∧ OutI (Inv (l' + D)) o x' s v M
theorem rest_tot {l D : Int} {s told : Bool} {t b : Int} {v : Int × Int} {M : Int} (h : restI s told t b v M) : ∃ o B' l', Asks (.fourR t b told) l o B' l' ∧ OutI (Inv (l' + D)) o B' s v M := by
  obtain ⟨r, e, o⟩ := rest_out h
  exact ⟨_, _, _, .fourR e, o.map fun s v M ⟨t, b, told, e, h⟩ => by cases e; exact h⟩
theorem four_fit {a b c d S : Int} (h1 : (a.natAbs : Int) ≤ 2 * S) (h2 : ((a + b).natAbs : Int) ≤ 3 * S) (h3 : (c.natAbs : Int) ≤ 2 * S) (h4 : ((c + d).natAbs : Int) ≤ 3 * S) (hS : 8 * S ≤ cap) : allFit [a, b, c, d] (fourCorners [a, b, c, d]) = true := by
  have f : ∀ {z : Int}, (z.natAbs : Int) ≤ 5 * S → decide (fits z) = true := fun {z} hz => decide_eq_true (cap_fits (by omega))
  show ([a, b, c, d].all (fun z => decide (fits z)) && [(a, c), (a + b, c + d)].all fun c => decide (fits c.1) && decide (fits c.2)) = true
  simp only [List.all_cons, List.all_nil, f (z := a) (by omega), f (z := b) (by omega), f (z := c) (by omega), f (z := d) (by omega), f (z := a + b) (by omega), f (z := c + d) (by omega), Bool.and_self]
/-- the sure part of two corners, at any place between -/
theorem four_sure {a b c d q : Int} {u : Int × Int} (hs : surePart (fourCorners [a, b, c, d]) = some q) (hu : NTold u) : ∃ e : Int, (e = 1 ∨ e = -1) ∧ 0 < e * c ∧ 0 < e * (c + d) ∧ q * (e * c) ≤ e * a ∧ e * a < (q + 1) * (e * c) ∧ q * (e * (c + d)) ≤ e * (a + b) ∧ e * (a + b) ≤ (q + 1) * (e * (c + d)) ∧
    0 < e * (c * u.1 + d * u.2) ∧ q * (e * (c * u.1 + d * u.2)) ≤ e * (a * u.1 + b * u.2) ∧ e * (a * u.1 + b * u.2) ≤ (q + 1) * (e * (c * u.1 + d * u.2)) := by
  have hs := (sure_iff (cs := fourCorners [a, b, c, d]) (by exact List.cons_ne_nil _ _)).mp hs
  obtain ⟨e, he, h1, h2, h3, h4, h5, h6⟩ : ∃ e : Int, (e = 1 ∨ e = -1) ∧ 0 < e * c ∧ 0 < e * (c + d) ∧ q * (e * c) ≤ e * a ∧ e * a < (q + 1) * (e * c) ∧ q * (e * (c + d)) ≤ e * (a + b) ∧ e * (a + b) ≤ (q + 1) * (e * (c + d)) := by
    have key : ∀ {x y z w : Int}, Lies [(x, z), (x + y, z + w)] q → 0 < z ∧ 0 < z + w ∧ q * z ≤ x ∧ x < (q + 1) * z ∧ q * (z + w) ≤ x + y ∧ x + y ≤ (q + 1) * (z + w) := fun {x y z w} L => by
      obtain ⟨L1, L2⟩ := L
      have p1 := L1 (x, z) (by simp)
      have p2 := L1 (x + y, z + w) (by simp)
      have p3 := L2 (x, z) rfl
      exact ⟨p1.1, p2.1, p1.2.1, p3, p2.2.1, p2.2.2⟩
    rcases hs with L | L
    · obtain ⟨k1, k2, k3, k4, k5, k6⟩ := key (x := a) (y := b) (z := c) (w := d) L
      refine ⟨1, .inl rfl, ?_⟩
      rw [Int.one_mul, Int.one_mul, Int.one_mul, Int.one_mul]
      exact ⟨k1, k2, k3, k4, k5, k6⟩
    · have L : Lies [(-a, -c), (-(a + b), -(c + d))] q := L
      rw [show -(a + b) = -a + -b by omega, show -(c + d) = -c + -d by omega] at L
      obtain ⟨k1, k2, k3, k4, k5, k6⟩ := key L
      refine ⟨-1, .inr rfl, ?_⟩
      rw [show -1 * c = -c by omega, show -1 * (c + d) = -c + -d by omega, show -1 * a = -a by omega, show -1 * (a + b) = -a + -b by omega]
      exact ⟨k1, k2, k3, k4, k5, k6⟩
  refine ⟨e, he, h1, h2, h3, h4, h5, h6, ?_⟩
  obtain ⟨u0, u1, u2⟩ := hu
  have w0 : 0 ≤ u.1 - u.2 := by omega
  have ec : e * (c * u.1 + d * u.2) = (e * c) * (u.1 - u.2) + (e * (c + d)) * u.2 := by grind
  have ea : e * (a * u.1 + b * u.2) = (e * a) * (u.1 - u.2) + (e * (a + b)) * u.2 := by grind
  rw [ec, ea]
  have m1 := Int.mul_le_mul_of_nonneg_right h3 w0
  have m2 := Int.mul_le_mul_of_nonneg_right (Int.le_of_lt h4) w0
  have m3 := Int.mul_le_mul_of_nonneg_right h5 u0
  have m4 := Int.mul_le_mul_of_nonneg_right h6 u0
  have e1 : q * ((e * c) * (u.1 - u.2) + (e * (c + d)) * u.2) = q * (e * c) * (u.1 - u.2) + q * (e * (c + d)) * u.2 := by grind
  have e2 : (q + 1) * ((e * c) * (u.1 - u.2) + (e * (c + d)) * u.2) = (q + 1) * (e * c) * (u.1 - u.2) + (q + 1) * (e * (c + d)) * u.2 := by grind
  refine ⟨?_, by omega, by omega⟩
  have n1 := Int.mul_nonneg (Int.le_of_lt h1) w0
  have n2 := Int.mul_nonneg (Int.le_of_lt h2) u0
  rcases Int.lt_or_le 0 u.2 with z | z
  · have := Int.mul_pos h2 z
    omega
  · have := Int.mul_pos h1 (show 0 < u.1 - u.2 by omega)
    omega
/-! ### nested boxes: every asking of a four ends -/
theorem abs_mul_nn {x y : Int} (hy : 0 ≤ y) : ((x * y).natAbs : Int) = (x.natAbs : Int) * y := by rw [Int.natAbs_mul, Int.natCast_mul, Int.natAbs_of_nonneg hy]
theorem J8.val {a b c d S : Int} {u y : Int × Int} (h : J8 (a.natAbs : Int) ((a + b).natAbs : Int) ((a + c).natAbs : Int) ((a + b + c + d).natAbs : Int) u.1 u.2 y.1 y.2 S) (hu : NTold u) (hy : NTold y) : ((a * u.1 * y.1 + b * u.1 * y.2 + c * u.2 * y.1 + d * u.2 * y.2).natAbs : Int) ≤ S := by
  have e : a * u.1 * y.1 + b * u.1 * y.2 + c * u.2 * y.1 + d * u.2 * y.2 = (a * (y.1 - y.2) + (a + b) * y.2) * (u.1 - u.2) + ((a + c) * (y.1 - y.2) + (a + b + c + d) * y.2) * u.2 := by grind
  obtain ⟨u0, u1, _⟩ := hu
  obtain ⟨y0, y1, _⟩ := hy
  have n1 := abs_mul_nn (x := a) (y := y.1 - y.2) (by omega)
  have n2 := abs_mul_nn (x := a + b) (y := y.2) y0
  have n3 := abs_mul_nn (x := a + c) (y := y.1 - y.2) (by omega)
  have n4 := abs_mul_nn (x := a + b + c + d) (y := y.2) y0
  have n5 := abs_mul_nn (x := a * (y.1 - y.2) + (a + b) * y.2) (y := u.1 - u.2) (by omega)
  have n6 := abs_mul_nn (x := (a + c) * (y.1 - y.2) + (a + b + c + d) * y.2) (y := u.2) u0
  have m1 := Int.mul_le_mul_of_nonneg_right (show ((a * (y.1 - y.2) + (a + b) * y.2).natAbs : Int) ≤ (a.natAbs : Int) * (y.1 - y.2) + ((a + b).natAbs : Int) * y.2 by omega) (show 0 ≤ u.1 - u.2 by omega)
  have m2 := Int.mul_le_mul_of_nonneg_right (show (((a + c) * (y.1 - y.2) + (a + b + c + d) * y.2).natAbs : Int) ≤ ((a + c).natAbs : Int) * (y.1 - y.2) + ((a + b + c + d).natAbs : Int) * y.2 by omega) u0
  have := h.full
  rw [e]
  omega
theorem Inv.told {l : Int} : ∀ {B : Box} {v : Int × Int} {M : Int}, Inv l B true v M → NTold v ∧ NBd M v
  | .leaf _, v, M, ⟨T, _, bd, _, hs, _⟩ => by
    obtain ⟨rfl, h⟩ := hs rfl
    exact ⟨fold_le h, bd⟩
  | .fb _ _ _, _, _, ⟨_, _, _, _, h⟩ => ⟨(h rfl).1, (h rfl).2.1⟩
  | .fourR _ _ _, _, _, ⟨_, _, _, _, h⟩ => ⟨(h rfl).1, (h rfl).2.1⟩
  | .four ns st told x, v, M, ⟨_, a, b, c, d, u, Mx, m, S, _, hx, h⟩ => by
    obtain ⟨rfl, nt, e, he, hv, _⟩ := h.2.2.2.2.2.2.2.2 rfl
    have hu := (Inv.told hx).1
    refine ⟨nt, ?_⟩
    rw [hv]
    exact four_val h hu e he
  | .eight ns i j told x y, v, M, ⟨_, a, b, c, d, e, f, g, h, u, w, Mx, My, m, S1, S, _, hx, hy, I⟩ => by
    obtain ⟨_, _, _, _, _, _, hS0, hM, _, hj, hij, _, _, hJ, hv⟩ := I
    obtain ⟨j1, nt, k, hk, ev, _⟩ := hv rfl
    rw [decide_eq_true (show 0 < i by omega)] at hx
    rw [decide_eq_true (show 0 < j by omega)] at hy
    have t1 := (hJ j1).1.val (Inv.told hx).1 (Inv.told hy).1
    have t2 := (hJ j1).2.val (Inv.told hx).1 (Inv.told hy).1
    refine ⟨nt, ?_⟩
    rw [ev]
    generalize a * u.1 * w.1 + b * u.1 * w.2 + c * u.2 * w.1 + d * u.2 * w.2 = z1 at *
    generalize e * u.1 * w.1 + f * u.1 * w.2 + g * u.2 * w.1 + h * u.2 * w.2 = z2 at *
    rcases hk with rfl | rfl
    · exact ⟨by show ((1 * z1).natAbs : Int) ≤ M; omega, by show ((1 * z2).natAbs : Int) ≤ M; omega⟩
    · exact ⟨by show ((-1 * z1).natAbs : Int) ≤ M; omega, by show ((-1 * z2).natAbs : Int) ≤ M; omega⟩
  | .eightR r, v, M, h => Inv.told (B := r) h
/-- the child's value told by lesser numbers -/
theorem fourI.scale {a b c d : Int} {s : Bool} {u u' v : Int × Int} {Mx m S M : Int} (h : fourI a b c d true s u v Mx m S M) (hu' : NTold u') (sc : Sc u u') : ∃ v', fourI a b c d true s u' v' Mx m S M ∧ (s = true → Sc v v') := by
  obtain ⟨h1, h2, h3, h4, h5, h6, h7, hJ, hv⟩ := h
  obtain ⟨k, k1, e1, e2⟩ := id sc
  have J := hJ rfl
  have J' : true = true → J2 (a.natAbs : Int) ((a + b).natAbs : Int) u'.1 u'.2 S ∧ J2 (c.natAbs : Int) ((c + d).natAbs : Int) u'.1 u'.2 S := fun _ => ⟨J.1.scale (by omega) (by omega) k1 e1 e2 hu'.1 hu'.2.1, J.2.scale (by omega) (by omega) k1 e1 e2 hu'.1 hu'.2.1⟩
  cases s with
  | false => exact ⟨v, ⟨h1, h2, h3, h4, h5, h6, h7, J', fun z => (by cases z)⟩, fun z => (by cases z)⟩
  | true =>
    obtain ⟨_, nt, e, he, ev, c1, c2⟩ := hv rfl
    have sv : Sc v (e * (a * u'.1 + b * u'.2), e * (c * u'.1 + d * u'.2)) := by
      refine ⟨k, k1, ?_, ?_⟩
      · rw [ev]
        show e * (a * u.1 + b * u.2) = k * (e * (a * u'.1 + b * u'.2))
        rw [e1, e2]; grind
      · rw [ev]
        show e * (c * u.1 + d * u.2) = k * (e * (c * u'.1 + d * u'.2))
        rw [e1, e2]; grind
    exact ⟨_, ⟨h1, h2, h3, h4, h5, h6, h7, J', fun _ => ⟨rfl, nt.scale sv, e, he, rfl, c1, c2⟩⟩, fun _ => sv⟩
/-- a part taken that is not the first -/
theorem fourI.take {a b c d q : Int} {s : Bool} {u v : Int × Int} {Mx m S M : Int} (h : fourI a b c d true s u v Mx m S M) (hu : NTold u) (g1 : 0 < u.2) (q1 : 1 ≤ q) (lo : q * u.2 ≤ u.1) (hi : u.1 ≤ (q + 1) * u.2) : fourI (a * q + b) a (c * q + d) c true s (u.2, u.1 - q * u.2) v Mx m S M := by
  obtain ⟨h1, h2, h3, h4, h5, h6, h7, hJ, hv⟩ := h
  have key : ∀ {x y : Int}, J2 (x.natAbs : Int) ((x + y).natAbs : Int) u.1 u.2 S → J2 ((x * q + y).natAbs : Int) ((x * q + y + x).natAbs : Int) u.2 (u.1 - q * u.2) S := fun {x y} J => by
    have n1 := abs_mul_nn (x := x) (y := q - 1) (by omega)
    have n2 := abs_mul_nn (x := x) (y := q) (by omega)
    have c1 : (x.natAbs : Int) * (q - 1) = (q - 1) * (x.natAbs : Int) := Int.mul_comm _ _
    have c2 : (x.natAbs : Int) * q = q * (x.natAbs : Int) := Int.mul_comm _ _
    have e1 : x * q + y = x * (q - 1) + (x + y) := by grind
    have e2 : x * q + y + x = x * q + (x + y) := by omega
    exact J.take (by omega) (by omega) (by omega) (by omega) (by omega) hu.2.1 q1 lo hi (by rw [e1]; omega) (by rw [e2]; omega) (by omega) (by omega)
  refine ⟨h1, h2, h3, h4, h5, h6, fun z => (by cases z), fun _ => ⟨key (hJ rfl).1, key (hJ rfl).2⟩, fun y => ?_⟩
  obtain ⟨_, nt, e, he, ev, ⟨c1, c2⟩, ⟨c3, c4⟩⟩ := hv y
  refine ⟨rfl, nt, e, he, ?_, ?_, ?_⟩
  · rw [ev]
    refine Prod.ext ?_ ?_
    · show e * (a * u.1 + b * u.2) = e * ((a * q + b) * u.2 + a * (u.1 - q * u.2))
      grind
    · show e * (c * u.1 + d * u.2) = e * ((c * q + d) * u.2 + c * (u.1 - q * u.2))
      grind
  · have m1 := Int.mul_le_mul_of_nonneg_right c2 (show 0 ≤ q - 1 by omega)
    have m2 := Int.mul_nonneg c1 (show 0 ≤ q - 1 by omega)
    have e1 : e * (c * q + d) = e * c * (q - 1) + e * (c + d) := by grind
    have e2 : e * (a * q + b) = e * a * (q - 1) + e * (a + b) := by grind
    exact ⟨by omega, by omega⟩
  · have m1 := Int.mul_le_mul_of_nonneg_right c2 (show 0 ≤ q by omega)
    have m2 := Int.mul_nonneg c1 (show 0 ≤ q by omega)
    have e1 : e * (c * q + d + c) = e * c * q + e * (c + d) := by grind
    have e2 : e * (a * q + b + a) = e * a * q + e * (a + b) := by grind
    exact ⟨by omega, by omega⟩
theorem Sc.sum {u v : Int × Int} (sc : Sc u v) (hv : NTold v) : v.1 + v.2 ≤ u.1 + u.2 := by
  obtain ⟨k, k1, e1, e2⟩ := sc
  have m1 := Int.mul_le_mul_of_nonneg_right k1 (show 0 ≤ v.1 by have := hv.2.2; omega)
  have m2 := Int.mul_le_mul_of_nonneg_right k1 hv.1
  omega
theorem four_loop {n : Nat} {D : Int} (X : Tot D n) : ∀ (K : Nat) (a b c d : Int) (s : Bool) (x : Box) (u v : Int × Int) (Mx m S M l : Int), u.1 + u.2 ≤ K → 0 ≤ l → x.wt ≤ n → x.Ok → x.kind ≠ 1 → Inv (l + D) x true u Mx → fourI a b c d true s u v Mx m S M → ∃ o B' l', Asks (.four [a, b, c, d] true s x) l o B' l' ∧ OutI (Inv (l' + D)) o B' s v M
  | K, a, b, c, d, s, x, u, v, Mx, m, S, M, l, hK, hl, hw, ok, kd, hx, h => by
    obtain ⟨hu, hbu⟩ := hx.told
    obtain ⟨h1, h2, h3, h4, h5, h6, h7, hJ, hv⟩ := id h
    have J := hJ rfl
    have hf : allFit [a, b, c, d] (fourCorners [a, b, c, d]) = true := four_fit J.1.2.1 J.1.2.2 J.2.2.1 J.2.2.2 h6
    have bv : s = true → NBd M v := fun y => by
      obtain ⟨_, _, e, he, ev, _⟩ := hv y
      rw [ev]
      exact four_val h hu e he
    cases hs : sureF [a, b, c, d] true with
    | some q =>
      have hs' : surePart (fourCorners [a, b, c, d]) = some q := hs
      obtain ⟨e, he, p1, p2, p3, p4, p5, p6, w2, lo, hi⟩ := four_sure hs' hu
      have bw := four_val h hu e he
      obtain ⟨d1, d2⟩ := digit (w := (e * (a * u.1 + b * u.2), e * (c * u.1 + d * u.2))) w2 lo hi bw
      refine ⟨_, _, _, .tell4 hf hs, fun z => (by cases z), fun z => (by cases z), fun z => (by cases z), fun q' z => ?_⟩
      cases z
      refine ⟨(e * (a * u.1 + b * u.2), e * (c * u.1 + d * u.2)), _, bw, w2, lo, hi, ?_, Sc.refl _, fun y => ?_⟩
      · rw [turned4]
        refine ⟨rfl, c, d, a - q * c, b - q * d, u, Mx, m, S, rfl, hx, h1, h2, h3, h4, h5, h6, fun z => (by cases z), fun _ => ⟨J.2, J.2.less hu.1 hu.2.1 ?_ ?_⟩, fun _ => ⟨rfl, d1, e, he, ?_, ?_, ?_⟩⟩
        · have e1 : e * (a - q * c) = e * a - q * (e * c) := by grind
          have e2 : (q + 1) * (e * c) = q * (e * c) + e * c := by grind
          rcases he with rfl | rfl <;> omega
        · have e1 : e * (a - q * c + (b - q * d)) = e * (a + b) - q * (e * (c + d)) := by grind
          have e2 : (q + 1) * (e * (c + d)) = q * (e * (c + d)) + e * (c + d) := by grind
          rcases he with rfl | rfl <;> omega
        · refine Prod.ext rfl ?_
          show e * (a * u.1 + b * u.2) - q * (e * (c * u.1 + d * u.2)) = e * ((a - q * c) * u.1 + (b - q * d) * u.2)
          grind
        · have e1 : e * (a - q * c) = e * a - q * (e * c) := by grind
          have e2 : (q + 1) * (e * c) = q * (e * c) + e * c := by grind
          exact ⟨by omega, by omega⟩
        · have e1 : e * (a - q * c + (b - q * d)) = e * (a + b) - q * (e * (c + d)) := by grind
          have e2 : (q + 1) * (e * (c + d)) = q * (e * (c + d)) + e * (c + d) := by grind
          exact ⟨by omega, by omega⟩
      · obtain ⟨_, nt, e', he', ev, ⟨c1, c2⟩, _⟩ := hv y
        have ee : e' = e := by
          rcases he with rfl | rfl <;> rcases he' with rfl | rfl <;> omega
        subst ee
        refine ⟨ev.symm, ?_⟩
        rcases Int.lt_or_le 0 q with z | z
        · omega
        · have := Int.mul_le_mul_of_nonneg_right (show q + 1 ≤ 1 by omega) (Int.le_of_lt p1)
          omega
    | none =>
      obtain ⟨o, x', l1, ax, h0, hwt, hfin, hpart⟩ := X x l true u Mx hw ok hl hx (fun _ => ⟨hu, hbu⟩)
      obtain ⟨n0, en0⟩ := askF_up ax
      obtain ⟨ok', wt', kd'⟩ := askF_ok ok (en0 n0 (Nat.le_refl _))
      have bl := ax.left hl
      match o, ax, h0, hwt, hfin, hpart with
      | none, ax, h0, _, _, _ => exact absurd (h0 rfl).1 (by decide)
      | some .waits, ax, _, hwt, _, _ =>
        obtain ⟨u', hx', sc⟩ := hwt rfl
        obtain ⟨v', h', sv⟩ := h.scale hx'.told.1 (sc rfl)
        exact ⟨_, _, _, .wait4 hf hs ax, fun z => (by cases z), fun _ => ⟨v', ⟨rfl, a, b, c, d, u', Mx, m, S, rfl, hx', h'⟩, sv⟩, fun z => (by cases z), fun q z => (by cases z)⟩
      | some .fin, ax, _, _, hfin, _ =>
        obtain ⟨_, g0, _⟩ := hfin rfl
        have ha : (a.natAbs : Int) ≤ S := by
          have := J.1.1
          rw [g0, Int.sub_zero, Int.mul_zero] at this
          have y := Int.mul_le_mul_of_nonneg_left hu.2.2 (show 0 ≤ (a.natAbs : Int) by omega)
          omega
        have hc : (c.natAbs : Int) ≤ S := by
          have := J.2.1
          rw [g0, Int.sub_zero, Int.mul_zero] at this
          have y := Int.mul_le_mul_of_nonneg_left hu.2.2 (show 0 ≤ (c.natAbs : Int) by omega)
          omega
        have sv : s = true → ∃ v', Sc v v' ∧ ∃ k : Int, k ≠ 0 ∧ a = k * v'.1 ∧ c = k * v'.2 := fun y => by
          obtain ⟨_, nt, e, he, ev, _⟩ := hv y
          refine ⟨(e * a, e * c), ⟨u.1, hu.2.2, ?_, ?_⟩, e, by rcases he with rfl | rfl <;> decide, ?_, ?_⟩
          · rw [ev, g0]
            show e * (a * u.1 + b * 0) = u.1 * (e * a)
            grind
          · rw [ev, g0]
            show e * (c * u.1 + d * 0) = u.1 * (e * c)
            grind
          · rcases he with rfl | rfl
            · show a = 1 * (1 * a); omega
            · show a = -1 * (-1 * a); omega
          · rcases he with rfl | rfl
            · show c = 1 * (1 * c); omega
            · show c = -1 * (-1 * c); omega
        have rI : ∃ v', restI s s a c v' M ∧ (s = true → Sc v v' ∧ NBd M v) := by
          cases s with
          | false => exact ⟨v, ⟨rfl, by omega, by omega, fun _ => ⟨by show (a.natAbs : Int) ≤ M; omega, by show (c.natAbs : Int) ≤ M; omega⟩, fun z => (by cases z)⟩, fun z => (by cases z)⟩
          | true =>
            obtain ⟨v', sc, kk⟩ := sv rfl
            exact ⟨v', ⟨rfl, by omega, by omega, fun z => (by cases z), fun _ => ⟨(hv rfl).2.1.scale sc, (bv rfl).scale sc, .inr kk⟩⟩, fun _ => ⟨sc, bv rfl⟩⟩
        obtain ⟨v', hr, hsc⟩ := rI
        obtain ⟨o2, B2, l2, a2, out⟩ := rest_tot (l := l1) (D := D) hr
        exact ⟨o2, B2, l2, .fin4 hf hs ax a2, out.scale hsc⟩
      | some (.part q), ax, _, _, _, hpart =>
        obtain ⟨w, u', bw, w2, lo, hi, hx', sc, ws⟩ := hpart q rfl
        obtain ⟨rfl, q1⟩ := ws rfl
        have fq : fits q := by
          refine cap_fits ?_
          have := hbu.1
          have y := Int.mul_le_mul_of_nonneg_left (show 1 ≤ w.2 by omega) (show 0 ≤ q by omega)
          omega
        have ht := h.take hu w2 q1 lo hi
        obtain ⟨hu', hbu'⟩ := hx'.told
        obtain ⟨v', h', sv⟩ := ht.scale hu' sc
        have sm := sc.sum hu'
        have sm : u'.1 + u'.2 ≤ w.2 + (w.1 - q * w.2) := sm
        have y := Int.mul_le_mul_of_nonneg_right q1 (show 0 ≤ w.2 by omega)
        match K, hK with
        | 0, hK => omega
        | K + 1, hK =>
          obtain ⟨o2, B2, l2, a2, out⟩ := four_loop X K (a * q + b) a (c * q + d) c s x' u' v' Mx m S M l1 (by omega) bl.1 (by omega) ok' (by rw [kd']; exact kd) hx' h'
          exact ⟨o2, B2, l2, .part4 hf hs ax fq a2, out.scale fun y => ⟨sv y, bv y⟩⟩
theorem J2.up {p r α γ S S' : Int} (h : J2 p r α γ S) (hS : S ≤ S') : J2 p r α γ S' := ⟨Int.le_trans h.1 hS, by have := h.2.1; omega, by have := h.2.2; omega⟩
theorem first_fits {q M : Int} {w : Int × Int} (w2 : 0 < w.2) (lo : q * w.2 ≤ w.1) (hi : w.1 ≤ (q + 1) * w.2) (bw : NBd M w) (hM : M + 2 ≤ cap) : fits q := by
  refine cap_fits ?_
  have := bw.1
  rcases Int.lt_or_le q 0 with z | z
  · have y := Int.mul_le_mul_of_nonneg_left (show 1 ≤ w.2 by omega) (show 0 ≤ -(q + 1) by omega)
    have e : -(q + 1) * w.2 = -((q + 1) * w.2) := by grind
    omega
  · have y := Int.mul_le_mul_of_nonneg_left (show 1 ≤ w.2 by omega) z
    omega
theorem four_tot {n : Nat} {D : Int} (X : Tot D n) {ns : List Int} {st told s : Bool} {x : Box} {v : Int × Int} {M l : Int} (hl : 0 ≤ l) (hw : x.wt ≤ n) (ok : x.Ok) (kd : x.kind ≠ 1) (h : Inv (l + D) (.four ns st told x) s v M) : ∃ o B' l', Asks (.four ns st told x) l o B' l' ∧ OutI (Inv (l' + D)) o B' s v M := by
  obtain ⟨rfl, a, b, c, d, u, Mx, m, S, rfl, hx, h⟩ := h
  cases st with
  | true =>
    have hu := hx.told.1
    exact four_loop X (u.1 + u.2).toNat a b c d told x u v Mx m S M l (by obtain ⟨_, _, _⟩ := hu; omega) hl hw ok kd hx h
  | false =>
    obtain ⟨h1, h2, h3, h4, h5, h6, h7, _, _⟩ := id h
    obtain ⟨rfl, ma, mb, mc, md⟩ := h7 rfl
    have mS : m ≤ S := by
      have := Int.mul_le_mul_of_nonneg_left h2 h1
      omega
    have hf : allFit [a, b, c, d] (fourCorners [a, b, c, d]) = true := four_fit (S := S) (by omega) (by omega) (by omega) (by omega) h6
    have hs : sureF [a, b, c, d] false = none := rfl
    obtain ⟨o, x', l1, ax, h0, hwt, hfin, hpart⟩ := X x l false u Mx hw ok hl hx (fun z => (by cases z))
    obtain ⟨n0, en0⟩ := askF_up ax
    obtain ⟨ok', wt', kd'⟩ := askF_ok ok (en0 n0 (Nat.le_refl _))
    have bl := ax.left hl
    match o, ax, h0, hwt, hfin, hpart with
    | none, ax, h0, _, _, _ =>
      obtain ⟨_, u', hx'⟩ := h0 rfl
      exact ⟨_, _, _, .none4 hf hs ax, fun _ => ⟨rfl, v, rfl, a, b, c, d, u', Mx, m, S, rfl, hx', h1, h2, h3, h4, h5, h6, h7, fun z => (by cases z), fun z => (by cases z)⟩, fun z => (by cases z), fun z => (by cases z), fun q z => (by cases z)⟩
    | some .waits, ax, _, hwt, _, _ =>
      obtain ⟨u', hx', _⟩ := hwt rfl
      exact ⟨_, _, _, .wait4 hf hs ax, fun z => (by cases z), fun _ => ⟨v, ⟨rfl, a, b, c, d, u', Mx, m, S, rfl, hx', h1, h2, h3, h4, h5, h6, h7, fun z => (by cases z), fun z => (by cases z)⟩, fun z => (by cases z)⟩, fun z => (by cases z), fun q z => (by cases z)⟩
    | some .fin, ax, _, _, hfin, _ => exact absurd (hfin rfl).1 (by decide)
    | some (.part q), ax, _, _, _, hpart =>
      obtain ⟨w, u', bw, w2, lo, hi, hx', sc, _⟩ := hpart q rfl
      have hu' := hx'.told.1
      have fq := first_fits w2 lo hi bw h3
      have b1 := bw.1
      have b2 := bw.2
      have key : ∀ {x y : Int}, (x.natAbs : Int) ≤ m → (y.natAbs : Int) ≤ m → J2 ((x * q + y).natAbs : Int) ((x * q + y + x).natAbs : Int) u'.1 u'.2 S := fun {x y} hx hy => by
        have e : ((x * q).natAbs : Int) = (x.natAbs : Int) * (q.natAbs : Int) := by rw [Int.natAbs_mul, Int.natCast_mul]
        have J := J2.start (A := (x.natAbs : Int)) (B := (y.natAbs : Int)) (p := ((x * q + y).natAbs : Int)) (r := ((x * q + y + x).natAbs : Int)) (M := Mx) h1 (by omega) hx hy (by omega) (by omega) (show 1 ≤ w.2 by omega) lo hi (by omega) (by omega) (by omega)
        obtain ⟨k, k1, e1, e2⟩ := sc
        exact (J.scale (by omega) (by omega) k1 e1 e2 hu'.1 hu'.2.1).up h4
      have h' : fourI (a * q + b) a (c * q + d) c true false u' v Mx m S M := ⟨h1, h2, h3, h4, h5, h6, fun z => (by cases z), fun _ => ⟨key ma mb, key mc md⟩, fun z => (by cases z)⟩
      obtain ⟨o2, B2, l2, a2, out⟩ := four_loop X (u'.1 + u'.2).toNat (a * q + b) a (c * q + d) c false x' u' v Mx m S M l1 (by obtain ⟨_, _, _⟩ := hu'; omega) bl.1 (by omega) ok' (by rw [kd']; exact kd) hx' h'
      exact ⟨o2, B2, l2, .part4 hf hs ax fq a2, out⟩
/-! ### nested boxes: eights -/
theorem prim {v : Int × Int} (h : NTold v) : ∃ v', Sc v v' ∧ Int.gcd v'.1 v'.2 = 1 := by
  by_cases z : v.2 = 0
  · exact ⟨(1, 0), ⟨v.1, h.2.2, (Int.mul_one _).symm, by rw [z]; exact (Int.mul_zero _).symm⟩, rfl⟩
  · obtain ⟨g, e1, e2, _, hs, _⟩ := fold_low (t := v.1) (b := v.2) z
    exact ⟨fold (chain v.1 v.2), ⟨g, by have := hs.mpr (by have := h.1; omega); omega, e1, e2⟩, gcd_fold _⟩
theorem par_mult {a e : Int} {v : Int × Int} (h1 : 1 ≤ v.1) (hg : Int.gcd v.1 v.2 = 1) (e0 : a * v.2 = e * v.1) : ∃ k : Int, a = k * v.1 ∧ e = k * v.2 := by
  have d : v.1.natAbs ∣ a.natAbs * v.2.natAbs := by
    rw [← Int.natAbs_mul, e0, Int.natAbs_mul]
    exact Nat.dvd_mul_left _ _
  have cp : Nat.Coprime v.1.natAbs v.2.natAbs := hg
  have d2 := Int.natAbs_dvd_natAbs.mp (cp.dvd_of_dvd_mul_right d)
  obtain ⟨k, hk⟩ := d2
  refine ⟨k, by rw [hk, Int.mul_comm], ?_⟩
  refine Int.eq_of_mul_eq_mul_right (a := v.1) (by omega) ?_
  rw [← e0, hk]
  grind
/-- one chain has ended: what is left -/
theorem one_inv {a b e f S M My l : Int} {s : Bool} {y : Box} {w v : Int × Int} (hy : Inv l y true w My) (m1 : 1 ≤ My) (m2 : My + 2 ≤ cap) (J1 : J2 (a.natAbs : Int) ((a + b).natAbs : Int) w.1 w.2 S) (J3 : J2 (e.natAbs : Int) ((e + f).natAbs : Int) w.1 w.2 S) (hM : 16 * S ≤ M) (hC : 64 * S ≤ cap)
    (hv : s = true → NTold v ∧ NBd M v ∧ ∃ k : Int, (k = 1 ∨ k = -1) ∧ Sc v (k * (a * w.1 + b * w.2), k * (e * w.1 + f * w.2)) ∧ (0 ≤ k * e ∧ k * e ≤ k * a) ∧ (0 ≤ k * (e + f) ∧ k * (e + f) ≤ k * (a + b))) : ∃ v', Inv l (oneBox [a, b, e, f] s y) s v' M ∧ (s = true → Sc v v') := by
  have S0 : 0 ≤ S := by have := J1.2.1; omega
  have c1 := J1.2.1
  have c2 := J1.2.2
  have c3 := J3.2.1
  have c4 := J3.2.2
  show ∃ v', Inv l (if a * f ≠ b * e then .four [a, b, e, f] true s y else if e ≠ 0 then .fb a e s else .fb b f s) s v' M ∧ (s = true → Sc v v')
  by_cases hd : a * f ≠ b * e
  · rw [if_pos hd]
    have z4 : 4 * (0 * My) ≤ S := by rw [Int.zero_mul]; omega
    cases s with
    | false => exact ⟨v, ⟨rfl, a, b, e, f, w, My, 0, S, rfl, hy, Int.le_refl _, m1, m2, z4, by omega, by omega, fun z => (by cases z), fun _ => ⟨J1, J3⟩, fun z => (by cases z)⟩, fun z => (by cases z)⟩
    | true =>
      obtain ⟨nt, bv, k, hk, sc, k1, k2⟩ := hv rfl
      exact ⟨_, ⟨rfl, a, b, e, f, w, My, 0, S, rfl, hy, Int.le_refl _, m1, m2, z4, by omega, by omega, fun z => (by cases z), fun _ => ⟨J1, J3⟩, fun _ => ⟨rfl, nt.scale sc, k, hk, rfl, k1, k2⟩⟩, fun _ => sc⟩
  · rw [if_neg hd]
    have hd : a * f = b * e := Classical.not_not.mp hd
    have rest : ∀ t r : Int, (t.natAbs : Int) ≤ 5 * S → (r.natAbs : Int) ≤ 5 * S → t * (e * w.1 + f * w.2) = r * (a * w.1 + b * w.2) → (t = 0 → r = 0 → e = 0 ∧ f = 0) → ∃ v', Inv l (.fb t r s) s v' M ∧ (s = true → Sc v v') := fun t r bt br cr nz => by
      cases s with
      | false => exact ⟨v, ⟨rfl, by omega, by omega, fun _ => ⟨by show (t.natAbs : Int) ≤ M; omega, by show (r.natAbs : Int) ≤ M; omega⟩, fun z => (by cases z)⟩, fun z => (by cases z)⟩
      | true =>
        obtain ⟨nt, bv, k, hk, sc, _⟩ := hv rfl
        obtain ⟨v', sp, hg⟩ := prim nt
        have nt' := nt.scale sp
        refine ⟨v', ⟨rfl, by omega, by omega, fun z => (by cases z), fun _ => ⟨nt', bv.scale sp, ?_⟩⟩, fun _ => sp⟩
        -- v' is alongside (t, r)
        have cross : t * v'.2 = r * v'.1 := by
          obtain ⟨j, j1, e1, e2⟩ := sp
          obtain ⟨i, i1, f1, f2⟩ := sc
          have f1 : v.1 = i * (k * (a * w.1 + b * w.2)) := f1
          have f2 : v.2 = i * (k * (e * w.1 + f * w.2)) := f2
          have x1 : j * (t * v'.2) = j * (r * v'.1) := by
            have y1 : j * (t * v'.2) = t * v.2 := by rw [e2]; grind
            have y2 : j * (r * v'.1) = r * v.1 := by rw [e1]; grind
            rw [y1, y2, f1, f2]
            have y3 : t * (i * (k * (e * w.1 + f * w.2))) = i * k * (t * (e * w.1 + f * w.2)) := by grind
            have y4 : r * (i * (k * (a * w.1 + b * w.2))) = i * k * (r * (a * w.1 + b * w.2)) := by grind
            rw [y3, y4, cr]
          exact Int.eq_of_mul_eq_mul_left (by omega) x1
        obtain ⟨k2, g1, g2⟩ := par_mult nt'.2.2 hg cross
        by_cases hk2 : k2 = 0
        · left
          rw [hk2, Int.zero_mul] at g1 g2
          obtain ⟨z1, z2⟩ := nz g1 g2
          refine ⟨g2, ?_⟩
          obtain ⟨j, j1, _, e2⟩ := sp
          obtain ⟨i, i1, _, f2⟩ := sc
          have f2 : v.2 = i * (k * (e * w.1 + f * w.2)) := f2
          rw [z1, z2, Int.zero_mul, Int.zero_mul, Int.add_zero, Int.mul_zero, Int.mul_zero, e2] at f2
          rcases Int.mul_eq_zero.mp f2 with y | y
          · omega
          · exact y
        · exact .inr ⟨k2, hk2, g1, g2⟩
    by_cases he : e ≠ 0
    · rw [if_pos he]
      refine rest a e (by omega) (by omega) ?_ fun _ z => absurd z he
      have : a * (e * w.1 + f * w.2) = a * e * w.1 + (a * f) * w.2 := by grind
      rw [this, hd]
      grind
    · rw [if_neg he]
      have he : e = 0 := Classical.not_not.mp he
      subst he
      rw [Int.mul_zero] at hd
      refine rest b f (by omega) (by omega) ?_ fun _ z => ⟨rfl, z⟩
      have : f * (a * w.1 + b * w.2) = (a * f) * w.1 + f * b * w.2 := by grind
      rw [this, hd]
      grind
/-- both children have begun -/
def eightC (a b c d e f g h : Int) (s : Bool) (u y v : Int × Int) (S : Int) : Prop :=
  J8 (a.natAbs : Int) ((a + b).natAbs : Int) ((a + c).natAbs : Int) ((a + b + c + d).natAbs : Int) u.1 u.2 y.1 y.2 S ∧ J8 (e.natAbs : Int) ((e + f).natAbs : Int) ((e + g).natAbs : Int) ((e + f + g + h).natAbs : Int) u.1 u.2 y.1 y.2 S ∧
  (s = true → NTold v ∧ ∃ k : Int, (k = 1 ∨ k = -1) ∧ v = (k * (a * u.1 * y.1 + b * u.1 * y.2 + c * u.2 * y.1 + d * u.2 * y.2), k * (e * u.1 * y.1 + f * u.1 * y.2 + g * u.2 * y.1 + h * u.2 * y.2)) ∧
    (0 ≤ k * e ∧ k * e ≤ k * a) ∧ (0 ≤ k * (e + f) ∧ k * (e + f) ≤ k * (a + b)) ∧ (0 ≤ k * (e + g) ∧ k * (e + g) ≤ k * (a + c)) ∧ (0 ≤ k * (e + f + g + h) ∧ k * (e + f + g + h) ≤ k * (a + b + c + d)))
theorem eightC.swap {a b c d e f g h : Int} {s : Bool} {u y v : Int × Int} {S : Int} (H : eightC a b c d e f g h s u y v S) : eightC a c b d e g f h s y u v S := by
  obtain ⟨j1, j2, hv⟩ := H
  have e1 : a + c + b + d = a + b + c + d := by omega
  have e2 : e + g + f + h = e + f + g + h := by omega
  refine ⟨by rw [e1]; exact j1.swap, by rw [e2]; exact j2.swap, fun z => ?_⟩
  obtain ⟨nt, k, hk, ev, k1, k2, k3, k4⟩ := hv z
  refine ⟨nt, k, hk, ?_, k1, k3, k2, by rw [e1, e2]; exact k4⟩
  rw [ev]
  refine Prod.ext ?_ ?_
  · show k * (a * u.1 * y.1 + b * u.1 * y.2 + c * u.2 * y.1 + d * u.2 * y.2) = k * (a * y.1 * u.1 + c * y.1 * u.2 + b * y.2 * u.1 + d * y.2 * u.2)
    grind
  · show k * (e * u.1 * y.1 + f * u.1 * y.2 + g * u.2 * y.1 + h * u.2 * y.2) = k * (e * y.1 * u.1 + g * y.1 * u.2 + f * y.2 * u.1 + h * y.2 * u.2)
    grind
theorem J8.scale {p00 p01 p10 p11 ax gx ax' gx' ay gy k S : Int} (h : J8 p00 p01 p10 p11 ax gx ay gy S) (n00 : 0 ≤ p00) (n01 : 0 ≤ p01) (n10 : 0 ≤ p10) (n11 : 0 ≤ p11) (wy0 : 0 ≤ ay - gy) (wy1 : 0 ≤ gy) (k1 : 1 ≤ k) (e1 : ax = k * ax') (e2 : gx = k * gx') (g0 : 0 ≤ gx') (ga : gx' ≤ ax') : J8 p00 p01 p10 p11 ax' gx' ay gy S := by
  have nn : ∀ {x y : Int}, 0 ≤ x → 0 ≤ y → 0 ≤ x * (ay - gy) + y * gy := fun hx hy => by
    have := Int.mul_nonneg hx wy0
    have := Int.mul_nonneg hy wy1
    omega
  have f : J2 (p00 * (ay - gy) + p01 * gy) (p10 * (ay - gy) + p11 * gy) ax' gx' S := J2.scale ⟨h.full, h.y0, h.y1⟩ (nn n00 n01) (nn n10 n11) k1 e1 e2 g0 ga
  have t0 : J2 p00 p10 ax gx (2 * S) := ⟨h.x0, by have := h.c00; omega, by have := h.c10; omega⟩
  have t1 : J2 p01 p11 ax gx (3 * S) := ⟨h.x1, by have := h.c01; omega, by have := h.c11; omega⟩
  exact ⟨f.1, h.y0, h.y1, (t0.scale n00 n10 k1 e1 e2 g0 ga).1, (t1.scale n01 n11 k1 e1 e2 g0 ga).1, h.c00, h.c01, h.c10, h.c11⟩
theorem eightC.scale {a b c d e f g h : Int} {s : Bool} {u u' y v : Int × Int} {S : Int} (H : eightC a b c d e f g h s u y v S) (hy : NTold y) (hu' : NTold u') (sc : Sc u u') : ∃ v', eightC a b c d e f g h s u' y v' S ∧ (s = true → Sc v v') := by
  obtain ⟨j1, j2, hv⟩ := H
  obtain ⟨k, k1, e1, e2⟩ := id sc
  have j1' := j1.scale (by omega) (by omega) (by omega) (by omega) (by have := hy.2.1; omega) hy.1 k1 e1 e2 hu'.1 hu'.2.1
  have j2' := j2.scale (by omega) (by omega) (by omega) (by omega) (by have := hy.2.1; omega) hy.1 k1 e1 e2 hu'.1 hu'.2.1
  cases s with
  | false => exact ⟨v, ⟨j1', j2', fun z => (by cases z)⟩, fun z => (by cases z)⟩
  | true =>
    obtain ⟨nt, i, hi, ev, c1⟩ := hv rfl
    have sv : Sc v (i * (a * u'.1 * y.1 + b * u'.1 * y.2 + c * u'.2 * y.1 + d * u'.2 * y.2), i * (e * u'.1 * y.1 + f * u'.1 * y.2 + g * u'.2 * y.1 + h * u'.2 * y.2)) := by
      refine ⟨k, k1, ?_, ?_⟩
      · rw [ev]
        show i * (a * u.1 * y.1 + b * u.1 * y.2 + c * u.2 * y.1 + d * u.2 * y.2) = k * (i * (a * u'.1 * y.1 + b * u'.1 * y.2 + c * u'.2 * y.1 + d * u'.2 * y.2))
        rw [e1, e2]; grind
      · rw [ev]
        show i * (e * u.1 * y.1 + f * u.1 * y.2 + g * u.2 * y.1 + h * u.2 * y.2) = k * (i * (e * u'.1 * y.1 + f * u'.1 * y.2 + g * u'.2 * y.1 + h * u'.2 * y.2))
        rw [e1, e2]; grind
    exact ⟨_, ⟨j1', j2', fun _ => ⟨nt.scale sv, i, hi, rfl, c1⟩⟩, fun _ => sv⟩
/-! ### nested boxes: every asking of an eight ends -/
theorem eightC.take {a b c d e f g h q : Int} {s : Bool} {u y v : Int × Int} {S : Int} (H : eightC a b c d e f g h s u y v S) (hy : NTold y) (hu : NTold u) (g1 : 0 < u.2) (q1 : 1 ≤ q) (lo : q * u.2 ≤ u.1) (hi : u.1 ≤ (q + 1) * u.2) : eightC (a * q + c) (b * q + d) a b (e * q + g) (f * q + h) e f s (u.2, u.1 - q * u.2) y v S := by
  obtain ⟨j1, j2, hv⟩ := H
  have two : ∀ (x z : Int), ((x * q + z).natAbs : Int) ≤ (q - 1) * (x.natAbs : Int) + ((x + z).natAbs : Int) ∧ ((x * q + z + x).natAbs : Int) ≤ q * (x.natAbs : Int) + ((x + z).natAbs : Int) := fun x z => by
    have n1 := abs_mul_nn (x := x) (y := q - 1) (by omega)
    have n2 := abs_mul_nn (x := x) (y := q) (by omega)
    have c1 : (x.natAbs : Int) * (q - 1) = (q - 1) * (x.natAbs : Int) := Int.mul_comm _ _
    have c2 : (x.natAbs : Int) * q = q * (x.natAbs : Int) := Int.mul_comm _ _
    have e1 : x * q + z = x * (q - 1) + (x + z) := by grind
    have e2 : x * q + z + x = x * q + (x + z) := by omega
    exact ⟨by rw [e1]; omega, by rw [e2]; omega⟩
  have key : ∀ {a b c d : Int}, J8 (a.natAbs : Int) ((a + b).natAbs : Int) ((a + c).natAbs : Int) ((a + b + c + d).natAbs : Int) u.1 u.2 y.1 y.2 S → J8 ((a * q + c).natAbs : Int) ((a * q + c + (b * q + d)).natAbs : Int) ((a * q + c + a).natAbs : Int) ((a * q + c + (b * q + d) + a + b).natAbs : Int) u.2 (u.1 - q * u.2) y.1 y.2 S := fun {a b c d} J => by
    obtain ⟨t1, t2⟩ := two a c
    obtain ⟨t3, t4⟩ := two (a + b) (c + d)
    have e0 : a + b + (c + d) = a + b + c + d := by omega
    have e1 : a * q + c + (b * q + d) = (a + b) * q + (c + d) := by grind
    have e2 : a * q + c + (b * q + d) + a + b = (a + b) * q + (c + d) + (a + b) := by grind
    rw [e0] at t3 t4
    rw [e2, e1]
    exact J.take (by omega) (by omega) (by omega) (by omega) (by omega) (by omega) (by omega) (by omega) (by have := hy.2.1; omega) hy.1 (by omega) hu.2.1 q1 lo hi t1 t2 (by omega) (by omega) t3 t4 (by omega) (by omega)
  refine ⟨key j1, key j2, fun z => ?_⟩
  obtain ⟨nt, k, hk, ev, k1, k2, k3, k4⟩ := hv z
  have cone : ∀ {p r p' r' : Int}, (0 ≤ k * r ∧ k * r ≤ k * p) → (0 ≤ k * r' ∧ k * r' ≤ k * p') → ∀ m : Int, 0 ≤ m → 0 ≤ k * (r * m + r') ∧ k * (r * m + r') ≤ k * (p * m + p') := fun {p r p' r'} h1 h2 m hm => by
    have m1 := Int.mul_le_mul_of_nonneg_right h1.2 hm
    have m2 := Int.mul_nonneg h1.1 hm
    have e1 : k * (r * m + r') = k * r * m + k * r' := by grind
    have e2 : k * (p * m + p') = k * p * m + k * p' := by grind
    exact ⟨by omega, by omega⟩
  refine ⟨nt, k, hk, ?_, ?_, ?_, ?_, ?_⟩
  · rw [ev]
    refine Prod.ext ?_ ?_
    · show k * (a * u.1 * y.1 + b * u.1 * y.2 + c * u.2 * y.1 + d * u.2 * y.2) = k * ((a * q + c) * u.2 * y.1 + (b * q + d) * u.2 * y.2 + a * (u.1 - q * u.2) * y.1 + b * (u.1 - q * u.2) * y.2)
      grind
    · show k * (e * u.1 * y.1 + f * u.1 * y.2 + g * u.2 * y.1 + h * u.2 * y.2) = k * ((e * q + g) * u.2 * y.1 + (f * q + h) * u.2 * y.2 + e * (u.1 - q * u.2) * y.1 + f * (u.1 - q * u.2) * y.2)
      grind
  · have := cone k1 k3 (q - 1) (by omega)
    rw [show e * q + g = e * (q - 1) + (e + g) by grind, show a * q + c = a * (q - 1) + (a + c) by grind]
    exact this
  · have := cone k2 k4 (q - 1) (by omega)
    rw [show e * q + g + (f * q + h) = (e + f) * (q - 1) + (e + f + g + h) by grind, show a * q + c + (b * q + d) = (a + b) * (q - 1) + (a + b + c + d) by grind]
    exact this
  · have := cone k1 k3 q (by omega)
    rw [show e * q + g + e = e * q + (e + g) by omega, show a * q + c + a = a * q + (a + c) by omega]
    exact this
  · have := cone k2 k4 q (by omega)
    rw [show e * q + g + (f * q + h) + e + f = (e + f) * q + (e + f + g + h) by grind, show a * q + c + (b * q + d) + a + b = (a + b) * q + (a + b + c + d) by grind]
    exact this
theorem eight_fit {a b c d e f g h S : Int} {u y v : Int × Int} {s : Bool} (H : eightC a b c d e f g h s u y v S) (hS : 64 * S ≤ cap) : allFit [a, b, c, d, e, f, g, h] (eightCorners [a, b, c, d, e, f, g, h]) = true := by
  obtain ⟨j1, j2, _⟩ := H
  have q1 := j1.c00
  have q2 := j1.c01
  have q3 := j1.c10
  have q4 := j1.c11
  have q5 := j2.c00
  have q6 := j2.c01
  have q7 := j2.c10
  have q8 := j2.c11
  have F : ∀ {z : Int}, (z.natAbs : Int) ≤ 64 * S → decide (fits z) = true := fun {z} hz => decide_eq_true (cap_fits (by omega))
  show ([a, b, c, d, e, f, g, h].all (fun z => decide (fits z)) && [(a, e), (a + b, e + f), (a + c, e + g), (a + b + c + d, e + f + g + h)].all fun c => decide (fits c.1) && decide (fits c.2)) = true
  simp only [List.all_cons, List.all_nil, F (z := a) (by omega), F (z := b) (by omega), F (z := c) (by omega), F (z := d) (by omega), F (z := e) (by omega), F (z := f) (by omega), F (z := g) (by omega), F (z := h) (by omega), F (z := a + b) (by omega), F (z := a + c) (by omega), F (z := a + b + c + d) (by omega), F (z := e + f) (by omega), F (z := e + g) (by omega), F (z := e + f + g + h) (by omega), Bool.and_self]
/-- the sure part of four corners, at any place between -/
theorem eight_sure {a b c d e f g h q : Int} {u y : Int × Int} (hs : surePart (eightCorners [a, b, c, d, e, f, g, h]) = some q) (hu : NTold u) (hy : NTold y) : ∃ k : Int, (k = 1 ∨ k = -1) ∧
    (0 < k * e ∧ q * (k * e) ≤ k * a ∧ k * a < (q + 1) * (k * e)) ∧ (0 < k * (e + f) ∧ q * (k * (e + f)) ≤ k * (a + b) ∧ k * (a + b) ≤ (q + 1) * (k * (e + f))) ∧ (0 < k * (e + g) ∧ q * (k * (e + g)) ≤ k * (a + c) ∧ k * (a + c) ≤ (q + 1) * (k * (e + g))) ∧
    (0 < k * (e + f + g + h) ∧ q * (k * (e + f + g + h)) ≤ k * (a + b + c + d) ∧ k * (a + b + c + d) ≤ (q + 1) * (k * (e + f + g + h))) ∧
    0 < k * (e * u.1 * y.1 + f * u.1 * y.2 + g * u.2 * y.1 + h * u.2 * y.2) ∧ q * (k * (e * u.1 * y.1 + f * u.1 * y.2 + g * u.2 * y.1 + h * u.2 * y.2)) ≤ k * (a * u.1 * y.1 + b * u.1 * y.2 + c * u.2 * y.1 + d * u.2 * y.2) ∧
    k * (a * u.1 * y.1 + b * u.1 * y.2 + c * u.2 * y.1 + d * u.2 * y.2) ≤ (q + 1) * (k * (e * u.1 * y.1 + f * u.1 * y.2 + g * u.2 * y.1 + h * u.2 * y.2)) := by
  have hs := (sure_iff (cs := eightCorners [a, b, c, d, e, f, g, h]) (by exact List.cons_ne_nil _ _)).mp hs
  have key : ∀ {x1 z1 x2 z2 x3 z3 x4 z4 : Int}, Lies [(x1, z1), (x2, z2), (x3, z3), (x4, z4)] q → (0 < z1 ∧ q * z1 ≤ x1 ∧ x1 < (q + 1) * z1) ∧ (0 < z2 ∧ q * z2 ≤ x2 ∧ x2 ≤ (q + 1) * z2) ∧ (0 < z3 ∧ q * z3 ≤ x3 ∧ x3 ≤ (q + 1) * z3) ∧ (0 < z4 ∧ q * z4 ≤ x4 ∧ x4 ≤ (q + 1) * z4) := fun {x1 z1 x2 z2 x3 z3 x4 z4} L => by
    obtain ⟨L1, L2⟩ := L
    have p1 := L1 (x1, z1) (by simp)
    have p3 := L2 (x1, z1) rfl
    exact ⟨⟨p1.1, p1.2.1, p3⟩, L1 (x2, z2) (by simp), L1 (x3, z3) (by simp), L1 (x4, z4) (by simp)⟩
  obtain ⟨k, hk, s1, s2, s3, s4⟩ : ∃ k : Int, (k = 1 ∨ k = -1) ∧
    (0 < k * e ∧ q * (k * e) ≤ k * a ∧ k * a < (q + 1) * (k * e)) ∧ (0 < k * (e + f) ∧ q * (k * (e + f)) ≤ k * (a + b) ∧ k * (a + b) ≤ (q + 1) * (k * (e + f))) ∧ (0 < k * (e + g) ∧ q * (k * (e + g)) ≤ k * (a + c) ∧ k * (a + c) ≤ (q + 1) * (k * (e + g))) ∧
    (0 < k * (e + f + g + h) ∧ q * (k * (e + f + g + h)) ≤ k * (a + b + c + d) ∧ k * (a + b + c + d) ≤ (q + 1) * (k * (e + f + g + h))) := by
    rcases hs with L | L
    · refine ⟨1, .inl rfl, ?_⟩
      simp only [Int.one_mul]
      exact key L
    · refine ⟨-1, .inr rfl, ?_⟩
      have L : Lies [(-a, -e), (-(a + b), -(e + f)), (-(a + c), -(e + g)), (-(a + b + c + d), -(e + f + g + h))] q := L
      have m : ∀ z : Int, -1 * z = -z := fun z => by omega
      simp only [m]
      exact key L
  refine ⟨k, hk, s1, s2, s3, s4, ?_⟩
  obtain ⟨u0, u1, u2⟩ := hu
  obtain ⟨y0, y1, y2⟩ := hy
  have W0 := Int.mul_nonneg (show 0 ≤ u.1 - u.2 by omega) (show 0 ≤ y.1 - y.2 by omega)
  have W1 := Int.mul_nonneg (show 0 ≤ u.1 - u.2 by omega) y0
  have W2 := Int.mul_nonneg u0 (show 0 ≤ y.1 - y.2 by omega)
  have W3 := Int.mul_nonneg u0 y0
  have sumW : (u.1 - u.2) * (y.1 - y.2) + (u.1 - u.2) * y.2 + u.2 * (y.1 - y.2) + u.2 * y.2 = u.1 * y.1 := by grind
  have pW : 1 * 1 ≤ u.1 * y.1 := Int.mul_le_mul u2 y2 (by decide) (by omega)
  have ec : k * (e * u.1 * y.1 + f * u.1 * y.2 + g * u.2 * y.1 + h * u.2 * y.2) = (k * e) * ((u.1 - u.2) * (y.1 - y.2)) + (k * (e + f)) * ((u.1 - u.2) * y.2) + (k * (e + g)) * (u.2 * (y.1 - y.2)) + (k * (e + f + g + h)) * (u.2 * y.2) := by grind
  have ea : k * (a * u.1 * y.1 + b * u.1 * y.2 + c * u.2 * y.1 + d * u.2 * y.2) = (k * a) * ((u.1 - u.2) * (y.1 - y.2)) + (k * (a + b)) * ((u.1 - u.2) * y.2) + (k * (a + c)) * (u.2 * (y.1 - y.2)) + (k * (a + b + c + d)) * (u.2 * y.2) := by grind
  rw [ec, ea]
  generalize (u.1 - u.2) * (y.1 - y.2) = w0 at *
  generalize (u.1 - u.2) * y.2 = w1 at *
  generalize u.2 * (y.1 - y.2) = w2 at *
  generalize u.2 * y.2 = w3 at *
  generalize k * e = z0 at *
  generalize k * (e + f) = z1 at *
  generalize k * (e + g) = z2 at *
  generalize k * (e + f + g + h) = z3 at *
  generalize k * a = x0 at *
  generalize k * (a + b) = x1 at *
  generalize k * (a + c) = x2 at *
  generalize k * (a + b + c + d) = x3 at *
  have ml : ∀ {x z w' : Int}, x ≤ z → 0 ≤ w' → x * w' ≤ z * w' := fun h1 h2 => Int.mul_le_mul_of_nonneg_right h1 h2
  have a0 := ml (show 1 ≤ z0 by omega) W0
  have a1 := ml (show 1 ≤ z1 by omega) W1
  have a2 := ml (show 1 ≤ z2 by omega) W2
  have a3 := ml (show 1 ≤ z3 by omega) W3
  have b0 := ml s1.2.1 W0
  have b1 := ml s2.2.1 W1
  have b2 := ml s3.2.1 W2
  have b3 := ml s4.2.1 W3
  have c0 := ml (Int.le_of_lt s1.2.2) W0
  have c1 := ml s2.2.2 W1
  have c2 := ml s3.2.2 W2
  have c3 := ml s4.2.2 W3
  have e1 : q * (z0 * w0 + z1 * w1 + z2 * w2 + z3 * w3) = q * z0 * w0 + q * z1 * w1 + q * z2 * w2 + q * z3 * w3 := by grind
  have e2 : (q + 1) * (z0 * w0 + z1 * w1 + z2 * w2 + z3 * w3) = (q + 1) * z0 * w0 + (q + 1) * z1 * w1 + (q + 1) * z2 * w2 + (q + 1) * z3 * w3 := by grind
  exact ⟨by omega, by omega, by omega⟩
/-- a part told -/
theorem eightC.tell {a b c d e f g h q k : Int} {s : Bool} {u y v v' : Int × Int} {S : Int} (H : eightC a b c d e f g h s u y v S) (hu : NTold u) (hy : NTold y) (hk : k = 1 ∨ k = -1) (s1 : 0 < k * e ∧ q * (k * e) ≤ k * a ∧ k * a < (q + 1) * (k * e)) (s2 : 0 < k * (e + f) ∧ q * (k * (e + f)) ≤ k * (a + b) ∧ k * (a + b) ≤ (q + 1) * (k * (e + f))) (s3 : 0 < k * (e + g) ∧ q * (k * (e + g)) ≤ k * (a + c) ∧ k * (a + c) ≤ (q + 1) * (k * (e + g)))
    (s4 : 0 < k * (e + f + g + h) ∧ q * (k * (e + f + g + h)) ≤ k * (a + b + c + d) ∧ k * (a + b + c + d) ≤ (q + 1) * (k * (e + f + g + h))) (nt : NTold v') (ev : v' = (k * (e * u.1 * y.1 + f * u.1 * y.2 + g * u.2 * y.1 + h * u.2 * y.2), k * (a * u.1 * y.1 + b * u.1 * y.2 + c * u.2 * y.1 + d * u.2 * y.2) - q * (k * (e * u.1 * y.1 + f * u.1 * y.2 + g * u.2 * y.1 + h * u.2 * y.2)))) :
    eightC e f g h (a - q * e) (b - q * f) (c - q * g) (d - q * h) true u y v' S := by
  obtain ⟨j1, j2, _⟩ := H
  have sub : ∀ {x z : Int}, 0 < k * z → q * (k * z) ≤ k * x → k * x ≤ (q + 1) * (k * z) → ((x - q * z).natAbs : Int) ≤ (z.natAbs : Int) ∧ 0 ≤ k * (x - q * z) ∧ k * (x - q * z) ≤ k * z := fun {x z} h1 h2 h3 => by
    have e1 : k * (x - q * z) = k * x - q * (k * z) := by grind
    have e2 : (q + 1) * (k * z) = q * (k * z) + k * z := by grind
    refine ⟨?_, by omega, by omega⟩
    rcases hk with rfl | rfl <;> omega
  have t1 := sub s1.1 s1.2.1 (Int.le_of_lt s1.2.2)
  have t2 := sub s2.1 s2.2.1 s2.2.2
  have t3 := sub s3.1 s3.2.1 s3.2.2
  have t4 := sub s4.1 s4.2.1 s4.2.2
  have e2 : a - q * e + (b - q * f) = a + b - q * (e + f) := by grind
  have e3 : a - q * e + (c - q * g) = a + c - q * (e + g) := by grind
  have e4 : a - q * e + (b - q * f) + (c - q * g) + (d - q * h) = a + b + c + d - q * (e + f + g + h) := by grind
  refine ⟨j2, ?_, fun _ => ⟨nt, k, hk, ?_, t1.2, ?_, ?_, ?_⟩⟩
  · rw [e4, e3, e2]
    exact j2.less (by have := hu.2.1; omega) hu.1 (by have := hy.2.1; omega) hy.1 t1.1 t2.1 t3.1 t4.1
  · rw [ev]
    refine Prod.ext rfl ?_
    show k * (a * u.1 * y.1 + b * u.1 * y.2 + c * u.2 * y.1 + d * u.2 * y.2) - q * (k * (e * u.1 * y.1 + f * u.1 * y.2 + g * u.2 * y.1 + h * u.2 * y.2)) = k * ((a - q * e) * u.1 * y.1 + (b - q * f) * u.1 * y.2 + (c - q * g) * u.2 * y.1 + (d - q * h) * u.2 * y.2)
    grind
  · rw [e2]; exact t2.2
  · rw [e3]; exact t3.2
  · rw [e4]; exact t4.2
/-! ### nested boxes: the loop of an eight -/
theorem J8.fin {p00 p01 p10 p11 ax ay gy S : Int} (h : J8 p00 p01 p10 p11 ax 0 ay gy S) (n00 : 0 ≤ p00) (n01 : 0 ≤ p01) (wy0 : 0 ≤ ay - gy) (wy1 : 0 ≤ gy) (a1 : 1 ≤ ax) : J2 p00 p01 ay gy S := by
  have f := h.full
  have x0 := h.x0
  have x1 := h.x1
  rw [Int.mul_zero, Int.add_zero, Int.sub_zero] at f x0 x1
  have z1 := Int.mul_nonneg n00 wy0
  have z2 := Int.mul_nonneg n01 wy1
  have y := Int.mul_le_mul_of_nonneg_left a1 (show 0 ≤ p00 * (ay - gy) + p01 * gy by omega)
  have y0 := Int.mul_le_mul_of_nonneg_left a1 n00
  have y1 := Int.mul_le_mul_of_nonneg_left a1 n01
  exact ⟨by omega, by omega, by omega⟩
theorem eightC.bd {a b c d e f g h : Int} {s : Bool} {u y v : Int × Int} {S M : Int} (H : eightC a b c d e f g h s u y v S) (hu : NTold u) (hy : NTold y) (hM : S ≤ M) (k : Int) (hk : k = 1 ∨ k = -1) : NBd M (k * (a * u.1 * y.1 + b * u.1 * y.2 + c * u.2 * y.1 + d * u.2 * y.2), k * (e * u.1 * y.1 + f * u.1 * y.2 + g * u.2 * y.1 + h * u.2 * y.2)) := by
  have t1 := H.1.val hu hy
  have t2 := H.2.1.val hu hy
  generalize a * u.1 * y.1 + b * u.1 * y.2 + c * u.2 * y.1 + d * u.2 * y.2 = z1 at *
  generalize e * u.1 * y.1 + f * u.1 * y.2 + g * u.2 * y.1 + h * u.2 * y.2 = z2 at *
  rcases hk with rfl | rfl
  · exact ⟨by show ((1 * z1).natAbs : Int) ≤ M; omega, by show ((1 * z2).natAbs : Int) ≤ M; omega⟩
  · exact ⟨by show ((-1 * z1).natAbs : Int) ≤ M; omega, by show ((-1 * z2).natAbs : Int) ≤ M; omega⟩
theorem eightC.bv {a b c d e f g h : Int} {s : Bool} {u y v : Int × Int} {S M : Int} (H : eightC a b c d e f g h s u y v S) (hu : NTold u) (hy : NTold y) (hM : S ≤ M) (z : s = true) : NTold v ∧ NBd M v := by
  obtain ⟨nt, k, hk, ev, _⟩ := H.2.2 z
  refine ⟨nt, ?_⟩
  rw [ev]
  exact H.bd hu hy hM k hk
/-- the first chain has ended -/
theorem eightC.fin {a b c d e f g h : Int} {s : Bool} {u w v : Int × Int} {S M My l : Int} {y : Box} (H : eightC a b c d e f g h s u w v S) (hu : NTold u) (g0 : u.2 = 0) (hy : Inv l y true w My) (m1 : 1 ≤ My) (m2 : My + 2 ≤ cap) (hM : 16 * S ≤ M) (hC : 64 * S ≤ cap) : ∃ v', Inv l (oneBox [a, b, e, f] s y) s v' M ∧ (s = true → Sc v v') := by
  have hw := hy.told.1
  have S0 : 0 ≤ S := by have := H.1.c00; omega
  obtain ⟨j1, j2, hv⟩ := id H
  rw [g0] at j1 j2
  refine one_inv hy m1 m2 (j1.fin (by omega) (by omega) (by have := hw.2.1; omega) hw.1 hu.2.2) (j2.fin (by omega) (by omega) (by have := hw.2.1; omega) hw.1 hu.2.2) hM hC fun z => ?_
  obtain ⟨nt, bv⟩ := H.bv hu hw (M := M) (by omega) z
  obtain ⟨_, k, hk, ev, k1, k2, _⟩ := hv z
  refine ⟨nt, bv, k, hk, ⟨u.1, hu.2.2, ?_, ?_⟩, k1, k2⟩
  · rw [ev, g0]
    show k * (a * u.1 * w.1 + b * u.1 * w.2 + c * 0 * w.1 + d * 0 * w.2) = u.1 * (k * (a * w.1 + b * w.2))
    grind
  · rw [ev, g0]
    show k * (e * u.1 * w.1 + f * u.1 * w.2 + g * 0 * w.1 + h * 0 * w.2) = u.1 * (k * (e * w.1 + f * w.2))
    grind
theorem eight_back {a b c d e f g h i j : Int} {s : Bool} {x y : Box} {u w v : Int × Int} {Mx My S M l : Int} (hj : 0 < j) (hij : i = j ∨ i = j + 1) (hx : Inv l x true u Mx) (hy : Inv l y true w My) (C : 1 ≤ Mx ∧ Mx + 2 ≤ cap ∧ 1 ≤ My ∧ My + 2 ≤ cap ∧ 16 * S ≤ M ∧ 64 * S ≤ cap) (H : eightC a b c d e f g h s u w v S) : Inv l (.eight [a, b, c, d, e, f, g, h] i j s x y) s v M := by
  have S0 : 0 ≤ S := by have := H.1.c00; omega
  refine ⟨rfl, a, b, c, d, e, f, g, h, u, w, Mx, My, 0, 0, S, rfl, by rw [decide_eq_true (show 0 < i by omega)]; exact hx, by rw [decide_eq_true hj]; exact hy, Int.le_refl _, C.1, C.2.1, C.2.2.1, C.2.2.2.1, by rw [Int.zero_mul]; decide, by rw [Int.zero_mul]; omega, C.2.2.2.2.1, C.2.2.2.2.2, by omega, hij, fun z => by omega, fun _ z => by omega, fun _ => ⟨H.1, H.2.1⟩, fun z => ⟨by omega, H.2.2 z⟩⟩
theorem eight_loop {n : Nat} {D : Int} (X : Tot D n) : ∀ (K : Nat) (a b c d e f g h i j : Int) (s : Bool) (x y : Box) (u w v : Int × Int) (Mx My S M l : Int), u.1 + u.2 + (w.1 + w.2) ≤ K → 0 ≤ l → x.wt + 1 ≤ n → y.wt + 1 ≤ n → x.Ok → y.Ok → x.kind ≠ 1 → y.kind ≠ 1 → 0 < j → (i = j ∨ i = j + 1) → Inv (l + D) x true u Mx → Inv (l + D) y true w My → (1 ≤ Mx ∧ Mx + 2 ≤ cap ∧ 1 ≤ My ∧ My + 2 ≤ cap ∧ 16 * S ≤ M ∧ 64 * S ≤ cap) → eightC a b c d e f g h s u w v S →
    ∃ o B' l', Asks (.eight [a, b, c, d, e, f, g, h] i j s x y) l o B' l' ∧ OutI (Inv (l' + D)) o B' s v M
  | K, a, b, c, d, e, f, g, h, i, j, s, x, y, u, w, v, Mx, My, S, M, l, hK, hl, wx, wy, okx, oky, kx, ky, hj, hij, hx, hy, C, H => by
    obtain ⟨hu, hbu⟩ := hx.told
    obtain ⟨hw, hbw⟩ := hy.told
    have S0 : 0 ≤ S := by have := H.1.c00; omega
    have hf := eight_fit H C.2.2.2.2.2
    have SM : S ≤ M := by have := C.2.2.2.2.1; omega
    have bv := fun z => (H.bv hu hw SM z).2
    have cond : 0 < i ∧ 0 < j := ⟨by omega, hj⟩
    cases hs : sureE [a, b, c, d, e, f, g, h] i j with
    | some q =>
      have hs' : surePart (eightCorners [a, b, c, d, e, f, g, h]) = some q := by
        have : sureE [a, b, c, d, e, f, g, h] i j = surePart (eightCorners [a, b, c, d, e, f, g, h]) := if_pos cond
        rw [← this]; exact hs
      obtain ⟨k, hk, s1, s2, s3, s4, w2, lo, hi⟩ := eight_sure hs' hu hw
      have bw := H.bd hu hw SM k hk
      obtain ⟨d1, d2⟩ := digit w2 lo hi bw
      refine ⟨_, _, _, .tell8 hf hs, fun z => (by cases z), fun z => (by cases z), fun z => (by cases z), fun q' z => ?_⟩
      cases z
      refine ⟨_, _, bw, w2, lo, hi, ?_, Sc.refl _, fun z => ?_⟩
      · rw [turned8]
        exact eight_back hj hij hx hy C (H.tell hu hw hk s1 s2 s3 s4 d1 rfl)
      · obtain ⟨nt, k', hk', ev, ⟨c1, c2⟩, _⟩ := H.2.2 z
        have ee : k' = k := by
          rcases hk with rfl | rfl <;> rcases hk' with rfl | rfl <;> omega
        subst ee
        refine ⟨ev.symm, ?_⟩
        rcases Int.lt_or_le 0 q with y | y
        · omega
        · have := Int.mul_le_mul_of_nonneg_right (show q + 1 ≤ 1 by omega) (Int.le_of_lt s1.1)
          omega
    | none =>
      by_cases hle : i ≤ j
      · obtain ⟨o, x', l1, ax, h0, hwt, hfin, hpart⟩ := X x l true u Mx (by omega) okx hl hx (fun _ => ⟨hu, hbu⟩)
        obtain ⟨n0, en0⟩ := askF_up ax
        obtain ⟨ok', wt', kd'⟩ := askF_ok okx (en0 n0 (Nat.le_refl _))
        have bl := ax.left hl
        have hy1 := hy.mono (l' := l1 + D) (by have := bl.2.1; omega)
        match o, ax, h0, hwt, hfin, hpart with
        | none, ax, h0, _, _, _ => exact absurd (h0 rfl).1 (by decide)
        | some .waits, ax, _, hwt, _, _ =>
          obtain ⟨u', hx', sc⟩ := hwt rfl
          obtain ⟨v', H', sv⟩ := H.scale hw hx'.told.1 (sc rfl)
          exact ⟨_, _, _, .wait0 hf hs hle ax, fun z => (by cases z), fun _ => ⟨v', eight_back hj hij hx' hy1 C H', sv⟩, fun z => (by cases z), fun q z => (by cases z)⟩
        | some .fin, ax, _, _, hfin, _ =>
          obtain ⟨_, g0, _⟩ := hfin rfl
          obtain ⟨v', hr, sv⟩ := H.fin hu g0 hy1 C.2.2.1 C.2.2.2.1 C.2.2.2.2.1 C.2.2.2.2.2
          obtain ⟨okr, wtr, _⟩ := oneBox_ok (ns := [a, b, e, f]) (told := s) (x := y) rfl oky ky
          obtain ⟨o2, r2, l2, a2, out⟩ := X _ l1 s v' M (by omega) okr bl.1 hr (fun z => by cases s with | true => exact hr.told | false => cases z)
          exact ⟨o2, .eightR r2, l2, .fin0 hf hs hle ax (.rest a2), (out.map fun _ _ _ z => z).scale fun z => ⟨sv z, bv z⟩⟩
        | some (.part q), ax, _, _, _, hpart =>
          obtain ⟨z, u', bw, w2, lo, hi, hx', sc, ws⟩ := hpart q rfl
          obtain ⟨rfl, q1⟩ := ws rfl
          have fq := first_fits w2 lo hi bw C.2.1
          obtain ⟨hu', _⟩ := hx'.told
          obtain ⟨v', H', sv⟩ := (H.take hw hu w2 q1 lo hi).scale hw hu' sc
          have sm : u'.1 + u'.2 ≤ z.2 + (z.1 - q * z.2) := sc.sum hu'
          have y1 := Int.mul_le_mul_of_nonneg_right q1 (show 0 ≤ z.2 by omega)
          match K, hK with
          | 0, hK => obtain ⟨_, _, _⟩ := hw; omega
          | K + 1, hK =>
            obtain ⟨o2, B2, l2, a2, out⟩ := eight_loop X K _ _ _ _ _ _ _ _ (i + 1) j s x' y u' w v' Mx My S M l1 (by omega) bl.1 (by omega) wy ok' oky (by rw [kd']; exact kx) ky hj (by omega) hx' hy1 C H'
            exact ⟨o2, B2, l2, .part0 hf hs hle ax fq a2, out.scale fun z => ⟨sv z, bv z⟩⟩
      · obtain ⟨o, y', l1, ax, h0, hwt, hfin, hpart⟩ := X y l true w My (by omega) oky hl hy (fun _ => ⟨hw, hbw⟩)
        obtain ⟨n0, en0⟩ := askF_up ax
        obtain ⟨ok', wt', kd'⟩ := askF_ok oky (en0 n0 (Nat.le_refl _))
        have bl := ax.left hl
        have hx1 := hx.mono (l' := l1 + D) (by have := bl.2.1; omega)
        match o, ax, h0, hwt, hfin, hpart with
        | none, ax, h0, _, _, _ => exact absurd (h0 rfl).1 (by decide)
        | some .waits, ax, _, hwt, _, _ =>
          obtain ⟨w', hy', sc⟩ := hwt rfl
          obtain ⟨v', H', sv⟩ := H.swap.scale hu hy'.told.1 (sc rfl)
          exact ⟨_, _, _, .wait1 hf hs hle ax, fun z => (by cases z), fun _ => ⟨v', eight_back hj hij hx1 hy' C H'.swap, sv⟩, fun z => (by cases z), fun q z => (by cases z)⟩
        | some .fin, ax, _, _, hfin, _ =>
          obtain ⟨_, g0, _⟩ := hfin rfl
          obtain ⟨v', hr, sv⟩ := H.swap.fin hw g0 hx1 C.1 C.2.1 C.2.2.2.2.1 C.2.2.2.2.2
          obtain ⟨okr, wtr, _⟩ := oneBox_ok (ns := [a, c, e, g]) (told := s) (x := x) rfl okx kx
          obtain ⟨o2, r2, l2, a2, out⟩ := X _ l1 s v' M (by omega) okr bl.1 hr (fun z => by cases s with | true => exact hr.told | false => cases z)
          exact ⟨o2, .eightR r2, l2, .fin1 hf hs hle ax (.rest a2), (out.map fun _ _ _ z => z).scale fun z => ⟨sv z, bv z⟩⟩
        | some (.part q), ax, _, _, _, hpart =>
          obtain ⟨z, w', bw, w2, lo, hi, hy', sc, ws⟩ := hpart q rfl
          obtain ⟨rfl, q1⟩ := ws rfl
          have fq := first_fits w2 lo hi bw C.2.2.2.1
          obtain ⟨hw', _⟩ := hy'.told
          obtain ⟨v', H', sv⟩ := (H.swap.take hu hw w2 q1 lo hi).scale hu hw' sc
          have sm : w'.1 + w'.2 ≤ z.2 + (z.1 - q * z.2) := sc.sum hw'
          have y1 := Int.mul_le_mul_of_nonneg_right q1 (show 0 ≤ z.2 by omega)
          match K, hK with
          | 0, hK => obtain ⟨_, _, _⟩ := hu; omega
          | K + 1, hK =>
            obtain ⟨o2, B2, l2, a2, out⟩ := eight_loop X K _ _ _ _ _ _ _ _ i (j + 1) s x y' u w' v' Mx My S M l1 (by omega) bl.1 wx (by omega) okx ok' kx (by rw [kd']; exact ky) (by omega) (by omega) hx1 hy' C H'.swap
            exact ⟨o2, B2, l2, .part1 hf hs hle ax fq a2, out.scale fun z => ⟨sv z, bv z⟩⟩
/-! ### nested boxes: every asking ends -/
theorem eight_fit0 {a b c d e f g h m : Int} (hm : ∀ z ∈ [a, b, c, d, e, f, g, h], (z.natAbs : Int) ≤ m) (hC : 4 * m ≤ cap) : allFit [a, b, c, d, e, f, g, h] (eightCorners [a, b, c, d, e, f, g, h]) = true := by
  have m1 := hm a (by simp)
  have m2 := hm b (by simp)
  have m3 := hm c (by simp)
  have m4 := hm d (by simp)
  have m5 := hm e (by simp)
  have m6 := hm f (by simp)
  have m7 := hm g (by simp)
  have m8 := hm h (by simp)
  have F : ∀ {z : Int}, (z.natAbs : Int) ≤ 4 * m → decide (fits z) = true := fun {z} hz => decide_eq_true (cap_fits (by omega))
  show ([a, b, c, d, e, f, g, h].all (fun z => decide (fits z)) && [(a, e), (a + b, e + f), (a + c, e + g), (a + b + c + d, e + f + g + h)].all fun c => decide (fits c.1) && decide (fits c.2)) = true
  simp only [List.all_cons, List.all_nil, F (z := a) (by omega), F (z := b) (by omega), F (z := c) (by omega), F (z := d) (by omega), F (z := e) (by omega), F (z := f) (by omega), F (z := g) (by omega), F (z := h) (by omega), F (z := a + b) (by omega), F (z := a + c) (by omega), F (z := a + b + c + d) (by omega), F (z := e + f) (by omega), F (z := e + g) (by omega), F (z := e + f + g + h) (by omega), Bool.and_self]
/-- the second child's first part, by the corners of the first one -/
theorem J8.start {a b c d S1 S My q : Int} {u z w' : Int × Int} (J1 : J2 (a.natAbs : Int) ((a + c).natAbs : Int) u.1 u.2 S1) (J3 : J2 (b.natAbs : Int) ((b + d).natAbs : Int) u.1 u.2 S1) (hu : NTold u) (hS : 4 * (S1 * My) ≤ S) (z2 : 0 < z.2) (lo : q * z.2 ≤ z.1) (hi : z.1 ≤ (q + 1) * z.2) (bz : NBd My z) (sc : Sc (z.2, z.1 - q * z.2) w') (hw' : NTold w') :
    J8 ((a * q + b).natAbs : Int) ((a * q + b + a).natAbs : Int) ((a * q + b + (c * q + d)).natAbs : Int) ((a * q + b + a + (c * q + d) + c).natAbs : Int) u.1 u.2 w'.1 w'.2 S := by
  obtain ⟨u0, u1, u2⟩ := hu
  have S10 : 0 ≤ S1 := by have := J1.2.1; omega
  have b1 := bz.1
  have b2 := bz.2
  have e1 : a * q + b + (c * q + d) = (a + c) * q + (b + d) := by grind
  have e2 : a * q + b + a + (c * q + d) + c = (a + c) * q + (b + d) + (a + c) := by grind
  rw [e2, e1]
  have ab : ∀ x y : Int, ((x * q + y).natAbs : Int) ≤ (x.natAbs : Int) * (q.natAbs : Int) + (y.natAbs : Int) ∧ ((x * q + y + x).natAbs : Int) ≤ (x.natAbs : Int) * (q.natAbs : Int) + (x.natAbs : Int) + (y.natAbs : Int) := fun x y => by
    have e : ((x * q).natAbs : Int) = (x.natAbs : Int) * (q.natAbs : Int) := by rw [Int.natAbs_mul, Int.natCast_mul]
    exact ⟨by omega, by omega⟩
  obtain ⟨p1, p2⟩ := ab a b
  obtain ⟨p3, p4⟩ := ab (a + c) (b + d)
  have n00 : 0 ≤ ((a * q + b).natAbs : Int) := by omega
  have n01 : 0 ≤ ((a * q + b + a).natAbs : Int) := by omega
  have n10 : 0 ≤ (((a + c) * q + (b + d)).natAbs : Int) := by omega
  have n11 : 0 ≤ (((a + c) * q + (b + d) + (a + c)).natAbs : Int) := by omega
  generalize ((a * q + b).natAbs : Int) = P00 at *
  generalize ((a * q + b + a).natAbs : Int) = P01 at *
  generalize (((a + c) * q + (b + d)).natAbs : Int) = P10 at *
  generalize (((a + c) * q + (b + d) + (a + c)).natAbs : Int) = P11 at *
  have w0 : 0 ≤ u.1 - u.2 := by omega
  have na : 0 ≤ (a.natAbs : Int) := by omega
  have nac : 0 ≤ ((a + c).natAbs : Int) := by omega
  have nb : 0 ≤ (b.natAbs : Int) := by omega
  have nbd : 0 ≤ ((b + d).natAbs : Int) := by omega
  generalize (a.natAbs : Int) = A0 at *
  generalize ((a + c).natAbs : Int) = A1 at *
  generalize (b.natAbs : Int) = B0 at *
  generalize ((b + d).natAbs : Int) = B1 at *
  have nq : 0 ≤ (q.natAbs : Int) := by omega
  have m1 := Int.mul_le_mul_of_nonneg_right p1 w0
  have m2 := Int.mul_le_mul_of_nonneg_right p2 w0
  have m3 := Int.mul_le_mul_of_nonneg_right p3 u0
  have m4 := Int.mul_le_mul_of_nonneg_right p4 u0
  have x1 := Int.mul_nonneg na w0
  have x2 := Int.mul_nonneg nac u0
  have f1 : (A0 * (q.natAbs : Int) + B0) * (u.1 - u.2) + (A1 * (q.natAbs : Int) + B1) * u.2 = (A0 * (u.1 - u.2) + A1 * u.2) * (q.natAbs : Int) + (B0 * (u.1 - u.2) + B1 * u.2) := by grind
  have f2 : (A0 * (q.natAbs : Int) + A0 + B0) * (u.1 - u.2) + (A1 * (q.natAbs : Int) + A1 + B1) * u.2 = (A0 * (u.1 - u.2) + A1 * u.2) * (q.natAbs : Int) + (A0 * (u.1 - u.2) + A1 * u.2) + (B0 * (u.1 - u.2) + B1 * u.2) := by grind
  have full := J2.start (A := A0 * (u.1 - u.2) + A1 * u.2) (B := B0 * (u.1 - u.2) + B1 * u.2) (p := P00 * (u.1 - u.2) + P10 * u.2) (r := P01 * (u.1 - u.2) + P11 * u.2) (M := My) S10 (by omega) J1.1 J3.1 (by omega) (by omega) (show 1 ≤ z.2 by omega) lo hi (by omega) (by omega) (by omega)
  have t0 := J2.start (A := A0) (B := B0) (p := P00) (r := P01) (m := 2 * S1) (M := My) (by omega) na J1.2.1 J3.2.1 p1 p2 (show 1 ≤ z.2 by omega) lo hi (by omega) (by omega) (by omega)
  have t1 := J2.start (A := A1) (B := B1) (p := P10) (r := P11) (m := 3 * S1) (M := My) (by omega) nac J1.2.2 J3.2.2 p3 p4 (show 1 ≤ z.2 by omega) lo hi (by omega) (by omega) (by omega)
  have k2 : 2 * S1 * My = 2 * (S1 * My) := by grind
  have k3 : 3 * S1 * My = 3 * (S1 * My) := by grind
  rw [k2] at t0
  rw [k3] at t1
  have fe : (P00 * (z.2 - (z.1 - q * z.2)) + P01 * (z.1 - q * z.2)) * (u.1 - u.2) + (P10 * (z.2 - (z.1 - q * z.2)) + P11 * (z.1 - q * z.2)) * u.2 = (P00 * (u.1 - u.2) + P10 * u.2) * (z.2 - (z.1 - q * z.2)) + (P01 * (u.1 - u.2) + P11 * u.2) * (z.1 - q * z.2) := by grind
  have J : J8 P00 P01 P10 P11 u.1 u.2 z.2 (z.1 - q * z.2) S := by
    have g1 := full.1
    have g2 := full.2.1
    have g3 := full.2.2
    have h1 := t0.1
    have h2 := t0.2.1
    have h3 := t0.2.2
    have i1 := t1.1
    have i2 := t1.2.1
    have i3 := t1.2.2
    exact ⟨by omega, by omega, by omega, by omega, by omega, by omega, by omega, by omega, by omega⟩
  obtain ⟨k, k1, s1, s2⟩ := sc
  exact (J.swap.scale n00 n10 n01 n11 w0 u0 k1 s1 s2 hw'.1 hw'.2.1).swap
/-- an eight of whose second child nothing was taken yet -/
theorem eight_one {n : Nat} {D : Int} (X : Tot D n) {a b c d e f g h : Int} {x y : Box} {u w v : Int × Int} {Mx My m S1 S M l : Int} (hl : 0 ≤ l) (wx : x.wt + 1 ≤ n) (wy : y.wt + 1 ≤ n) (okx : x.Ok) (oky : y.Ok) (kx : x.kind ≠ 1) (ky : y.kind ≠ 1) (hx : Inv (l + D) x true u Mx) (hy : Inv (l + D) y false w My)
    (I : eightI a b c d e f g h 1 0 false u w v Mx My m S1 S M) : ∃ o B' l', Asks (.eight [a, b, c, d, e, f, g, h] 1 0 false x y) l o B' l' ∧ OutI (Inv (l' + D)) o B' false v M := by
  obtain ⟨h1, h2, h3, h4, h5, h6, h7, h8, h9, h10, h11, h12, h13, h14, h15⟩ := id I
  obtain ⟨_, j1, j2, j3, j4⟩ := h13 (by decide) rfl
  have hu := hx.told.1
  have S10 : 0 ≤ S1 := by have := j1.2.1; omega
  have SS : S1 ≤ S := by
    have := Int.mul_le_mul_of_nonneg_left h4 S10
    omega
  have c1 := j1.2.1
  have c2 := j1.2.2
  have c3 := j2.2.1
  have c4 := j2.2.2
  have c5 := j3.2.1
  have c6 := j3.2.2
  have c7 := j4.2.1
  have c8 := j4.2.2
  have hf : allFit [a, b, c, d, e, f, g, h] (eightCorners [a, b, c, d, e, f, g, h]) = true := by
    refine eight_fit0 (m := 5 * S1) (fun z hz => ?_) (by omega)
    simp only [List.mem_cons, List.not_mem_nil, or_false] at hz
    rcases hz with rfl | rfl | rfl | rfl | rfl | rfl | rfl | rfl <;> omega
  have hs : sureE [a, b, c, d, e, f, g, h] 1 0 = none := if_neg (by decide)
  have hle : ¬ (1 : Int) ≤ 0 := by decide
  obtain ⟨o, y', l1, ax, h0, hwt, hfin, hpart⟩ := X y l false w My (by omega) oky hl hy (fun z => (by cases z))
  obtain ⟨n0, en0⟩ := askF_up ax
  obtain ⟨ok', wt', kd'⟩ := askF_ok oky (en0 n0 (Nat.le_refl _))
  have bl := ax.left hl
  have hx1 := hx.mono (l' := l1 + D) (by have := bl.2.1; omega)
  have back : ∀ {y' : Box} {w' : Int × Int}, Inv (l1 + D) y' false w' My → Inv (l1 + D) (.eight [a, b, c, d, e, f, g, h] 1 0 false x y') false v M := fun {y' w'} hy' =>
    ⟨rfl, a, b, c, d, e, f, g, h, u, w', Mx, My, m, S1, S, rfl, hx1, hy', h1, h2, h3, h4, h5, h6, h7, h8, h9, h10, h11, h12, h13, fun z => absurd z (by decide), fun z => (by cases z)⟩
  match o, ax, h0, hwt, hfin, hpart with
  | none, ax, h0, _, _, _ =>
    obtain ⟨_, w', hy'⟩ := h0 rfl
    exact ⟨_, _, _, .none1 hf hs hle ax, fun _ => ⟨rfl, v, back hy'⟩, fun z => (by cases z), fun z => (by cases z), fun q z => (by cases z)⟩
  | some .waits, ax, _, hwt, _, _ =>
    obtain ⟨w', hy', _⟩ := hwt rfl
    exact ⟨_, _, _, .wait1 hf hs hle ax, fun z => (by cases z), fun _ => ⟨v, back hy', fun z => (by cases z)⟩, fun z => (by cases z), fun q z => (by cases z)⟩
  | some .fin, ax, _, _, hfin, _ => exact absurd (hfin rfl).1 (by decide)
  | some (.part q), ax, _, _, _, hpart =>
    obtain ⟨z, w', bz, z2, lo, hi, hy', sc, _⟩ := hpart q rfl
    have hw' := hy'.told.1
    have fq := first_fits z2 lo hi bz h5
    have H' : eightC (a * q + b) a (c * q + d) c (e * q + f) e (g * q + h) g false u w' v S := ⟨J8.start j1 j2 hu h7 z2 lo hi bz sc hw', J8.start j3 j4 hu h7 z2 lo hi bz sc hw', fun z => (by cases z)⟩
    obtain ⟨o2, B2, l2, a2, out⟩ := eight_loop X (u.1 + u.2 + (w'.1 + w'.2)).toNat _ _ _ _ _ _ _ _ 1 (0 + 1) false x y' u w' v Mx My S M l1 (by obtain ⟨_, _, _⟩ := hu; obtain ⟨_, _, _⟩ := hw'; omega) bl.1 wx (by omega) okx ok' kx (by rw [kd']; exact ky) (by decide) (by omega) hx1 hy' ⟨h2, h3, h4, h5, h8, h9⟩ H'
    exact ⟨o2, B2, l2, .part1 hf hs hle ax fq a2, out⟩
/-! ### nested boxes: every asking ends, of any tree -/
theorem eight_tot {n : Nat} {D : Int} (X : Tot D n) {ns : List Int} {i j : Int} {told s : Bool} {x y : Box} {v : Int × Int} {M l : Int} (hl : 0 ≤ l) (wx : x.wt + 1 ≤ n) (wy : y.wt + 1 ≤ n) (okx : x.Ok) (oky : y.Ok) (kx : x.kind ≠ 1) (ky : y.kind ≠ 1) (h : Inv (l + D) (.eight ns i j told x y) s v M) : ∃ o B' l', Asks (.eight ns i j told x y) l o B' l' ∧ OutI (Inv (l' + D)) o B' s v M := by
  obtain ⟨rfl, a, b, c, d, e, f, g, h, u, w, Mx, My, m, S1, S, rfl, hx, hy, I⟩ := h
  obtain ⟨h1, h2, h3, h4, h5, h6, h7, h8, h9, h10, h11, h12, h13, h14, h15⟩ := id I
  by_cases hj : 1 ≤ j
  · rw [decide_eq_true (show 0 < i by omega)] at hx
    rw [decide_eq_true (show 0 < j by omega)] at hy
    have hu := hx.told.1
    have hw := hy.told.1
    exact eight_loop X (u.1 + u.2 + (w.1 + w.2)).toNat a b c d e f g h i j told x y u w v Mx My S M l (by obtain ⟨_, _, _⟩ := hu; obtain ⟨_, _, _⟩ := hw; omega) hl wx wy okx oky kx ky (by omega) h11 hx hy ⟨h2, h3, h4, h5, h8, h9⟩ ⟨(h14 hj).1, (h14 hj).2, fun z => (h15 z).2⟩
  · have hj0 : j = 0 := by omega
    subst hj0
    rcases h11 with hi | hi
    · subst hi
      obtain ⟨rfl, hm⟩ := h12 rfl
      have hx : Inv (l + D) x false u Mx := hx
      have hy : Inv (l + D) y false w My := hy
      have mS : m ≤ S1 := by
        have := Int.mul_le_mul_of_nonneg_left h2 h1
        omega
      have SS : S1 ≤ S := by
        have := Int.mul_le_mul_of_nonneg_left h4 (show 0 ≤ S1 by omega)
        omega
      have hf := eight_fit0 hm (by omega)
      have hs : sureE [a, b, c, d, e, f, g, h] 0 0 = none := if_neg (by decide)
      have hle : (0 : Int) ≤ 0 := by decide
      obtain ⟨o, x', l1, ax, h0, hwt, hfin, hpart⟩ := X x l false u Mx (by omega) okx hl hx (fun z => (by cases z))
      obtain ⟨n0, en0⟩ := askF_up ax
      obtain ⟨ok', wt', kd'⟩ := askF_ok okx (en0 n0 (Nat.le_refl _))
      have bl := ax.left hl
      have hy1 := hy.mono (l' := l1 + D) (by have := bl.2.1; omega)
      have back : ∀ {x' : Box} {u' : Int × Int}, Inv (l1 + D) x' false u' Mx → Inv (l1 + D) (.eight [a, b, c, d, e, f, g, h] 0 0 false x' y) false v M := fun {x' u'} hx' =>
        ⟨rfl, a, b, c, d, e, f, g, h, u', w, Mx, My, m, S1, S, rfl, hx', hy1, h1, h2, h3, h4, h5, h6, h7, h8, h9, h10, .inl rfl, h12, fun z => absurd z (by decide), fun z => absurd z (by decide), fun z => (by cases z)⟩
      match o, ax, h0, hwt, hfin, hpart with
      | none, ax, h0, _, _, _ =>
        obtain ⟨_, u', hx'⟩ := h0 rfl
        exact ⟨_, _, _, .none0 hf hs hle ax, fun _ => ⟨rfl, v, back hx'⟩, fun z => (by cases z), fun z => (by cases z), fun q z => (by cases z)⟩
      | some .waits, ax, _, hwt, _, _ =>
        obtain ⟨u', hx', _⟩ := hwt rfl
        exact ⟨_, _, _, .wait0 hf hs hle ax, fun z => (by cases z), fun _ => ⟨v, back hx', fun z => (by cases z)⟩, fun z => (by cases z), fun q z => (by cases z)⟩
      | some .fin, ax, _, _, hfin, _ => exact absurd (hfin rfl).1 (by decide)
      | some (.part q), ax, _, _, _, hpart =>
        obtain ⟨z, u', bz, z2, lo, hi, hx', sc, _⟩ := hpart q rfl
        have hu' := hx'.told.1
        have fq := first_fits z2 lo hi bz h3
        have b1 := bz.1
        have b2 := bz.2
        have key : ∀ {p r : Int}, (p.natAbs : Int) ≤ m → (r.natAbs : Int) ≤ m → J2 ((p * q + r).natAbs : Int) ((p * q + r + p).natAbs : Int) u'.1 u'.2 S1 := fun {p r} hp hr => by
          have e : ((p * q).natAbs : Int) = (p.natAbs : Int) * (q.natAbs : Int) := by rw [Int.natAbs_mul, Int.natCast_mul]
          have J := J2.start (A := (p.natAbs : Int)) (B := (r.natAbs : Int)) (p := ((p * q + r).natAbs : Int)) (r := ((p * q + r + p).natAbs : Int)) (M := Mx) h1 (by omega) hp hr (by omega) (by omega) (show 1 ≤ z.2 by omega) lo hi (by omega) (by omega) (by omega)
          obtain ⟨k, k1, e1, e2⟩ := sc
          exact (J.scale (by omega) (by omega) k1 e1 e2 hu'.1 hu'.2.1).up h6
        have mm := fun z hz => hm z hz
        have I' : eightI (a * q + c) (b * q + d) a b (e * q + g) (f * q + h) e f 1 0 false u' w v Mx My m S1 S M :=
          ⟨h1, h2, h3, h4, h5, h6, h7, h8, h9, by decide, .inr rfl, fun z => absurd z (by decide), fun _ _ => ⟨rfl, key (mm a (by simp)) (mm c (by simp)), key (mm b (by simp)) (mm d (by simp)), key (mm e (by simp)) (mm g (by simp)), key (mm f (by simp)) (mm h (by simp))⟩, fun z => absurd z (by decide), fun z => (by cases z)⟩
        obtain ⟨o2, B2, l2, a2, out⟩ := eight_one X bl.1 (by omega) wy ok' oky (by rw [kd']; exact kx) ky hx' hy1 I'
        exact ⟨o2, B2, l2, .part0 hf hs hle ax fq a2, out⟩
    · subst hi
      obtain ⟨rfl, _⟩ := h13 (by decide) rfl
      exact eight_one X hl wx wy okx oky kx ky hx hy I
theorem tot_all {D : Int} (hD : 0 ≤ D) : ∀ n, Tot D n
  | n, .leaf c, l, s, v, M, _, _, hl, h, _ => ⟨_, _, _, .leaf, (leaf_out hD h).map fun s v M ⟨c', e, z⟩ => by cases e; exact z⟩
  | n, .fb t b told, l, s, v, M, _, _, hl, h, _ => by
    obtain ⟨r, e, o⟩ := rest_out h
    exact ⟨_, _, _, .fb e, o.map fun s v M ⟨t, b, told, e, z⟩ => by cases e; exact z⟩
  | n, .fourR t b told, l, s, v, M, _, _, hl, h, _ => rest_tot h
  | 0, .four ns st told x, l, s, v, M, hw, _, _, _, _ => by
    have hw : x.wt + 1 ≤ 0 := hw
    omega
  | n + 1, .four ns st told x, l, s, v, M, hw, ok, hl, h, _ => by
    have hw : x.wt + 1 ≤ n + 1 := hw
    exact four_tot (tot_all hD n) hl (by omega) ok.2.1 ok.2.2 h
  | 0, .eight ns i j told x y, l, s, v, M, hw, _, _, _, _ => by
    have hw : max x.wt y.wt + 3 ≤ 0 := hw
    omega
  | n + 1, .eight ns i j told x y, l, s, v, M, hw, ok, hl, h, _ => by
    have hw : max x.wt y.wt + 3 ≤ n + 1 := hw
    exact eight_tot (tot_all hD n) hl (by omega) (by omega) ok.2.1 ok.2.2.1 ok.2.2.2.1 ok.2.2.2.2.1 h
  | 0, .eightR r, l, s, v, M, hw, _, _, _, _ => by
    have hw : r.wt + 2 ≤ 0 := hw
    omega
  | n + 1, .eightR r, l, s, v, M, hw, ok, hl, h, hs => by
    have hw : r.wt + 2 ≤ n + 1 := hw
    obtain ⟨o, r', l', a, out⟩ := tot_all hD n r l s v M (by omega) ok.1 hl h hs
    exact ⟨o, .eightR r', l', .rest a, out.map fun _ _ _ z => z⟩
/-- every asking of a box of which Inv holds ends, and leaves one of which it holds -/
theorem asks_all {B : Box} {l D : Int} {s : Bool} {v : Int × Int} {M : Int} (ok : B.Ok) (hl : 0 ≤ l) (hD : 0 ≤ D) (h : Inv (l + D) B s v M) : ∃ o B' l', Asks B l o B' l' ∧ OutI (Inv (l' + D)) o B' s v M :=
  tot_all hD B.wt B l s v M (Nat.le_refl _) ok hl h fun z => by cases s with | true => exact h.told | false => cases z
/-! ### what holds of a tree's boxes at their start -/
theorem foldE {e : Nat} : ∀ (r : List Int), (∀ p ∈ r, p.natAbs + 1 ≤ 2 ^ e) → (fold r).1.natAbs ≤ 2 ^ (e * r.length) ∧ (fold r).2.natAbs ≤ 2 ^ (e * r.length)
  | [], _ => ⟨by show 1 ≤ 2 ^ (e * 0); rw [Nat.mul_zero]; decide, Nat.zero_le _⟩
  | p :: r, h => by
    obtain ⟨h1, h2⟩ := foldE r fun q hq => h q (List.mem_cons_of_mem _ hq)
    have hp := h p List.mem_cons_self
    have ep : 2 ^ (e * (r.length + 1)) = 2 ^ e * 2 ^ (e * r.length) := by rw [Nat.mul_add, Nat.mul_one, Nat.pow_add, Nat.mul_comm]
    show (p * (fold r).1 + (fold r).2).natAbs ≤ 2 ^ (e * (r.length + 1)) ∧ (fold r).1.natAbs ≤ 2 ^ (e * (r.length + 1))
    rw [ep]
    have e4 := Int.natAbs_add_le (p * (fold r).1) (fold r).2
    have e5 : (p * (fold r).1).natAbs ≤ p.natAbs * 2 ^ (e * r.length) := by
      rw [Int.natAbs_mul]
      exact Nat.mul_le_mul_left _ h1
    have e6 : (p.natAbs + 1) * 2 ^ (e * r.length) ≤ 2 ^ e * 2 ^ (e * r.length) := Nat.mul_le_mul_right _ hp
    have e7 : (p.natAbs + 1) * 2 ^ (e * r.length) = p.natAbs * 2 ^ (e * r.length) + 2 ^ (e * r.length) := by rw [Nat.add_mul, Nat.one_mul]
    have e8 : 1 * 2 ^ (e * r.length) ≤ 2 ^ e * 2 ^ (e * r.length) := Nat.mul_le_mul_right _ (by omega)
    omega
theorem tp_len : ∀ (T : Nat) (c : Chain), (tp T c).length ≤ T
  | 0, _ => Nat.le_refl _
  | T + 1, c => by
    show (if c.ended = true then [] else c.part :: tp T c.next).length ≤ T + 1
    split
    · exact Nat.zero_le _
    · rw [List.length_cons]
      have := tp_len T c.next
      omega
/-- a leaf at its start: its parts bounded, those behind the first one 1 or more -/
theorem leaf_start {c : Chain} {T e : Nat} {v : Int × Int} (he : c.ended = false) (h1 : ∀ p ∈ (tp T c).tail, 1 ≤ p) (hp : ∀ p ∈ tp T c, p.natAbs + 1 ≤ 2 ^ e) : Inv (T : Int) (.leaf c) false v ((2 ^ (e * T) : Nat) : Int) := by
  obtain ⟨b1, b2⟩ := foldE (tp T c) hp
  have le : 2 ^ (e * (tp T c).length) ≤ 2 ^ (e * T) := Nat.pow_le_pow_right (by decide) (Nat.mul_le_mul_left _ (tp_len T c))
  exact ⟨T, Int.le_refl _, ⟨Int.ofNat_le.mpr (Nat.le_trans b1 le), Int.ofNat_le.mpr (Nat.le_trans b2 le)⟩, h1, fun z => (by cases z), fun _ => he⟩
theorem four_start {a b c d m Mx L : Int} {x : Box} {u v : Int × Int} (hx : Inv L x false u Mx) (hm : 0 ≤ m) (h1 : 1 ≤ Mx) (h2 : Mx + 2 ≤ cap) (hS : 8 * (4 * (m * Mx)) ≤ cap) (ha : (a.natAbs : Int) ≤ m) (hb : (b.natAbs : Int) ≤ m) (hc : (c.natAbs : Int) ≤ m) (hd : (d.natAbs : Int) ≤ m) : Inv L (.four [a, b, c, d] false false x) false v (4 * (m * Mx)) :=
  ⟨rfl, a, b, c, d, u, Mx, m, 4 * (m * Mx), rfl, hx, hm, h1, h2, Int.le_refl _, Int.le_refl _, hS, fun _ => ⟨rfl, ha, hb, hc, hd⟩, fun z => (by cases z), fun z => (by cases z)⟩
theorem eight_start {a b c d e f g h m Mx My L : Int} {x y : Box} {u w v : Int × Int} (hx : Inv L x false u Mx) (hy : Inv L y false w My) (hm : 0 ≤ m) (h1 : 1 ≤ Mx) (h2 : Mx + 2 ≤ cap) (h3 : 1 ≤ My) (h4 : My + 2 ≤ cap) (hS : 64 * (4 * (4 * (m * Mx) * My)) ≤ cap) (ha : ∀ z ∈ [a, b, c, d, e, f, g, h], (z.natAbs : Int) ≤ m) :
    Inv L (.eight [a, b, c, d, e, f, g, h] 0 0 false x y) false v (16 * (4 * (4 * (m * Mx) * My))) :=
  ⟨rfl, a, b, c, d, e, f, g, h, u, w, Mx, My, m, 4 * (m * Mx), 4 * (4 * (m * Mx) * My), rfl, hx, hy, hm, h1, h2, h3, h4, Int.le_refl _, Int.le_refl _, Int.le_refl _, hS, Int.le_refl _, .inl rfl, fun _ => ⟨rfl, ha⟩, fun z => absurd z (by decide), fun z => absurd z (by decide), fun z => (by cases z)⟩
theorem tp_frac : ∀ (T : Nat) (t b : Int), tp T (.frac t b) = (chain t b).take T
  | 0, _, _ => rfl
  | T + 1, t, b => by
    by_cases h : b = 0
    · subst h
      rw [chain_zero]
      exact if_pos rfl
    · have he : Chain.ended (.frac t b) = false := decide_eq_false h
      rw [chain_cons h, List.take_succ_cons, ← tp_frac T b (t.fmod b)]
      exact if_neg (by rw [he]; decide)
/-! ### a reading that waits and goes on, beside one that is asked with much -/
/-- B is what became of C by askings that waited, d parts of leaves having been taken -/
def Pend (C B : Box) (d : Int) : Prop := 0 ≤ d ∧ ((d = 0 ∧ C = B) ∨ Asks C d (some .waits) B 0)
theorem Pend.new (B : Box) : Pend B B 0 := ⟨Int.le_refl _, .inl ⟨rfl, rfl⟩⟩
theorem Pend.ask {C B : Box} {d q : Int} {o : Option Ans} {B' : Box} {l' : Int} (h : Pend C B d) (hq : 0 ≤ q) (a : Asks B q o B' l') : Asks C (d + q) o B' l' := by
  obtain ⟨d0, ⟨rfl, rfl⟩ | w⟩ := h
  · rw [Int.zero_add]; exact a
  · exact w.on q hq d0 rfl a
/-- it waits once more -/
theorem Pend.wait {C B : Box} {d q : Int} {B' : Box} {l' : Int} (h : Pend C B d) (hq : 0 ≤ q) (a : Asks B q (some .waits) B' l') : Pend C B' (d + q) := by
  have z := (a.left hq).2.2 rfl
  subst z
  exact ⟨by have := h.1; omega, .inr (h.ask hq a)⟩
/-- it tells: so does the other one, which takes as many in all -/
theorem Pend.tell {C B : Box} {d q big : Int} {o : Option Ans} {B' : Box} {l' : Int} (h : Pend C B d) (hq : 0 ≤ q) (a : Asks B q o B' l') (ho : o ≠ some .waits) (hb : d + q ≤ big) : Asks C big o B' (big - (d + (q - l'))) := by
  have z := (h.ask hq a).more (big - (d + q)) (by omega) ho
  rw [show d + q + (big - (d + q)) = big by omega, show l' + (big - (d + q)) = big - (d + (q - l')) by omega] at z
  exact z
/-! ### any good tree's boxes at their start: bounds of all that may come -/
theorem root_part_pos {t s b r : Int} (h : RootOk t s b r) : 1 ≤ rootPart (rootPart t b r * b - t) ((s - (rootPart t b r * b - t) * (rootPart t b r * b - t)).fdiv b) r := by
  obtain ⟨sp, sn⟩ := root_step h rfl
  have nx := root_next h
  obtain ⟨⟨r0, r1, r2⟩, ns, nz, ⟨q, hq⟩, _⟩ := h
  generalize rootPart t b r = a at *
  have hd : s - (a * b - t) * (a * b - t) = (q - a * (a * b - 2 * t)) * b := by
    have e : s - (a * b - t) * (a * b - t) = (s - t * t) - (a * (a * b - 2 * t)) * b := by grind
    rw [e, hq]
    grind
  have e2 : (s - (a * b - t) * (a * b - t)).fdiv b = q - a * (a * b - 2 * t) := by
    rw [hd]
    exact Int.mul_fdiv_cancel _ nz
  rw [e2] at nx ⊢
  have cz := nx.nz
  generalize q - a * (a * b - 2 * t) = c at *
  generalize a * b - t = u at *
  have r3 : r * r < s := by omega
  have ex : (r + 1) * (r + 1) = r * r + 2 * r + 1 := by grind
  have one : ∀ {x y : Int}, 0 < y → y ≤ x → 1 ≤ x.fdiv y := fun {x y} hy hx => by
    have := (fdiv_bounds (a := x) hy).2
    rcases Int.lt_or_le 0 (x.fdiv y) with z | z
    · omega
    · have := Int.mul_le_mul_of_nonneg_right (show x.fdiv y + 1 ≤ 1 by omega) (Int.le_of_lt hy)
      omega
  unfold rootPart
  rcases Int.lt_or_gt_of_ne nz with hb | hb
  · obtain ⟨u1, u2⟩ := sn hb
    have uu : (r + 1) * (r + 1) ≤ u * u := Int.mul_le_mul u1 u1 (by omega) (by omega)
    have c0 : 0 < c := by
      rcases Int.lt_or_le 0 c with z | z
      · exact z
      · have := Int.mul_nonneg_of_nonpos_of_nonpos z (Int.le_of_lt hb)
        omega
    rw [if_neg (by omega), Int.add_zero]
    refine one c0 ?_
    refine le_of_mul (b := -b) (by omega) ?_
    have k := Int.mul_le_mul_of_nonneg_left (show u - r ≤ -b by omega) (show 0 ≤ u + r by omega)
    have e1 : c * -b = -(c * b) := by grind
    have e3 : (u + r) * (u - r) = u * u - r * r := by grind
    omega
  · obtain ⟨u1, u2⟩ := sp hb
    rcases Int.lt_or_gt_of_ne cz with hc | hc
    · rw [if_pos hc]
      have cb : 0 < -c * b := Int.mul_pos (by omega) hb
      have e1 : -c * b = -(c * b) := by grind
      have ur : u ≤ -r - 1 := by
        rcases Int.lt_or_le u (-r) with z | z
        · omega
        · have := Int.mul_nonneg (show 0 ≤ r - u by omega) (show 0 ≤ r + u by omega)
          have e : (r - u) * (r + u) = r * r - u * u := by grind
          omega
      have k : -c < -u - r := by
        refine lt_of_mul (b := b) hb ?_
        have k := Int.mul_le_mul_of_nonneg_left (show -u + r ≤ b by omega) (show 0 ≤ -u - r by omega)
        have e3 : (-u - r) * (-u + r) = u * u - r * r := by grind
        omega
      have z := one (x := -(u + r + 1)) (y := -c) (by omega) (by omega)
      rw [Int.neg_fdiv_neg] at z
      exact z
    · rw [if_neg (by omega), Int.add_zero]
      refine one hc ?_
      have cb : 0 < c * b := Int.mul_pos hc hb
      rcases Int.lt_or_le (u + r) c with z | z
      · exfalso
        have ur : 0 ≤ u + r + 1 := by
          rcases Int.lt_or_le (u + r + 1) 0 with y | y
          · have := Int.mul_le_mul (show r + 1 ≤ -u by omega) (show r + 1 ≤ -u by omega) (by omega) (by omega)
            have e : -u * -u = u * u := by grind
            omega
          · exact y
        have k1 := Int.mul_le_mul_of_nonneg_right (show u + r + 1 ≤ c by omega) (Int.le_of_lt hb)
        have k2 := Int.mul_le_mul_of_nonneg_left (show r + 1 - u ≤ b by omega) ur
        have e : (u + r + 1) * (r + 1 - u) = (r + 1) * (r + 1) - u * u := by grind
        omega
      · exact z
theorem root_part_bd {t s b r : Int} (h : RootOk t s b r) : (rootPart t b r).natAbs + 1 ≤ 2 ^ 302 := by
  have hr : r < 2 ^ 200 := lt_of_sq h.rt.1 h.rt.2.1 h.sw
  have r0 := h.rt.1
  have ht := h.tw
  have k : (rootPart t b r).natAbs ≤ (t + r + (if b < 0 then 1 else 0)).natAbs := fdiv_abs h.nz
  have p200 : (2 : Int) ^ 200 ≤ ((2 ^ 300 : Nat) : Int) := by decide
  have p302 : (2 : Nat) ^ 302 = 4 * 2 ^ 300 := by decide
  have p1 : 2 ≤ (2 : Nat) ^ 300 := by decide
  rw [p302]
  generalize (2 : Nat) ^ 300 = Z at *
  split at k <;> omega
/-- all parts that come within n steps are bounded -/
def Fine (n : Nat) : Chain → Prop
  | .frac t b => t.natAbs < 2 ^ 301 ∧ b.natAbs < 2 ^ 301
  | .root t s b r => RootOk t s b r
  | .ruled ps ring steps i => RuledGood ps ring steps ∧ i + n ≤ 2 ^ 200
/-- all parts that come are 1 or more -/
def Ones : Chain → Prop
  | .frac t b => b = 0 ∨ (0 < b ∧ b ≤ t) ∨ (b < 0 ∧ t ≤ b)
  | .root t s b r => RootOk t s b r ∧ 1 ≤ rootPart t b r
  | .ruled ps ring steps i => RuledGood ps ring steps ∧ 1 ≤ i
theorem getD_tame {xs : List Int} (h : ∀ z ∈ xs, tame z) (i : Nat) : tame (xs.getD i 0) := by
  by_cases hi : i < xs.length
  · rw [List.getD_eq_getElem?_getD, List.getElem?_eq_getElem hi, Option.getD_some]
    exact h _ (List.getElem_mem hi)
  · rw [List.getD_eq_getElem?_getD, List.getElem?_eq_none (by omega)]
    exact ⟨by decide, by decide⟩
theorem ruled_bd {ps ring steps : List Int} (g : RuledGood ps ring steps) {i : Nat} (hi : i ≤ 2 ^ 200) : (ruledAt ps ring steps i).natAbs + 1 ≤ 2 ^ 302 := by
  have big : ∀ {a b : Int} {n : Nat}, tame a → tame b → n ≤ 2 ^ 200 → (a + (n : Int) * b).natAbs + 1 ≤ 2 ^ 302 := fun {a b n} ha hb hn => by
    have h1 : a.natAbs ≤ 2 ^ 40 := by have := ha.1; have := ha.2; have : (2 : Nat) ^ 40 = 1099511627776 := by decide
                                      omega
    have h2 : b.natAbs ≤ 2 ^ 40 := by have := hb.1; have := hb.2; have : (2 : Nat) ^ 40 = 1099511627776 := by decide
                                      omega
    have h3 : ((n : Int) * b).natAbs ≤ 2 ^ 240 := by
      rw [Int.natAbs_mul, Int.natAbs_natCast, show (240 : Nat) = 200 + 40 from rfl, Nat.pow_add]
      exact Nat.mul_le_mul hn h2
    have h4 := Int.natAbs_add_le a ((n : Int) * b)
    have p1 : (2 : Nat) ^ 40 + 2 ^ 240 + 1 ≤ 2 ^ 302 := by decide
    omega
  unfold ruledAt
  split
  · have z := big (b := 0) (n := 0) (getD_tame g.tp i) ⟨by decide, by decide⟩ (Nat.zero_le _)
    rw [Int.mul_zero, Int.add_zero] at z
    exact z
  · exact big (getD_tame g.tr _) (getD_tame g.ts _) (Nat.le_trans (Nat.div_le_self _ _) (by omega))
theorem Fine.part : ∀ {n : Nat} {c : Chain}, Fine (n + 1) c → c.ended = false → c.part.natAbs + 1 ≤ 2 ^ 302 ∧ Fine n c.next
  | n, .frac t b, h, he => by
    have hb : b ≠ 0 := of_decide_eq_false he
    have k : (t.fdiv b).natAbs ≤ t.natAbs := fdiv_abs hb
    have e : (2 : Nat) ^ 302 = 2 * 2 ^ 301 := by decide
    have p : 1 ≤ (2 : Nat) ^ 301 := by decide
    have h1 := h.1
    refine ⟨?_, h.2, Nat.lt_trans (fmod_abs hb) h.2⟩
    show (t.fdiv b).natAbs + 1 ≤ 2 ^ 302
    rw [e]
    generalize (2 : Nat) ^ 301 = Z at *
    omega
  | n, .root t s b r, h, _ => ⟨root_part_bd h, root_next h⟩
  | n, .ruled ps ring steps i, h, _ => by
    have h2 : i + (n + 1) ≤ 2 ^ 200 := h.2
    exact ⟨ruled_bd h.1 (by omega), h.1, by omega⟩
theorem tp_fine : ∀ (T : Nat) (c : Chain), Fine T c → ∀ p ∈ tp T c, p.natAbs + 1 ≤ 2 ^ 302
  | 0, _, _, p, hp => by cases hp
  | T + 1, c, h, p, hp => by
    rw [tp] at hp
    split at hp
    · cases hp
    · rename_i he
      obtain ⟨h1, h2⟩ := h.part (by simpa using he)
      rcases List.mem_cons.mp hp with rfl | z
      · exact h1
      · exact tp_fine T c.next h2 p z
theorem ruled_one {ps ring steps : List Int} (g : RuledGood ps ring steps) {i : Nat} (hi : 1 ≤ i) (he : Chain.ended (.ruled ps ring steps i) = false) : 1 ≤ ruledAt ps ring steps i := by
  unfold ruledAt
  split
  · rename_i hlt
    rw [List.getD_eq_getElem?_getD, List.getElem?_eq_getElem hlt, Option.getD_some]
    refine g.one _ (List.mem_append_left _ ?_)
    obtain ⟨j, rfl⟩ : ∃ j, i = j + 1 := ⟨i - 1, by omega⟩
    cases ps with
    | nil => exact absurd rfl g.p1
    | cons p r => exact List.getElem_mem _
  · rename_i hlt
    have hr : ring ≠ [] := fun z => by
      rw [show Chain.ended (.ruled ps ring steps i) = (decide (ring = []) && decide (ps.length ≤ i)) from rfl, decide_eq_true z, decide_eq_true (show ps.length ≤ i by omega)] at he
      cases he
    have l0 : 0 < ring.length := List.length_pos_iff.mpr hr
    have lt := Nat.mod_lt (i - ps.length) l0
    have h1 : 1 ≤ ring.getD ((i - ps.length) % ring.length) 0 := by
      rw [List.getD_eq_getElem?_getD, List.getElem?_eq_getElem lt, Option.getD_some]
      exact g.one _ (List.mem_append_right _ (List.getElem_mem _))
    have h2 : 0 ≤ steps.getD ((i - ps.length) % ring.length) 0 := by
      have ls : (i - ps.length) % ring.length < steps.length := by rw [g.same]; exact lt
      rw [List.getD_eq_getElem?_getD, List.getElem?_eq_getElem ls, Option.getD_some]
      exact g.nn _ (List.getElem_mem _)
    have h3 := Int.mul_nonneg (Int.natCast_nonneg ((i - ps.length) / ring.length)) h2
    omega
theorem frac_ones {t b : Int} (hb : b ≠ 0) : Ones (.frac b (t.fmod b)) := by
  rcases Int.lt_or_gt_of_ne hb with z | z
  · have := fmod_neg (a := t) z
    by_cases e : t.fmod b = 0
    · exact .inl e
    · exact .inr (.inr ⟨by omega, by omega⟩)
  · have := fmod_pos (a := t) z
    by_cases e : t.fmod b = 0
    · exact .inl e
    · exact .inr (.inl ⟨by omega, by omega⟩)
theorem fdiv_one {x y : Int} (hy : 0 < y) (hx : y ≤ x) : 1 ≤ x.fdiv y := by
  have := (fdiv_bounds (a := x) hy).2
  rcases Int.lt_or_le 0 (x.fdiv y) with z | z
  · omega
  · have := Int.mul_le_mul_of_nonneg_right (show x.fdiv y + 1 ≤ 1 by omega) (Int.le_of_lt hy)
    omega
theorem Ones.part : ∀ {c : Chain}, Ones c → c.ended = false → 1 ≤ c.part ∧ Ones c.next
  | .frac t b, h, he => by
    have hb : b ≠ 0 := of_decide_eq_false he
    refine ⟨?_, frac_ones hb⟩
    rcases h with z | ⟨z1, z2⟩ | ⟨z1, z2⟩
    · exact absurd z hb
    · exact fdiv_one z1 z2
    · have := fdiv_one (x := -t) (y := -b) (by omega) (by omega)
      rw [Int.neg_fdiv_neg] at this
      exact this
  | .root t s b r, h, _ => ⟨h.2, root_next h.1, root_part_pos h.1⟩
  | .ruled ps ring steps i, h, he => ⟨ruled_one h.1 h.2 he, h.1, Nat.le_succ_of_le h.2⟩
theorem tp_ones : ∀ (T : Nat) (c : Chain), Ones c → ∀ p ∈ tp T c, 1 ≤ p
  | 0, _, _, p, hp => by cases hp
  | T + 1, c, h, p, hp => by
    rw [tp] at hp
    split at hp
    · cases hp
    · rename_i he
      obtain ⟨h1, h2⟩ := h.part (by simpa using he)
      rcases List.mem_cons.mp hp with rfl | z
      · exact h1
      · exact tp_ones T c.next h2 p z
theorem tail_ones {T : Nat} {c : Chain} (h : c.ended = false → Ones c.next) : ∀ p ∈ (tp T c).tail, 1 ≤ p := by
  cases T with
  | zero => intro p hp; cases hp
  | succ T =>
    intro p hp
    rw [tp] at hp
    split at hp
    · cases hp
    · rename_i he
      exact tp_ones T c.next (h (by simpa using he)) p hp
theorem tame_bits {z : Int} (h : tame z) : z.natAbs < 2 ^ 301 := by
  have h1 : z.natAbs < 2 ^ 41 := by have := h.1; have := h.2; have : (2 : Nat) ^ 41 = 2199023255552 := by decide
                                    omega
  exact Nat.lt_trans h1 (Nat.pow_lt_pow_right (by decide) (by decide))
/-- a good leaf's chain -/
theorem leaf_good {f : Leaf} {c : Chain} (g : f.Good) (s : f.Starts c) (ok : c.Ok) {T : Nat} (hT : T ≤ 2 ^ 200) : c.ended = false ∧ Fine T c ∧ (c.ended = false → Ones c.next) := by
  cases f with
  | frac t b =>
    have s : c = .frac t b := s
    subst s
    obtain ⟨g1, g2, g3⟩ := g
    exact ⟨decide_eq_false g3, ⟨tame_bits g1, tame_bits g2⟩, fun _ => frac_ones g3⟩
  | root t sq b =>
    obtain ⟨g1, g2, g3, g4, g5⟩ := g
    obtain ⟨r, hr, ⟨e, rfl⟩ | ⟨ne, q, hq, rfl⟩⟩ := s
    · refine ⟨decide_eq_false g5, ⟨?_, tame_bits g4⟩, fun _ => frac_ones g5⟩
      have r0 := hr.1
      have rs : r ≤ sq := by
        rw [← e]
        rcases Int.lt_or_le 0 r with z | z
        · have := Int.mul_le_mul_of_nonneg_left (show 1 ≤ r by omega) r0
          omega
        · have : r = 0 := by omega
          rw [this]; decide
      have := g1.1
      have := g1.2
      have := g2.2
      have h1 : (t + r).natAbs < 2 ^ 42 := by have : (2 : Nat) ^ 42 = 4398046511104 := by decide
                                              omega
      exact Nat.lt_trans h1 (Nat.pow_lt_pow_right (by decide) (by decide))
    · exact ⟨rfl, ok, fun _ => ⟨root_next ok, root_part_pos ok⟩⟩
  | ruled ps ring steps =>
    have s : c = .ruled ps ring steps 0 := s
    subst s
    have g : RuledGood ps ring steps := g
    refine ⟨?_, ⟨g, by omega⟩, fun _ => ⟨g, Nat.le_refl _⟩⟩
    have l0 : 0 < ps.length := List.length_pos_iff.mpr g.p1
    show (decide (ring = []) && decide (ps.length ≤ 0)) = false
    rw [decide_eq_false (show ¬ ps.length ≤ 0 by omega), Bool.and_false]
/-- bits of all numbers, of a tree so high, T parts of each leaf -/
def tbits (T : Nat) : Nat → Nat
  | 0 => 302 * T
  | h + 1 => 4 * tbits T h + 400
theorem tbits_mono {T h k : Nat} (hk : h ≤ k) : tbits T h ≤ tbits T k := by
  induction hk with
  | refl => exact Nat.le_refl _
  | step _ ih =>
    refine Nat.le_trans ih ?_
    show _ ≤ 4 * tbits T _ + 400
    omega
def two (n : Nat) : Int := ((2 ^ n : Nat) : Int)
theorem two_one (n : Nat) : 1 ≤ two n := Int.ofNat_le.mpr (Nat.one_le_two_pow)
theorem two_mul (m n : Nat) : two m * two n = two (m + n) := by
  show ((2 ^ m : Nat) : Int) * ((2 ^ n : Nat) : Int) = ((2 ^ (m + n) : Nat) : Int)
  rw [Nat.pow_add, Int.natCast_mul]
theorem two_le {m n : Nat} (h : m ≤ n) : two m ≤ two n := Int.ofNat_le.mpr (Nat.pow_le_pow_right (by decide) h)
theorem two_cap {n : Nat} (h : n ≤ 9999990) : two n ≤ cap := by
  rw [cap_eq]
  exact two_le (Nat.le_trans h (by decide))
theorem two_cap2 {n : Nat} (h : n + 1 ≤ 9999990) (h1 : 1 ≤ n) : two n + 2 ≤ cap := by
  have e := two_mul 1 n
  have e1 : two 1 = 2 := rfl
  rw [e1] at e
  have := two_le h1
  rw [e1] at this
  have := two_cap (n := 1 + n) (by omega)
  omega
theorem tame_two {z : Int} (h : tame z) : (z.natAbs : Int) ≤ two 40 := by
  have e : two 40 = 1099511627776 := rfl
  have := h.1
  have := h.2
  rw [e]
  omega
/-- M may be greater -/
theorem Inv.up {l : Int} {v : Int × Int} {M M' : Int} (hM : M ≤ M') : ∀ {B : Box}, B.kind ≠ 1 → (match B with | .fourR _ _ _ => False | .eightR _ => False | _ => True) → Inv l B false v M → Inv l B false v M'
  | .leaf c, _, _, ⟨T, h1, h2, h3, h4, h5⟩ => ⟨T, h1, ⟨Int.le_trans h2.1 hM, Int.le_trans h2.2 hM⟩, h3, h4, h5⟩
  | .fb _ _ _, hk, _, _ => absurd rfl hk
  | .fourR _ _ _, _, hf, _ => hf.elim
  | .four ns st told x, _, _, ⟨h, a, b, c, d, u, Mx, m, S, e, hx, h1, h2, h3, h4, h5, r⟩ => ⟨h, a, b, c, d, u, Mx, m, S, e, hx, h1, h2, h3, h4, Int.le_trans h5 hM, r⟩
  | .eight ns i j told x y, _, _, ⟨h, a, b, c, d, e, f, g, k, u, w, Mx, My, m, S1, S, z, hx, hy, h1, h2, h3, h4, h5, h6, h7, h8, r⟩ => ⟨h, a, b, c, d, e, f, g, k, u, w, Mx, My, m, S1, S, z, hx, hy, h1, h2, h3, h4, h5, h6, h7, Int.le_trans h8 hM, r⟩
  | .eightR _, _, hf, _ => hf.elim
/-- a box as it is made -/
def Fresh : Box → Prop
  | .fourR _ _ _ => False
  | .eightR _ => False
  | .fb _ _ _ => False
  | _ => True
theorem Inv.up' {l : Int} {v : Int × Int} {M M' : Int} {B : Box} (hB : Fresh B) (hM : M ≤ M') (h : Inv l B false v M) : Inv l B false v M' := by
  cases B with
  | leaf c => exact Inv.up hM (by show 0 ≠ 1; decide) trivial h
  | fb _ _ _ => exact hB.elim
  | four _ _ _ _ => exact Inv.up hM (by show 2 ≠ 1; decide) trivial h
  | fourR _ _ _ => exact hB.elim
  | eight _ _ _ _ _ _ => exact Inv.up hM (by show 3 ≠ 1; decide) trivial h
  | eightR _ => exact hB.elim
theorem Inv.any {l : Int} {v v' : Int × Int} {M : Int} : ∀ {B : Box}, Fresh B → Inv l B false v M → Inv l B false v' M
  | .leaf c, _, ⟨T, h1, h2, h3, h4, h5⟩ => ⟨T, h1, h2, h3, fun z => (by cases z), h5⟩
  | .fb _ _ _, hf, _ => hf.elim
  | .fourR _ _ _, hf, _ => hf.elim
  | .four ns st told x, _, ⟨h, a, b, c, d, u, Mx, m, S, e, hx, h1, h2, h3, h4, h5, h6, h7, h8, _⟩ => ⟨h, a, b, c, d, u, Mx, m, S, e, hx, h1, h2, h3, h4, h5, h6, h7, h8, fun z => (by cases z)⟩
  | .eight ns i j told x y, _, ⟨h, a, b, c, d, e, f, g, k, u, w, Mx, My, m, S1, S, z, hx, hy, h1, h2, h3, h4, h5, h6, h7, h8, h9, h10, h11, h12, h13, h14, _⟩ => ⟨h, a, b, c, d, e, f, g, k, u, w, Mx, My, m, S1, S, z, hx, hy, h1, h2, h3, h4, h5, h6, h7, h8, h9, h10, h11, h12, h13, h14, fun z => (by cases z)⟩
  | .eightR _, hf, _ => hf.elim
theorem eight_tw {ns : List Int} {x y : Box} {L : Int} {nx ny m : Nat} {u w v : Int × Int} (hl : ns.length = 8) (hm : ∀ z ∈ ns, (z.natAbs : Int) ≤ two m) (hx : Inv L x false u (two nx)) (hy : Inv L y false w (two ny)) (p1 : 1 ≤ nx) (p2 : 1 ≤ ny) (h : nx + ny + m + 20 ≤ 9999990) :
    Inv L (.eight ns 0 0 false x y) false v (two (nx + ny + m + 8)) := by
  match ns, hl with
  | [a, b, c, d, e, f, g, k], _ =>
    have e1 : (4 : Int) * (two m * two nx) = two (m + nx + 2) := by rw [two_mul, show (4 : Int) = two 2 from rfl, two_mul, Nat.add_comm]
    have e2 : (4 : Int) * (two (m + nx + 2) * two ny) = two (m + nx + 2 + ny + 2) := by rw [two_mul, show (4 : Int) = two 2 from rfl, two_mul, Nat.add_comm]
    have e3 : (16 : Int) * two (m + nx + 2 + ny + 2) = two (nx + ny + m + 8) := by
      rw [show (16 : Int) = two 4 from rfl, two_mul]
      congr 1
      omega
    have e4 : (64 : Int) * two (m + nx + 2 + ny + 2) = two (nx + ny + m + 10) := by
      rw [show (64 : Int) = two 6 from rfl, two_mul]
      congr 1
      omega
    have z := eight_start (v := v) hx hy (Int.le_trans (by decide) (two_one m)) (two_one nx) (two_cap2 (n := nx) (by omega) p1) (two_one ny) (two_cap2 (n := ny) (by omega) p2) (by rw [e1, e2, e4]; exact two_cap (by omega)) hm
    rw [e1, e2, e3] at z
    exact z
theorem tree_inv {T : Nat} (hT : T ≤ 2 ^ 200) (hT1 : 1 ≤ T) : ∀ {t : Tree} {B : Box} {h : Nat} {v : Int × Int}, t.Good → t.Starts B → B.Ok → t.ht ≤ h → tbits T h + 100 ≤ 9999990 → Fresh B ∧ Inv T B false v (two (tbits T h))
  | .leaf f, B, h, v, g, s, ok, hh, hb => by
    obtain ⟨c, s, rfl⟩ := s
    obtain ⟨h1, h2, h3⟩ := leaf_good g s ok hT
    have z : Inv T (.leaf c) false v (two (tbits T 0)) := leaf_start (e := 302) h1 (tail_ones h3) (tp_fine T c h2)
    exact ⟨trivial, Inv.up' trivial (two_le (tbits_mono (Nat.zero_le _))) z⟩
  | .four ns x, B, 0, v, g, s, ok, hh, hb => absurd hh (by show ¬ x.ht + 1 ≤ 0; omega)
  | .four ns x, B, h + 1, v, g, s, ok, hh, hb => by
    obtain ⟨X, s, rfl⟩ := s
    obtain ⟨g1, g2, _, g4⟩ := g
    have hb' : 4 * tbits T h + 400 + 100 ≤ 9999990 := hb
    have hh : x.ht + 1 ≤ h + 1 := hh
    obtain ⟨_, hx⟩ := tree_inv hT hT1 (v := v) g4 s ok.2.1 (show x.ht ≤ h by omega) (by omega)
    have p1 : 1 ≤ tbits T h := by have := tbits_mono (T := T) (Nat.zero_le h); have e : tbits T 0 = 302 * T := rfl; omega
    refine ⟨trivial, ?_⟩
    match ns, g1 with
    | [a, b, c, d], _ =>
      have e1 : (4 : Int) * (two 40 * two (tbits T h)) = two (tbits T h + 42) := by
        rw [two_mul, show (4 : Int) = two 2 from rfl, two_mul]
        congr 1
        omega
      have e2 : (8 : Int) * two (tbits T h + 42) = two (tbits T h + 45) := by
        rw [show (8 : Int) = two 3 from rfl, two_mul]
        congr 1
        omega
      have z := four_start (v := v) hx (Int.le_trans (by decide) (two_one 40)) (two_one _) (two_cap2 (n := tbits T h) (by omega) p1) (by rw [e1, e2]; exact two_cap (by omega)) (tame_two (g2 a (by simp))) (tame_two (g2 b (by simp))) (tame_two (g2 c (by simp))) (tame_two (g2 d (by simp)))
      rw [e1] at z
      exact Inv.up' trivial (two_le (by show tbits T h + 42 ≤ 4 * tbits T h + 400; omega)) z
  | .eight ns x y, B, 0, v, g, s, ok, hh, hb => absurd hh (by show ¬ max x.ht y.ht + 1 ≤ 0; omega)
  | .eight ns x y, B, h + 1, v, g, s, ok, hh, hb => by
    obtain ⟨X, Y, s1, s2, rfl⟩ := s
    obtain ⟨g1, g2, _, g4, g5⟩ := g
    have hb' : 4 * tbits T h + 400 + 100 ≤ 9999990 := hb
    have hh : max x.ht y.ht + 1 ≤ h + 1 := hh
    obtain ⟨_, hx⟩ := tree_inv hT hT1 (v := v) g4 s1 ok.2.1 (show x.ht ≤ h by omega) (by omega)
    obtain ⟨_, hy⟩ := tree_inv hT hT1 (v := v) g5 s2 ok.2.2.1 (show y.ht ≤ h by omega) (by omega)
    have p1 : 1 ≤ tbits T h := by have := tbits_mono (T := T) (Nat.zero_le h); have e : tbits T 0 = 302 * T := rfl; omega
    exact ⟨trivial, Inv.up' trivial (two_le (by show tbits T h + tbits T h + 40 + 8 ≤ 4 * tbits T h + 400; omega)) (eight_tw (v := v) g1 (fun z hz => tame_two (g2 z hz)) hx hy p1 p1 (by omega))⟩
  | .power x n, B, 0, v, g, s, ok, hh, hb => absurd hh (by show ¬ x.ht + 1 ≤ 0; omega)
  | .power x n, B, h + 1, v, g, s, ok, hh, hb => by
    obtain ⟨g1, g2, g3⟩ := g
    have hb' : 4 * tbits T h + 400 + 100 ≤ 9999990 := hb
    have hh : x.ht + 1 ≤ h + 1 := hh
    have p1 : 1 ≤ tbits T h := by have := tbits_mono (T := T) (Nat.zero_le h); have e : tbits T 0 = 302 * T := rfl; omega
    have key : ∀ (n : Nat) (B : Box), n ≤ 4 → powB x.Starts n B → B.Ok → Fresh B ∧ Inv T B false v (two (n * (tbits T h + 20))) := by
      intro n
      induction n with
      | zero => intro B _ z _; exact z.elim
      | succ n ih =>
        intro B hn z ok
        match n, ih, hn, z with
        | 0, _, _, z =>
          obtain ⟨f, i⟩ := tree_inv hT hT1 (v := v) g3 (show x.Starts B from z) ok (show x.ht ≤ h by omega) (by omega)
          exact ⟨f, Inv.up' f (two_le (by omega)) i⟩
        | n + 1, ih, hn, z =>
          obtain ⟨X, Y, sx, sy, rfl⟩ := z
          obtain ⟨_, hx⟩ := tree_inv hT hT1 (v := v) g3 sx ok.2.1 (show x.ht ≤ h by omega) (by omega)
          obtain ⟨_, hy⟩ := ih Y (by omega) sy ok.2.2.1
          have pn : 1 ≤ (n + 1) * (tbits T h + 20) := Nat.mul_pos (by omega) (by omega)
          have en : (n + 1 + 1) * (tbits T h + 20) = (n + 1) * (tbits T h + 20) + (tbits T h + 20) := Nat.succ_mul ..
          have e4 : (n + 1) * (tbits T h + 20) ≤ 3 * (tbits T h + 20) := Nat.mul_le_mul_right _ (by omega)
          refine ⟨trivial, Inv.up' trivial (two_le ?_) (eight_tw (v := v) (m := 0) rfl (fun z hz => ?_) hx hy p1 pn (by omega))⟩
          · rw [en]; omega
          · have e0 : two 0 = 1 := rfl
            rw [e0]
            simp only [timesN, List.mem_cons, List.not_mem_nil, or_false] at hz
            rcases hz with rfl | rfl | rfl | rfl | rfl | rfl | rfl | rfl <;> decide
    obtain ⟨f, i⟩ := key n B g2 s ok
    refine ⟨f, Inv.up' f (two_le ?_) i⟩
    show n * (tbits T h + 20) ≤ 4 * tbits T h + 400
    have : n * (tbits T h + 20) ≤ 4 * (tbits T h + 20) := Nat.mul_le_mul_right _ g2
    omega
/-! ### numbers (a + b root of d) / c: their whole parts, what is left of them, in plain Lean -/
theorem fdiv_unique_neg {a b q r : Int} (hb : b < 0) (h : a = q * b + r) (h0 : r ≤ 0) (h1 : b < r) : a.fdiv b = q := by
  have := (fdiv_unique (a := -a) (b := -b) (q := q) (r := -r) (by omega) (by rw [h]; grind) (by omega) (by omega)).1
  rw [Int.neg_fdiv_neg] at this
  exact this
theorem fdiv_scale {g A C : Int} (hg : g ≠ 0) (hC : 0 < C) : (g * A).fdiv (g * C) = A.fdiv C ∧ (g * A).fmod (g * C) = g * A.fmod C := by
  have e := fdm A C
  obtain ⟨m0, m1⟩ := fmod_pos (a := A) hC
  have k : (g * A).fdiv (g * C) = A.fdiv C := by
    rcases Int.lt_or_gt_of_ne hg with z | z
    · have p1 := Int.mul_nonneg (show 0 ≤ -g by omega) m0
      have p2 := Int.mul_pos (show 0 < -g by omega) (show 0 < C - A.fmod C by omega)
      have p3 := Int.mul_pos (show 0 < -g by omega) hC
      refine fdiv_unique_neg (r := g * A.fmod C) (by have : -g * C = -(g * C) := by grind
                                                     omega) ?_ (by have : -g * A.fmod C = -(g * A.fmod C) := by grind
                                                                   omega) (by have : -g * (C - A.fmod C) = -(g * C) + g * A.fmod C := by grind
                                                                              omega)
      generalize A.fmod C = m at *
      generalize A.fdiv C = q at *
      rw [← e]
      grind
    · have p1 := Int.mul_nonneg (show 0 ≤ g by omega) m0
      have p2 := Int.mul_pos z (show 0 < C - A.fmod C by omega)
      refine (fdiv_unique (r := g * A.fmod C) (Int.mul_pos z hC) ?_ p1 (by have : g * (C - A.fmod C) = g * C - g * A.fmod C := by grind
                                                                           omega)).1
      generalize A.fmod C = m at *
      generalize A.fdiv C = q at *
      rw [← e]
      grind
  refine ⟨k, ?_⟩
  have e2 := fdm (g * A) (g * C)
  rw [k] at e2
  generalize A.fmod C = m at *
  generalize A.fdiv C = q at *
  have : g * C * q = g * (C * q) := Int.mul_assoc _ _ _
  have : g * A = g * (C * q) + g * m := by rw [← e]; grind
  omega
theorem root_max {n r z : Int} (h : IsRoot n r) (hz : z * z ≤ n) : z ≤ r := by
  obtain ⟨h0, h1, h2⟩ := h
  rcases Int.lt_or_le r z with y | y
  · have := Int.mul_le_mul (show r + 1 ≤ z by omega) (show r + 1 ≤ z by omega) (by omega) (by omega)
    omega
  · exact y
/-- z against a root, and the same times g -/
theorem root_times {s r r' g z : Int} (hg : 0 < g) (h : IsRoot (g * g * s) r) (h' : IsRoot s r') : (z ≤ r' → g * z ≤ r) ∧ (r' < z → r < g * z) := by
  refine ⟨fun hz => ?_, fun hz => ?_⟩
  · rcases Int.lt_or_le 0 z with y | y
    · refine root_max h ?_
      have k1 := Int.mul_le_mul hz hz (by omega) h'.1
      have k2 := Int.mul_le_mul_of_nonneg_left (show z * z ≤ s from Int.le_trans k1 h'.2.1) (sq_nonneg g)
      have : g * z * (g * z) = g * g * (z * z) := by grind
      omega
    · have := Int.mul_nonneg (show 0 ≤ g by omega) (show 0 ≤ -z by omega)
      have e : g * -z = -(g * z) := by grind
      have := h.1
      omega
  · rcases Int.lt_or_le r (g * z) with y | y
    · exact y
    · exfalso
      have z0 : 0 < z := by have := h'.1; omega
      have gz : 0 < g * z := Int.mul_pos hg z0
      have k1 := Int.mul_le_mul y y (by omega) h.1
      have k2 : s < z * z := by
        have := Int.mul_le_mul (show r' + 1 ≤ z by omega) (show r' + 1 ≤ z by omega) (by have := h'.1; omega) (by omega)
        have := h'.2.2
        omega
      have k3 := Int.mul_lt_mul_of_pos_left k2 (Int.mul_pos hg hg)
      have e : g * z * (g * z) = g * g * (z * z) := by grind
      have := h.2.1
      omega
/-- the whole part, as the laws reckon it -/
def qroot (B d r' : Int) : Int := if B < 0 then 0 - r' - (if r' * r' < B * B * d then 1 else 0) else r'
def qbelow (A B C d r' : Int) : Int := (A + qroot B d r').fdiv C
theorem qfloor {A B C d g r r' : Int} (hg : g ≠ 0) (hC : 0 < C) (hB : 0 < g * B) (hr : IsRoot (g * B * (g * B) * d) r) (hn : r * r ≠ g * B * (g * B) * d) (hr' : IsRoot (B * B * d) r') : qbelow A B C d r' = rootPart (g * A) (g * C) r := by
  have e0 : g * B * (g * B) * d = g * g * (B * B * d) := by grind
  rw [e0] at hr hn
  have key : ∀ n : Int, qbelow A B C d r' = n → rootPart (g * A) (g * C) r = n := fun n hq => by
    unfold qbelow at hq
    have e := fdm (A + qroot B d r') C
    obtain ⟨m0, m1⟩ := fmod_pos (a := A + qroot B d r') hC
    rw [hq] at e
    unfold rootPart
    rcases Int.lt_or_gt_of_ne hg with z | z
    · have hBn : B < 0 := by
        rcases Int.lt_or_le B 0 with y | y
        · exact y
        · have := Int.mul_nonneg (show 0 ≤ -g by omega) y
          have e1 : -g * B = -(g * B) := by grind
          omega
      have hsq : r' * r' < B * B * d := by
        rcases Int.lt_or_le (r' * r') (B * B * d) with y | y
        · exact y
        · exfalso
          have e1 : r' * r' = B * B * d := by have := hr'.2.1; omega
          have e2 : (-g * r') * (-g * r') = g * g * (B * B * d) := by rw [← e1]; grind
          have h0 : 0 ≤ -g * r' := Int.mul_nonneg (by omega) hr'.1
          have e3 : (-g * r' + 1) * (-g * r' + 1) = (-g * r') * (-g * r') + 2 * (-g * r') + 1 := by grind
          have u := hr.unique (s := -g * r') ⟨h0, by omega, by omega⟩
          rw [u] at hn
          exact hn e2
      have eq : qroot B d r' = -r' - 1 := by
        unfold qroot
        rw [if_pos hBn, if_pos hsq]
        omega
      rw [eq] at e m0 m1
      have hQ : g * C < 0 := by
        have := Int.mul_pos (show 0 < -g by omega) hC
        have e1 : -g * C = -(g * C) := by grind
        omega
      rw [if_pos hQ]
      have e4 : -g * -g * (B * B * d) = g * g * (B * B * d) := by grind
      obtain ⟨_, t2⟩ := root_times (g := -g) (s := B * B * d) (r := r) (z := A - n * C) (by omega) (by rw [e4]; exact hr) hr'
      obtain ⟨t1, _⟩ := root_times (g := -g) (s := B * B * d) (r := r) (z := A - (n + 1) * C) (by omega) (by rw [e4]; exact hr) hr'
      have c1 : C * n = n * C := Int.mul_comm _ _
      have c2 : (n + 1) * C = n * C + C := by grind
      have b1 := t2 (by omega)
      have b2 := t1 (by omega)
      have e5 : -g * (A - n * C) = g * (n * C) - g * A := by grind
      have e6 : -g * (A - (n + 1) * C) = g * (n * C) + g * C - g * A := by grind
      have e7 : n * (g * C) = g * (n * C) := by grind
      exact fdiv_unique_neg (r := g * A + r + 1 - n * (g * C)) hQ (by omega) (by omega) (by omega)
    · have hBp : ¬ B < 0 := fun y => by
        have := Int.mul_nonneg (show 0 ≤ g by omega) (show 0 ≤ -B by omega)
        have e1 : g * -B = -(g * B) := by grind
        omega
      have eq : qroot B d r' = r' := by
        unfold qroot
        rw [if_neg hBp]
      rw [eq] at e m0 m1
      have hQ : 0 < g * C := Int.mul_pos z hC
      rw [if_neg (by omega)]
      obtain ⟨t1, _⟩ := root_times (g := g) (s := B * B * d) (r := r) (z := n * C - A) z hr hr'
      obtain ⟨_, t2⟩ := root_times (g := g) (s := B * B * d) (r := r) (z := (n + 1) * C - A) z hr hr'
      have c1 : C * n = n * C := Int.mul_comm _ _
      have c2 : (n + 1) * C = n * C + C := by grind
      have b1 := t1 (by omega)
      have b2 := t2 (by omega)
      have e5 : g * (n * C - A) = g * (n * C) - g * A := by grind
      have e6 : g * ((n + 1) * C - A) = g * (n * C) + g * C - g * A := by grind
      have e7 : n * (g * C) = g * (n * C) := by grind
      exact (fdiv_unique (r := g * A + r + 0 - n * (g * C)) hQ (by omega) (by omega) (by omega)).1
  exact (key _ rfl).symm
/-- no common factor -/
def Prim (a b c : Int) : Prop := Int.gcd (Int.gcd a b : Nat) c = 1
theorem prim_dvd {a b c h k : Int} (p : Prim a b c) (ha : h ∣ k * a) (hb : h ∣ k * b) (hc : h ∣ k * c) : h ∣ k := by
  have h1 : h ∣ (Int.gcd (k * a) (k * b) : Nat) := Int.dvd_coe_gcd ha hb
  rw [Int.gcd_mul_left] at h1
  have h2 : h ∣ k * (Int.gcd a b : Nat) := by
    rw [Int.natCast_mul] at h1
    rcases Int.le_total 0 k with z | z
    · rw [show ((k.natAbs : Nat) : Int) = k by omega] at h1
      exact h1
    · rw [show ((k.natAbs : Nat) : Int) = -k by omega, Int.neg_mul] at h1
      exact Int.dvd_neg.mp h1
  have h3 : h ∣ (Int.gcd (k * (Int.gcd a b : Nat)) (k * c) : Nat) := Int.dvd_coe_gcd h2 hc
  rw [Int.gcd_mul_left, show Int.gcd (Int.gcd a b : Nat) c = 1 from p, Nat.mul_one] at h3
  exact Int.dvd_natAbs.mp h3
/-- a law's number beside a chain: the same number -/
def QRel (d A B C : Int) : Chain → Prop
  | .frac t b => B = 0 ∧ ∃ g, g ≠ 0 ∧ t = g * A ∧ b = g * C
  | .root P s Q r => ∃ g, g ≠ 0 ∧ 0 < g * B ∧ P = g * A ∧ Q = g * C ∧ s = g * B * (g * B) * d
  | .ruled _ _ _ _ => False
/-- one over what is left -/
theorem qrel_next_root {d A B C P s Q r a h A3 B3 C3 : Int} (ok : RootOk P s Q r) (R : QRel d A B C (.root P s Q r)) (hC : 0 < C) (ha : a = rootPart P Q r) (hp : Prim A3 B3 C3)
    (e1 : C * (A - a * C) = h * A3) (e2 : -(C * B) = h * B3) (e3 : (A - a * C) * (A - a * C) - d * B * B = h * C3) (hC3 : 0 < C3) : QRel d A3 B3 C3 (Chain.next (.root P s Q r)) := by
  obtain ⟨g, hg, gB, rfl, rfl, hs⟩ := R
  have nx := root_next ok
  rw [← ha] at nx
  show QRel d A3 B3 C3 (.root (rootPart (g * A) (g * C) r * (g * C) - g * A) s ((s - (rootPart (g * A) (g * C) r * (g * C) - g * A) * (rootPart (g * A) (g * C) r * (g * C) - g * A)).fdiv (g * C)) r)
  rw [← ha]
  obtain ⟨q, hq⟩ : ∃ q, (s - (a * (g * C) - g * A) * (a * (g * C) - g * A)) = q * (g * C) := by
    obtain ⟨q0, h0⟩ := ok.dv
    refine ⟨q0 - a * (a * (g * C) - 2 * (g * A)), ?_⟩
    have : s - (a * (g * C) - g * A) * (a * (g * C) - g * A) = (s - g * A * (g * A)) - (a * (a * (g * C) - 2 * (g * A))) * (g * C) := by grind
    rw [this, h0]
    grind
  rw [hq, Int.mul_fdiv_cancel _ ok.nz]
  have hgC : g * C ≠ 0 := ok.nz
  -- C times the next numbers
  have k1 : C * (a * (g * C) - g * A) = (-g * h) * A3 := by
    have : C * (a * (g * C) - g * A) = -g * (C * (A - a * C)) := by grind
    rw [this, e1]
    grind
  have k2 : C * (g * B) = (-g * h) * B3 := by
    have : C * (g * B) = -g * -(C * B) := by grind
    rw [this, e2]
    grind
  have k3 : C * q = (-g * h) * C3 := by
    have z : (C * q - (-g * h) * C3) * g = 0 := by
      have w1 : q * (g * C) = g * g * (d * B * B - (A - a * C) * (A - a * C)) := by
        rw [← hq, hs]
        grind
      have w2 : d * B * B - (A - a * C) * (A - a * C) = -(h * C3) := by omega
      rw [w2] at w1
      have w3 : ∀ C q g h C3 : Int, (C * q - (-g * h) * C3) * g = q * (g * C) - g * g * -(h * C3) := by intros; grind
      rw [w3, w1]
      omega
    rcases Int.mul_eq_zero.mp z with y | y
    · omega
    · exact absurd y hg
  obtain ⟨g', hg'⟩ := prim_dvd hp (show C ∣ (-g * h) * A3 from ⟨_, k1.symm⟩) (show C ∣ (-g * h) * B3 from ⟨_, k2.symm⟩) (show C ∣ (-g * h) * C3 from ⟨_, k3.symm⟩)
  rw [hg'] at k1 k2 k3
  have cc : ∀ {x y : Int}, C * x = C * g' * y → x = g' * y := fun {x y} z => Int.eq_of_mul_eq_mul_left (show C ≠ 0 by omega) (by rw [z, Int.mul_assoc])
  have r1 := cc k1
  have r2 := cc k2
  have r3 := cc k3
  refine ⟨g', ?_, ?_, r1, r3, ?_⟩
  · intro z
    rw [z, Int.zero_mul] at r2
    omega
  · rw [← r2]
    exact gB
  · rw [← r2]
    exact hs
theorem qrel_next_frac {d A B C t b h A3 B3 C3 : Int} (R : QRel d A B C (.frac t b)) (hC : 0 < C) (hp : Prim A3 B3 C3)
    (e1 : C * (A - A.fdiv C * C) = h * A3) (e2 : -(C * B) = h * B3) (e3 : (A - A.fdiv C * C) * (A - A.fdiv C * C) - d * B * B = h * C3) (hC3 : 0 < C3) (hu : A - A.fdiv C * C ≠ 0) : QRel d A3 B3 C3 (Chain.next (.frac t b)) := by
  obtain ⟨rfl, g, hg, rfl, rfl⟩ := R
  obtain ⟨f1, f2⟩ := fdiv_scale (A := A) hg hC
  show QRel d A3 B3 C3 (.frac (g * C) ((g * A).fmod (g * C)))
  rw [f2, ← fmod_eq A C]
  generalize A - A.fdiv C * C = u at *
  have h0 : h ≠ 0 := fun z => by
    rw [z, Int.zero_mul] at e1
    rcases Int.mul_eq_zero.mp e1 with y | y <;> omega
  have hB3 : B3 = 0 := by
    rw [Int.mul_zero] at e2
    rcases Int.mul_eq_zero.mp (show h * B3 = 0 by omega) with y | y
    · exact absurd y h0
    · exact y
  refine ⟨hB3, ?_⟩
  -- u (gC, g u) = g h (A3, C3)
  have k1 : u * (g * C) = (g * h) * A3 := by
    have : u * (g * C) = g * (C * u) := by grind
    rw [this, e1]
    grind
  have k3 : u * (g * u) = (g * h) * C3 := by
    have e3' : u * u = h * C3 := by
      have : d * 0 * 0 = 0 := by grind
      omega
    have : u * (g * u) = g * (u * u) := by grind
    rw [this, e3']
    grind
  obtain ⟨g', hg'⟩ := prim_dvd hp (show u ∣ (g * h) * A3 from ⟨_, k1.symm⟩) (show u ∣ (g * h) * B3 from ⟨0, by rw [hB3]; grind⟩) (show u ∣ (g * h) * C3 from ⟨_, k3.symm⟩)
  rw [hg'] at k1 k3
  have cc : ∀ {x y : Int}, u * x = u * g' * y → x = g' * y := fun {x y} z => Int.eq_of_mul_eq_mul_left hu (by rw [z, Int.mul_assoc])
  have r1 := cc k1
  have r3 := cc k3
  refine ⟨g', fun z => ?_, r1, r3⟩
  rw [z, Int.zero_mul] at r1
  rcases Int.mul_eq_zero.mp r1 with w | w <;> omega
/-! ### the laws' own reckoning with (a + b root of d) / c -/
def bd (n : Nat) (z : Int) : Prop := z.natAbs < 2 ^ n
theorem bd.mono {m n : Nat} {z : Int} (h : bd m z) (hn : m ≤ n) : bd n z := Nat.lt_of_lt_of_le h (Nat.pow_le_pow_right (by decide) hn)
theorem bd.mul {m n : Nat} {x y : Int} (h : bd m x) (h' : bd n y) : bd (m + n) (x * y) := wide_lt h h'
theorem bd.add {n : Nat} {x y : Int} (h : bd n x) (h' : bd n y) : bd (n + 1) (x + y) := by
  have := Int.natAbs_add_le x y
  have e : 2 ^ (n + 1) = 2 ^ n + 2 ^ n := by rw [Nat.pow_succ]; omega
  have h1 : x.natAbs < 2 ^ n := h
  have h2 : y.natAbs < 2 ^ n := h'
  show (x + y).natAbs < 2 ^ (n + 1)
  omega
theorem bd.neg {n : Nat} {x : Int} (h : bd n x) : bd n (-x) := by
  show (-x).natAbs < _
  rw [Int.natAbs_neg]
  exact h
theorem bd.sub {n : Nat} {x y : Int} (h : bd n x) (h' : bd n y) : bd (n + 1) (x - y) := by
  rw [Int.sub_eq_add_neg]
  exact h.add h'.neg
theorem bd.cm {m n : Nat} {x y : Int} (h : bd m x) (h' : bd n y) (hm : 0 < m) (hn : 0 < n) (hs : m + n ≤ 100000000) : CMulW x y := wide_mul h h' hm hn hs
theorem bd.of_dvd {n : Nat} {a g x : Int} (h : bd n a) (e : a = g * x) (hg : g ≠ 0) : bd n x := by
  show x.natAbs < _
  have : a.natAbs = g.natAbs * x.natAbs := by rw [e, Int.natAbs_mul]
  have h1 : 1 * x.natAbs ≤ g.natAbs * x.natAbs := Nat.mul_le_mul_right _ (by omega)
  have h2 : a.natAbs < 2 ^ n := h
  omega
theorem bd0 {n : Nat} : bd n 0 := Nat.pow_pos (by decide)
theorem bd1 {n : Nat} (h : 0 < n) : bd n 1 := Nat.one_lt_two_pow (by omega)
/-- a made number: some triple without a common factor, below above nought -/
def MadeK (a b c : Int) (H : Hp) (Q : VK) : Prop := ∀ g a' b' c' p, a = g * a' → b = g * b' → c = g * c' → 0 < c' → g ≠ 0 → Prim a' b' c' → H p = none → Q (.ref p) (upd H p (.tup [.int a', .int b', .int c']))
section
variable {P : Program} {w : World} {K : PySem.W.Frag} {mg : Str → Option Value} {base : Heap} {A : Ad}
def sp_law_root : Sp := fun vs H Q _ => ∃ n : Int, vs = [.int n] ∧ 0 ≤ n ∧ bd 7000 n ∧ ∀ r, IsRoot n r → Q (.int r) H
theorem ok_law_root (D : DT K mg A) : COk P w K mg base CX0 1 "_law_root" ["_law_number"] sp_law_root := by
  refine COk.by D.law_root fun f fd F => ?_
  refine F.ok sc_law_root (fun vs H Q E h => ?_) (fun cdv Ar outer s H vs Q E hr h => ?_)
  · obtain ⟨n, rfl, _⟩ := h
    rfl
  · obtain ⟨n, rfl, h0, hw, k⟩ := h
    refine ⟨_, (pss_cons (ps_set (i := 1) sc_law_root.nd rfl (Or.inl rfl) pe_int)
    (pss_cons (ps_set (i := 2) sc_law_root.nd rfl (Or.inl rfl) (pe_op op_shl pe_int (pe_op op_add (pe_op op_fdiv (pe_bits (pv 0)) pe_int) pe_int)))
    (pss_cons (ps_while PassesOwn.never (pt_cmpR op_gt (pe_op op_sub (pv 2) (pv 1)) pe_int (nomark _))
      (pss_cons (ps_set (i := 3) sc_law_root.nd rfl (Or.inl rfl) (pe_op op_fdiv (pe_op op_add (pv 1) (pv 2)) pe_int))
    (pss_one (ps_if (pt_cmpR op_le (pe_op op_mulW (pv 3) (pv 3)) (pv 0) (nomark _))
      (pss_one (ps_set (i := 1) sc_law_root.nd rfl (Or.inl rfl) (pv 3))) (pss_one (ps_set (i := 2) sc_law_root.nd rfl (Or.inl rfl) (pv 3)))))))
    (pss_one (ps_ret (pv 1)))))), ?_⟩
    have hbits : Builtin.Int.intBits n ≤ 7000 := PyProof.Rows.intBits_le hw
    have hb : n < (2 : Int) ^ Builtin.Int.intBits n := by
      unfold Builtin.Int.intBits
      split
      · rename_i z
        have : n = 0 := by simpa using z
        subst this
        decide
      · have := Nat.lt_log2_self (n := n.natAbs)
        have e : ((2 ^ (n.natAbs.log2 + 1) : Nat) : Int) = 2 ^ (n.natAbs.log2 + 1) := by norm_cast
        omega
    refine ⟨_, rfl, _, rfl, _, _, rfl, rfl, ⟨by decide, by decide⟩, _, _, rfl, rfl, _, _, rfl, rfl, ⟨by omega, by omega, by decide⟩, ?_⟩
    have e0 : ((Builtin.Int.intBits n : Nat) : Int) / 2 + 1 = ((Builtin.Int.intBits n / 2 + 1 : Nat) : Int) := by omega
    have e1 : (1 : Int) * 2 ^ (((Builtin.Int.intBits n : Nat) : Int) / 2 + 1).toNat = 2 ^ (Builtin.Int.intBits n / 2 + 1) := by rw [e0, Int.toNat_natCast, Int.one_mul]
    show tSeq _ _ _ [some (V.int n), some (V.int 0), some (V.int ((1 : Int) * 2 ^ (((Builtin.Int.intBits n : Nat) : Int) / 2 + 1).toNat)), none] H
    rw [e1]
    generalize Builtin.Int.intBits n = m at *
    have hsq : n < (2 : Int) ^ (m / 2 + 1) * 2 ^ (m / 2 + 1) := by
      rw [← Int.pow_add]
      have z := Nat.pow_le_pow_right (n := 2) (by decide) (show m ≤ m / 2 + 1 + (m / 2 + 1) by omega)
      have z2 : (2 : Int) ^ m ≤ 2 ^ (m / 2 + 1 + (m / 2 + 1)) := by exact_mod_cast z
      omega
    have hpos : (0 : Int) < 2 ^ (m / 2 + 1) := Int.pow_pos (by decide)
    have hbig : (2 : Int) ^ (m / 2 + 1) < 2 ^ 4000 := Int.pow_lt_pow_of_lt (by decide) (by omega)
    generalize (2 : Int) ^ (m / 2 + 1) = hi at *
    refine while_by (fun σ H2 => ∃ (lo hi : Int) (v : Option V), σ = [some (.int n), some (.int lo), some (.int hi), v] ∧ 0 ≤ lo ∧ lo < hi ∧ hi < 2 ^ 4000 ∧ lo * lo ≤ n ∧ n < hi * hi ∧ H2 = H)
      (fun σ _ => match σ with | [_, some (.int lo), some (.int hi), _] => (hi - lo).toNat | _ => 0) ⟨0, hi, none, rfl, by decide, hpos, hbig, by omega, hsq, rfl⟩ ?_ ?_
    · rintro σ H2 ⟨lo, hi, v, rfl, l0, lh, hb2, l1, h1, rfl⟩
      refine ⟨_, rfl, _, rfl, _, _, rfl, rfl, _, _, rfl, rfl, _, rfl, ite2 (fun c => ?_) (fun c => ?_)⟩
      · have c' : 1 < hi - lo := of_decide_eq_true c
        have mid0 : 0 ≤ (lo + hi) / 2 := by omega
        have midb : (lo + hi) / 2 < 2 ^ 4000 := by omega
        have cm : CMulW ((lo + hi) / 2) ((lo + hi) / 2) := wide_mul (a := 4000) (b := 4000) (natAbs_lt_pow mid0 midb) (natAbs_lt_pow mid0 midb) (by decide) (by decide) (by decide)
        refine ⟨_, rfl, _, rfl, _, _, rfl, rfl, _, _, rfl, rfl, ⟨by decide, by decide⟩, ?_⟩
        refine ⟨_, rfl, _, rfl, _, _, rfl, rfl, cm, _, rfl, _, _, rfl, rfl, _, rfl, ite2 (fun c2 => ?_) (fun c2 => ?_)⟩
        · have c2' : (lo + hi) / 2 * ((lo + hi) / 2) ≤ n := of_decide_eq_true c2
          exact ⟨_, rfl, ⟨_, _, _, rfl, mid0, by omega, hb2, c2', h1, rfl⟩, by show (hi - (lo + hi) / 2).toNat < (hi - lo).toNat; omega⟩
        · have c2' : ¬ (lo + hi) / 2 * ((lo + hi) / 2) ≤ n := fun z => c2 (decide_eq_true z)
          exact ⟨_, rfl, ⟨_, _, _, rfl, l0, by omega, midb, l1, by omega, rfl⟩, by show ((lo + hi) / 2 - lo).toNat < (hi - lo).toNat; omega⟩
      · have c' : ¬ 1 < hi - lo := fun z => c (decide_eq_true z)
        have e : hi = lo + 1 := by omega
        subst e
        exact ⟨_, rfl, k lo ⟨l0, l1, h1⟩⟩
    · intro σ H2 Q1 Q2 im hq
      obtain ⟨x, e, y, e2, i, j, e3, e4, i2, j2, e5, e6, b, e7, z⟩ := hq
      exact ⟨x, e, y, e2, i, j, e3, e4, i2, j2, e5, e6, b, e7, im _ _ z⟩
def sp_law_made : Sp := fun vs H Q _ => ∃ a b c : Int, vs = [.int a, .int b, .int c] ∧ c ≠ 0 ∧ bd 7000 a ∧ bd 7000 b ∧ bd 7000 c ∧ MadeK a b c H Q
theorem ok_law_made (D : DT K mg A) (G_law_common : COk P w K mg base CX0 1 "_law_common" ["_law_one", "_law_other"] sp_law_common) : COk P w K mg base CX0 2 "_law_made" ["_law_a", "_law_b", "_law_c"] sp_law_made := by
  refine COk.by D.law_made fun f fd F => ?_
  refine F.ok sc_law_made (fun vs H Q E h => ?_) (fun cdv Ar outer s H vs Q E hr h => ?_)
  · obtain ⟨a, b, c, rfl, _⟩ := h
    rfl
  · obtain ⟨a, b, c, rfl, hc, ba, bb, bc, k⟩ := h
    refine ⟨_, (pss_cons (ps_set (i := 3) sc_law_made.nd rfl (Or.inl rfl) (pe_c G_law_common (hr.mono (by first | decide | omega)) (pa_cons (pe_c G_law_common (hr.mono (by first | decide | omega)) (pa_cons (pv 0) (pa_cons (pv 1) pa_nil))) (pa_cons (pv 2) pa_nil))))
    (C8.pss_cut (ps_if (pt_cmpR op_lt (pv 2) pe_int (nomark _))
      (pss_one (ps_set (i := 3) sc_law_made.nd rfl (Or.inl rfl) (pe_op op_sub pe_int (pv 3)))) pss_nil)
    (pss_one (ps_ret (pe_tup (pa_cons (pe_op op_fdivS (pv 0) (pv 3)) (pa_cons (pe_op op_fdivS (pv 1) (pv 3)) (pa_cons (pe_op op_fdivS (pv 2) (pv 3)) pa_nil)))))))), ?_⟩
    refine ⟨_, rfl, _, rfl, a, b, rfl, _, rfl, _, c, rfl, ?_⟩
    obtain ⟨G, hG⟩ : ∃ G : Nat, Int.gcd (Int.gcd a b : Nat) c = G := ⟨_, rfl⟩
    have hG0 : G ≠ 0 := fun z => by
      rw [z] at hG
      exact hc (Int.gcd_eq_zero_iff.mp hG).2
    have dc : (G : Int) ∣ c := by rw [← hG]; exact Int.gcd_dvd_right ..
    have dab : (G : Int) ∣ (Int.gcd a b : Nat) := by rw [← hG]; exact Int.gcd_dvd_left ..
    have da : (G : Int) ∣ a := Int.dvd_trans dab (Int.gcd_dvd_left ..)
    have db : (G : Int) ∣ b := Int.dvd_trans dab (Int.gcd_dvd_right ..)
    obtain ⟨g, hg⟩ : ∃ g : Int, g = if c < 0 then -(G : Int) else G := ⟨_, rfl⟩
    have g0 : g ≠ 0 := by rw [hg]; split <;> omega
    have hgd : ∀ {z : Int}, (G : Int) ∣ z → ∃ z', z = g * z' := fun {z} h => by
      obtain ⟨y, hy⟩ := h
      rw [hg]
      split
      · exact ⟨-y, by rw [hy]; grind⟩
      · exact ⟨y, hy⟩
    obtain ⟨a', ea⟩ := hgd da
    obtain ⟨b', eb⟩ := hgd db
    obtain ⟨c', ec⟩ := hgd dc
    have c0 : 0 < c' := by
      rcases Int.lt_or_le 0 c' with z | z
      · exact z
      · exfalso
        by_cases y : c < 0
        · rw [if_pos y] at hg
          have := Int.mul_nonneg_of_nonpos_of_nonpos (show g ≤ 0 by omega) z
          omega
        · rw [if_neg y] at hg
          have := Int.mul_nonneg (show 0 ≤ g by omega) (show 0 ≤ -c' by omega)
          have e : g * -c' = -(g * c') := by grind
          omega
    have hprim : Prim a' b' c' := by
      have h1 : G = g.natAbs := by rw [hg]; split <;> omega
      rw [ea, eb, ec, Int.gcd_mul_left] at hG
      have h2 : Int.gcd ((g.natAbs * Int.gcd a' b' : Nat) : Int) (g * c') = g.natAbs * Int.gcd (Int.gcd a' b' : Nat) c' := by
        have h3 : Int.gcd (g * (Int.gcd a' b' : Nat)) (g * c') = g.natAbs * Int.gcd (Int.gcd a' b' : Nat) c' := Int.gcd_mul_left ..
        rw [← h3]
        generalize Int.gcd a' b' = m
        unfold Int.gcd
        congr 1
        rw [Int.natAbs_mul, Int.natAbs_natCast, Int.natAbs_natCast]
      rw [h2, h1] at hG
      have : g.natAbs * Int.gcd (Int.gcd a' b' : Nat) c' = g.natAbs * 1 := by omega
      exact Nat.eq_of_mul_eq_mul_left (by omega) this
    have bg : CDivS a g ∧ CDivS b g ∧ CDivS c g := by
      have : g.natAbs < 2 ^ 8000 := by
        have z : bd 7000 g := bc.of_dvd (g := c') (by rw [ec, Int.mul_comm]) (by omega)
        exact Nat.lt_trans z (Nat.pow_lt_pow_right (by decide) (by decide))
      exact ⟨⟨g0, this⟩, ⟨g0, this⟩, ⟨g0, this⟩⟩
    refine ⟨fun σ H2 => σ = [some (.int a), some (.int b), some (.int c), some (.int g)] ∧ H2 = H, ?_, ?_⟩
    · refine ⟨_, rfl, _, _, rfl, rfl, _, rfl, ite2 (fun cc => ?_) (fun cc => ?_)⟩
      · have c' : c < 0 := of_decide_eq_true cc
        refine ⟨_, rfl, _, _, rfl, rfl, ?_, rfl⟩
        show [some (V.int a), some (V.int b), some (V.int c), some (V.int (0 - ((Int.gcd (Int.gcd a b : Nat) c : Nat) : Int)))] = _
        rw [hG, show (0 : Int) - (G : Int) = g by rw [hg, if_pos c']; omega]
      · have c' : ¬ c < 0 := fun z => cc (decide_eq_true z)
        refine ⟨?_, rfl⟩
        show [some (V.int a), some (V.int b), some (V.int c), some (V.int ((Int.gcd (Int.gcd a b : Nat) c : Nat) : Int))] = _
        rw [hG, show ((G : Nat) : Int) = g by rw [hg, if_neg c']]
    · rintro σ H2 ⟨rfl, rfl⟩
      refine ⟨_, rfl, _, rfl, _, _, rfl, rfl, bg.1, _, rfl, _, rfl, _, _, rfl, rfl, bg.2.1, _, rfl, _, rfl, _, _, rfl, rfl, bg.2.2, (by show 3 ≤ sizeLine; decide), fun p hp => ?_⟩
      show Q (.ref p) (upd H2 p (.tup [.int (a.fdiv g), .int (b.fdiv g), .int (c.fdiv g)]))
      have q1 : a.fdiv g = a' := by rw [ea]; exact Int.mul_fdiv_cancel_left _ g0
      have q2 : b.fdiv g = b' := by rw [eb]; exact Int.mul_fdiv_cancel_left _ g0
      have q3 : c.fdiv g = c' := by rw [ec]; exact Int.mul_fdiv_cancel_left _ g0
      rw [q1, q2, q3]
      exact k g a' b' c' p ea eb ec c0 g0 hprim hp
def T3 (K : PySem.W.Frag) (H : Hp) (p : Addr) (a b c : Int) : Prop := SqT K H p [.int a, .int b, .int c]
def sp_law_sum (K : PySem.W.Frag) : Sp := fun vs H Q _ => ∃ (p q : Addr) (a0 a1 a2 b0 b1 b2 z : Int), vs = [.ref p, .ref q, .int z] ∧ T3 K H p a0 a1 a2 ∧ T3 K H q b0 b1 b2 ∧ a2 * b2 ≠ 0 ∧ (bd 1500 a0 ∧ bd 1500 a1 ∧ bd 1500 a2) ∧ (bd 1500 b0 ∧ bd 1500 b1 ∧ bd 1500 b2) ∧ bd 1500 z ∧
  MadeK (a0 * b2 + z * b0 * a2) (a1 * b2 + z * b1 * a2) (a2 * b2) H Q
theorem ok_law_sum (D : DT K mg A) (G_law_made : COk P w K mg base CX0 2 "_law_made" ["_law_a", "_law_b", "_law_c"] sp_law_made) : COk P w K mg base CX0 3 "_law_sum" ["_law_one", "_law_other", "_law_by"] (sp_law_sum K) := by
  refine COk.by D.law_sum fun f fd F => ?_
  refine F.ok sc_law_sum (fun vs H Q E h => ?_) (fun cdv Ar outer s H vs Q E hr h => ?_)
  · obtain ⟨p, q, a0, a1, a2, b0, b1, b2, z, rfl, _⟩ := h
    rfl
  · obtain ⟨p, q, a0, a1, a2, b0, b1, b2, z, rfl, hp, hq, hc, ⟨x0, x1, x2⟩, ⟨y0, y1, y2⟩, hz, k⟩ := h
    refine ⟨_, (pss_cons (ps_set (i := 3) sc_law_sum.nd rfl (Or.inl rfl) (pe_op op_add (pe_op op_mulW (pe_ix ix_tup (pv 0) pe_int (fun _ _ => rfl)) (pe_ix ix_tup (pv 1) pe_int (fun _ _ => rfl))) (pe_op op_mulW (pe_op op_mulW (pv 2) (pe_ix ix_tup (pv 1) pe_int (fun _ _ => rfl))) (pe_ix ix_tup (pv 0) pe_int (fun _ _ => rfl)))))
    (pss_one (ps_ret (pe_c G_law_made (hr.mono (by first | decide | omega)) (pa_cons (pv 3) (pa_cons (pe_op op_add (pe_op op_mulW (pe_ix ix_tup (pv 0) pe_int (fun _ _ => rfl)) (pe_ix ix_tup (pv 1) pe_int (fun _ _ => rfl))) (pe_op op_mulW (pe_op op_mulW (pv 2) (pe_ix ix_tup (pv 1) pe_int (fun _ _ => rfl))) (pe_ix ix_tup (pv 0) pe_int (fun _ _ => rfl)))) (pa_cons (pe_op op_mulW (pe_ix ix_tup (pv 0) pe_int (fun _ _ => rfl)) (pe_ix ix_tup (pv 1) pe_int (fun _ _ => rfl))) pa_nil))))))), ?_⟩
    refine ⟨_, rfl, p, _, 0, _, rfl, rfl, hp, atI_nat (j := 0) rfl, _, rfl, q, _, 2, _, rfl, rfl, hq, atI_nat (j := 2) rfl, _, _, rfl, rfl, x0.cm y2 (by decide) (by decide) (by decide), ?_⟩
    refine ⟨_, rfl, _, rfl, q, _, 0, _, rfl, rfl, hq, atI_nat (j := 0) rfl, _, _, rfl, rfl, hz.cm y0 (by decide) (by decide) (by decide), _, rfl, p, _, 2, _, rfl, rfl, hp, atI_nat (j := 2) rfl, _, _, rfl, rfl, (hz.mul y0).cm x2 (by decide) (by decide) (by decide), _, _, rfl, rfl, ?_⟩
    refine ⟨_, rfl, _, rfl, p, _, 1, _, rfl, rfl, hp, atI_nat (j := 1) rfl, _, rfl, q, _, 2, _, rfl, rfl, hq, atI_nat (j := 2) rfl, _, _, rfl, rfl, x1.cm y2 (by decide) (by decide) (by decide), ?_⟩
    refine ⟨_, rfl, _, rfl, q, _, 1, _, rfl, rfl, hq, atI_nat (j := 1) rfl, _, _, rfl, rfl, hz.cm y1 (by decide) (by decide) (by decide), _, rfl, p, _, 2, _, rfl, rfl, hp, atI_nat (j := 2) rfl, _, _, rfl, rfl, (hz.mul y1).cm x2 (by decide) (by decide) (by decide), _, _, rfl, rfl, ?_⟩
    refine ⟨_, rfl, p, _, 2, _, rfl, rfl, hp, atI_nat (j := 2) rfl, _, rfl, q, _, 2, _, rfl, rfl, hq, atI_nat (j := 2) rfl, _, _, rfl, rfl, x2.cm y2 (by decide) (by decide) (by decide), ?_⟩
    exact ⟨_, _, _, rfl, hc, (((x0.mul y2).mono (show 3000 ≤ 4500 by decide)).add ((hz.mul y0).mul x2)).mono (by decide), (((x1.mul y2).mono (show 3000 ≤ 4500 by decide)).add ((hz.mul y1).mul x2)).mono (by decide), (x2.mul y2).mono (by decide), k⟩
def sp_law_product (K : PySem.W.Frag) : Sp := fun vs H Q _ => ∃ (p q : Addr) (a0 a1 a2 b0 b1 b2 d : Int), vs = [.ref p, .ref q, .int d] ∧ T3 K H p a0 a1 a2 ∧ T3 K H q b0 b1 b2 ∧ a2 * b2 ≠ 0 ∧ (bd 1500 a0 ∧ bd 1500 a1 ∧ bd 1500 a2) ∧ (bd 5000 b0 ∧ bd 5000 b1 ∧ bd 5000 b2) ∧ bd 100 d ∧
  MadeK (a0 * b0 + d * a1 * b1) (a0 * b1 + a1 * b0) (a2 * b2) H Q
theorem ok_law_product (D : DT K mg A) (G_law_made : COk P w K mg base CX0 2 "_law_made" ["_law_a", "_law_b", "_law_c"] sp_law_made) : COk P w K mg base CX0 3 "_law_product" ["_law_one", "_law_other", "_law_d"] (sp_law_product K) := by
  refine COk.by D.law_product fun f fd F => ?_
  refine F.ok sc_law_product (fun vs H Q E h => ?_) (fun cdv Ar outer s H vs Q E hr h => ?_)
  · obtain ⟨p, q, a0, a1, a2, b0, b1, b2, z, rfl, _⟩ := h
    rfl
  · obtain ⟨p, q, a0, a1, a2, b0, b1, b2, d, rfl, hp, hq, hc, ⟨x0, x1, x2⟩, ⟨y0, y1, y2⟩, hz, k⟩ := h
    refine ⟨_, (pss_cons (ps_set (i := 3) sc_law_product.nd rfl (Or.inl rfl) (pe_op op_add (pe_op op_mulW (pe_ix ix_tup (pv 0) pe_int (fun _ _ => rfl)) (pe_ix ix_tup (pv 1) pe_int (fun _ _ => rfl))) (pe_op op_mulW (pe_op op_mulW (pv 2) (pe_ix ix_tup (pv 0) pe_int (fun _ _ => rfl))) (pe_ix ix_tup (pv 1) pe_int (fun _ _ => rfl)))))
    (pss_one (ps_ret (pe_c G_law_made (hr.mono (by first | decide | omega)) (pa_cons (pv 3) (pa_cons (pe_op op_add (pe_op op_mulW (pe_ix ix_tup (pv 0) pe_int (fun _ _ => rfl)) (pe_ix ix_tup (pv 1) pe_int (fun _ _ => rfl))) (pe_op op_mulW (pe_ix ix_tup (pv 0) pe_int (fun _ _ => rfl)) (pe_ix ix_tup (pv 1) pe_int (fun _ _ => rfl)))) (pa_cons (pe_op op_mulW (pe_ix ix_tup (pv 0) pe_int (fun _ _ => rfl)) (pe_ix ix_tup (pv 1) pe_int (fun _ _ => rfl))) pa_nil))))))), ?_⟩
    refine ⟨_, rfl, p, _, 0, _, rfl, rfl, hp, atI_nat (j := 0) rfl, _, rfl, q, _, 0, _, rfl, rfl, hq, atI_nat (j := 0) rfl, _, _, rfl, rfl, x0.cm y0 (by decide) (by decide) (by decide), ?_⟩
    refine ⟨_, rfl, _, rfl, p, _, 1, _, rfl, rfl, hp, atI_nat (j := 1) rfl, _, _, rfl, rfl, hz.cm x1 (by decide) (by decide) (by decide), _, rfl, q, _, 1, _, rfl, rfl, hq, atI_nat (j := 1) rfl, _, _, rfl, rfl, (hz.mul x1).cm y1 (by decide) (by decide) (by decide), _, _, rfl, rfl, ?_⟩
    refine ⟨_, rfl, _, rfl, p, _, 0, _, rfl, rfl, hp, atI_nat (j := 0) rfl, _, rfl, q, _, 1, _, rfl, rfl, hq, atI_nat (j := 1) rfl, _, _, rfl, rfl, x0.cm y1 (by decide) (by decide) (by decide), ?_⟩
    refine ⟨_, rfl, p, _, 1, _, rfl, rfl, hp, atI_nat (j := 1) rfl, _, rfl, q, _, 0, _, rfl, rfl, hq, atI_nat (j := 0) rfl, _, _, rfl, rfl, x1.cm y0 (by decide) (by decide) (by decide), _, _, rfl, rfl, ?_⟩
    refine ⟨_, rfl, p, _, 2, _, rfl, rfl, hp, atI_nat (j := 2) rfl, _, rfl, q, _, 2, _, rfl, rfl, hq, atI_nat (j := 2) rfl, _, _, rfl, rfl, x2.cm y2 (by decide) (by decide) (by decide), ?_⟩
    exact ⟨_, _, _, rfl, hc, (((x0.mul y0).mono (show 6500 ≤ 6600 by decide)).add ((hz.mul x1).mul y1)).mono (by decide), ((x0.mul y1).add (x1.mul y0)).mono (by decide), (x2.mul y2).mono (by decide), k⟩
def sp_law_quotient (K : PySem.W.Frag) : Sp := fun vs H Q _ => ∃ (p q : Addr) (a0 a1 a2 b0 b1 b2 d : Int), vs = [.ref p, .ref q, .int d] ∧ T3 K H p a0 a1 a2 ∧ T3 K H q b0 b1 b2 ∧ a2 ≠ 0 ∧ (bd 1500 a0 ∧ bd 1500 a1 ∧ bd 1500 a2) ∧ (bd 2400 b0 ∧ bd 2400 b1 ∧ bd 2400 b2) ∧ bd 100 d ∧
  (b0 = 0 → b1 = 0 → Q .non H) ∧ (¬ (b0 = 0 ∧ b1 = 0) → b0 * b0 - d * b1 * b1 ≠ 0 ∧ ∀ g x y z H', b2 * b0 = g * x → 0 - b2 * b1 = g * y → b0 * b0 - d * b1 * b1 = g * z → 0 < z → g ≠ 0 → Same H H' → MadeK (a0 * x + d * a1 * y) (a0 * y + a1 * x) (a2 * z) H' Q)
theorem ok_law_quotient (D : DT K mg A) (G_law_made : COk P w K mg base CX0 2 "_law_made" ["_law_a", "_law_b", "_law_c"] sp_law_made) (G_law_product : COk P w K mg base CX0 3 "_law_product" ["_law_one", "_law_other", "_law_d"] (sp_law_product K)) : COk P w K mg base CX0 4 "_law_quotient" ["_law_one", "_law_other", "_law_d"] (sp_law_quotient K) := by
  refine COk.by D.law_quotient fun f fd F => ?_
  refine F.ok sc_law_quotient (fun vs H Q E h => ?_) (fun cdv Ar outer s H vs Q E hr h => ?_)
  · obtain ⟨p, q, a0, a1, a2, b0, b1, b2, z, rfl, _⟩ := h
    rfl
  · obtain ⟨p, q, a0, a1, a2, b0, b1, b2, d, rfl, hp, hq, hc, xx, ⟨y0, y1, y2⟩, hz, k1, k2⟩ := h
    refine ⟨_, (pss_cons (ps_if (PW.pt (pw_and (pt_cmpR op_eq (pe_ix ix_tup (pv 1) pe_int (fun _ _ => rfl)) pe_int (nomark _)) (pw_and1 (pt_cmpR op_eq (pe_ix ix_tup (pv 1) pe_int (fun _ _ => rfl)) pe_int (nomark _)))))
      (pss_one (ps_ret pe_non)) pss_nil)
    (pss_cons (ps_set (i := 3) sc_law_quotient.nd rfl (Or.inl rfl) (pe_op op_sub (pe_op op_mulW (pe_ix ix_tup (pv 1) pe_int (fun _ _ => rfl)) (pe_ix ix_tup (pv 1) pe_int (fun _ _ => rfl))) (pe_op op_mulW (pe_op op_mulW (pv 2) (pe_ix ix_tup (pv 1) pe_int (fun _ _ => rfl))) (pe_ix ix_tup (pv 1) pe_int (fun _ _ => rfl)))))
    (pss_one (ps_ret (pe_c G_law_product (hr.mono (by first | decide | omega)) (pa_cons (pv 0) (pa_cons (pe_c G_law_made (hr.mono (by first | decide | omega)) (pa_cons (pe_op op_mulW (pe_ix ix_tup (pv 1) pe_int (fun _ _ => rfl)) (pe_ix ix_tup (pv 1) pe_int (fun _ _ => rfl))) (pa_cons (pe_op op_sub pe_int (pe_op op_mulW (pe_ix ix_tup (pv 1) pe_int (fun _ _ => rfl)) (pe_ix ix_tup (pv 1) pe_int (fun _ _ => rfl)))) (pa_cons (pv 3) pa_nil)))) (pa_cons (pv 2) pa_nil)))))))), ?_⟩
    have go : ¬ (b0 = 0 ∧ b1 = 0) → ∀ {σ : St}, σ = [some (V.ref p), some (V.ref q), some (V.int d), none] → tSeq (tAsg (tOp (rI0 fun i j => V.int (i - j)) (tOp (rI CMulW fun i j => V.int (i * j)) (tOp (rIxT K) (tVar 1) (tC (V.int 0))) (tOp (rIxT K) (tVar 1) (tC (V.int 0)))) (tOp (rI CMulW fun i j => V.int (i * j)) (tOp (rI CMulW fun i j => V.int (i * j)) (tVar 2) (tOp (rIxT K) (tVar 1) (tC (V.int 1)))) (tOp (rIxT K) (tVar 1) (tC (V.int 1))))) (gName 3)) (tRet (tCall (sp_law_product K) [] E0 (tCons (tVar 0) (tCons (tCall sp_law_made [] E0 (tCons (tOp (rI CMulW fun i j => V.int (i * j)) (tOp (rIxT K) (tVar 1) (tC (V.int 2))) (tOp (rIxT K) (tVar 1) (tC (V.int 0)))) (tCons (tOp (rI0 fun i j => V.int (i - j)) (tC (V.int 0)) (tOp (rI CMulW fun i j => V.int (i * j)) (tOp (rIxT K) (tVar 1) (tC (V.int 2))) (tOp (rIxT K) (tVar 1) (tC (V.int 1))))) (tCons (tVar 3) tNil)))) (tCons (tVar 2) tNil))))) { nx := fun _ H' => Q .non H', rt := Q } σ H := fun hn {σ} eσ => by
      subst eσ
      obtain ⟨hs, kk⟩ := k2 hn
      refine ⟨_, rfl, q, _, 0, _, rfl, rfl, hq, atI_nat (j := 0) rfl, _, rfl, q, _, 0, _, rfl, rfl, hq, atI_nat (j := 0) rfl, _, _, rfl, rfl, y0.cm y0 (by decide) (by decide) (by decide), ?_⟩
      refine ⟨_, rfl, _, rfl, q, _, 1, _, rfl, rfl, hq, atI_nat (j := 1) rfl, _, _, rfl, rfl, hz.cm y1 (by decide) (by decide) (by decide), _, rfl, q, _, 1, _, rfl, rfl, hq, atI_nat (j := 1) rfl, _, _, rfl, rfl, (hz.mul y1).cm y1 (by decide) (by decide) (by decide), _, _, rfl, rfl, ?_⟩
      refine ⟨_, rfl, _, rfl, q, _, 2, _, rfl, rfl, hq, atI_nat (j := 2) rfl, _, rfl, q, _, 0, _, rfl, rfl, hq, atI_nat (j := 0) rfl, _, _, rfl, rfl, y2.cm y0 (by decide) (by decide) (by decide), ?_⟩
      refine ⟨_, rfl, q, _, 2, _, rfl, rfl, hq, atI_nat (j := 2) rfl, _, rfl, q, _, 1, _, rfl, rfl, hq, atI_nat (j := 1) rfl, _, _, rfl, rfl, y2.cm y1 (by decide) (by decide) (by decide), _, _, rfl, rfl, _, rfl, ?_⟩
      have s1 : bd 4901 (b0 * b0 - d * b1 * b1) := ((y0.mul y0).mono (show 4800 ≤ 4900 by decide)).sub ((hz.mul y1).mul y1)
      have s2 : bd 4801 (0 - b2 * b1) := bd0.sub (y2.mul y1)
      refine ⟨_, _, _, rfl, hs, (y2.mul y0).mono (by decide), s2.mono (by decide), s1.mono (by decide), fun g x y z pp e1 e2 e3 z0 g0 hprim npp => ?_⟩
      have sm := same_upd (o := .tup [V.int x, .int y, .int z]) npp
      refine ⟨_, rfl, p, pp, a0, a1, a2, x, y, z, d, rfl, sqT_same hp sm, SqT.of upd_same, ?_, xx, ⟨((y2.mul y0).of_dvd e1 g0).mono (by decide), (s2.of_dvd e2 g0).mono (by decide), (s1.of_dvd e3 g0).mono (by decide)⟩, hz, kk g x y z _ e1 e2 e3 z0 g0 sm⟩
      intro w
      rcases Int.mul_eq_zero.mp w with y | y <;> omega
    refine ⟨_, rfl, q, _, 0, _, rfl, rfl, hq, atI_nat (j := 0) rfl, rfl, _, rfl, ite2 (fun c => ?_) (fun c => ?_)⟩
    · have c' : b0 = 0 := V.int.inj (of_decide_eq_true c)
      refine ⟨_, rfl, q, _, 1, _, rfl, rfl, hq, atI_nat (j := 1) rfl, rfl, _, rfl, ite2 (fun c2 => ?_) (fun c2 => ?_)⟩
      · have c2' : b1 = 0 := V.int.inj (of_decide_eq_true c2)
        exact k1 c' c2'
      · exact go (fun z => c2 (decide_eq_true (congrArg V.int z.2))) rfl
    · exact iteF (go (fun z => c (decide_eq_true (congrArg V.int z.1))) rfl)
def sp_law_below (K : PySem.W.Frag) : Sp := fun vs H Q _ => ∃ (p : Addr) (a b c d : Int), vs = [.ref p, .int d] ∧ T3 K H p a b c ∧ c ≠ 0 ∧ 0 ≤ d ∧ (bd 1500 a ∧ bd 1500 b ∧ bd 1500 c) ∧ bd 100 d ∧ ∀ r', IsRoot (b * b * d) r' → Q (.int (qbelow a b c d r')) H
theorem ok_law_below (T : CT K mg A) (D : DT K mg A) : COk P w K mg base CX0 2 "_law_below" ["_law_one", "_law_d"] (sp_law_below K) := by
  have G_law_root := ok_law_root (P := P) (w := w) (base := base) D
  refine COk.by D.law_below fun f fd F => ?_
  refine F.ok sc_law_below (fun vs H Q E h => ?_) (fun cdv Ar outer s H vs Q E hr h => ?_)
  · obtain ⟨p, a, b, c, d, rfl, _⟩ := h
    rfl
  · obtain ⟨p, a, b, c, d, rfl, hp, hc, hd, ⟨x0, x1, x2⟩, hz, k⟩ := h
    refine ⟨_, (pss_cons (ps_set (i := 2) sc_law_below.nd rfl (Or.inl rfl) (pe_op op_mulW (pe_op op_mulW (pe_ix ix_tup (pv 0) pe_int (fun _ _ => rfl)) (pe_ix ix_tup (pv 0) pe_int (fun _ _ => rfl))) (pv 1)))
    (pss_cons (ps_set (i := 3) sc_law_below.nd rfl (Or.inl rfl) (pe_c G_law_root (hr.mono (by first | decide | omega)) (pa_cons (pv 2) pa_nil)))
    (C8.pss_cut (ps_if (pt_cmpR op_lt (pe_ix ix_tup (pv 0) pe_int (fun _ _ => rfl)) pe_int (nomark _))
      (pss_one (ps_set (i := 3) sc_law_below.nd rfl (Or.inl rfl) (pe_op op_sub (pe_op op_sub pe_int (pv 3)) (pe_callTy call_int1 (by rfl) T.b_int (by decide +kernel) (pa_cons (pe_cmpR op_lt (pe_op op_mulW (pv 3) (pv 3)) (pv 2) (nomark _)) pa_nil))))) pss_nil)
    (pss_one (ps_ret (pe_op op_fdivS (pe_op op_add (pe_ix ix_tup (pv 0) pe_int (fun _ _ => rfl)) (pv 3)) (pe_ix ix_tup (pv 0) pe_int (fun _ _ => rfl)))))))), ?_⟩
    have n0 : 0 ≤ b * b * d := Int.mul_nonneg (sq_nonneg b) hd
    have nb : bd 3100 (b * b * d) := (x1.mul x1).mul hz
    refine ⟨_, rfl, p, _, 1, _, rfl, rfl, hp, atI_nat (j := 1) rfl, _, rfl, p, _, 1, _, rfl, rfl, hp, atI_nat (j := 1) rfl, _, _, rfl, rfl, x1.cm x1 (by decide) (by decide) (by decide), _, rfl, _, _, rfl, rfl, (x1.mul x1).cm hz (by decide) (by decide) (by decide), ?_⟩
    refine ⟨_, rfl, _, rfl, n0, nb.mono (by decide), fun r' hr' => ?_⟩
    have br : bd 1550 r' := by
      have z : (b * b * d).natAbs < 2 ^ 3100 := nb
      have e : (b * b * d : Int) < 2 ^ (1550 + 1550) := by
        have e2 : ((2 ^ 3100 : Nat) : Int) = 2 ^ 3100 := by norm_cast
        show (b * b * d : Int) < 2 ^ 3100
        omega
      exact natAbs_lt_pow hr'.1 (lt_of_sq (k := 1550) hr'.1 hr'.2.1 e)
    have hk := k r' hr'
    refine ⟨fun σ H2 => σ = [some (.ref p), some (.int d), some (.int (b * b * d)), some (.int (qroot b d r'))] ∧ H2 = H, ?_, ?_⟩
    · refine ⟨_, rfl, p, _, 1, _, rfl, rfl, hp, atI_nat (j := 1) rfl, _, _, rfl, rfl, _, rfl, ite2 (fun cc => ?_) (fun cc => ?_)⟩
      · have c' : b < 0 := of_decide_eq_true cc
        refine ⟨_, rfl, _, _, rfl, rfl, _, rfl, _, rfl, _, _, rfl, rfl, br.cm br (by decide) (by decide) (by decide), _, rfl, _, _, rfl, rfl, .inr ⟨_, rfl, _, _, rfl, rfl, ?_, rfl⟩⟩
        show [some (V.ref p), some (V.int d), some (V.int (b * b * d)), some (V.int (0 - r' - (if decide (r' * r' < b * b * d) = true then 1 else 0)))] = _
        unfold qroot
        rw [if_pos c']
        by_cases y : r' * r' < b * b * d
        · rw [decide_eq_true y, if_pos rfl, if_pos y]
        · rw [decide_eq_false y, if_neg (by decide), if_neg y]
      · have c' : ¬ b < 0 := fun z => cc (decide_eq_true z)
        refine ⟨?_, rfl⟩
        unfold qroot
        rw [if_neg c']
        rfl
    · rintro σ H2 ⟨rfl, rfl⟩
      refine ⟨_, rfl, p, _, 0, _, rfl, rfl, hp, atI_nat (j := 0) rfl, _, rfl, _, _, rfl, rfl, _, rfl, p, _, 2, _, rfl, rfl, hp, atI_nat (j := 2) rfl, _, _, rfl, rfl, ⟨hc, Nat.lt_trans x2 (Nat.pow_lt_pow_right (by decide) (by decide))⟩, hk⟩
end
/-! ### the laws' numbers (a + b root of d) / c as functions -/
abbrev Tri := Int × Int × Int
def sgcd (a b c : Int) : Int := if c < 0 then 0 - ((Int.gcd (Int.gcd a b : Nat) c : Nat) : Int) else ((Int.gcd (Int.gcd a b : Nat) c : Nat) : Int)
def qmade (a b c : Int) : Tri := (a.fdiv (sgcd a b c), b.fdiv (sgcd a b c), c.fdiv (sgcd a b c))
theorem qmade_spec {a b c : Int} (hc : c ≠ 0) : ∃ g, g ≠ 0 ∧ sgcd a b c = g ∧ a = g * (qmade a b c).1 ∧ b = g * (qmade a b c).2.1 ∧ c = g * (qmade a b c).2.2 ∧ 0 < (qmade a b c).2.2 ∧ Prim (qmade a b c).1 (qmade a b c).2.1 (qmade a b c).2.2 := by
  obtain ⟨G, hG⟩ : ∃ G : Nat, Int.gcd (Int.gcd a b : Nat) c = G := ⟨_, rfl⟩
  have hG0 : G ≠ 0 := fun z => by
    rw [z] at hG
    exact hc (Int.gcd_eq_zero_iff.mp hG).2
  have dc : (G : Int) ∣ c := by rw [← hG]; exact Int.gcd_dvd_right ..
  have dab : (G : Int) ∣ (Int.gcd a b : Nat) := by rw [← hG]; exact Int.gcd_dvd_left ..
  have da : (G : Int) ∣ a := Int.dvd_trans dab (Int.gcd_dvd_left ..)
  have db : (G : Int) ∣ b := Int.dvd_trans dab (Int.gcd_dvd_right ..)
  obtain ⟨g, hg⟩ : ∃ g : Int, sgcd a b c = g := ⟨_, rfl⟩
  have hg2 : g = if c < 0 then -(G : Int) else G := by
    rw [← hg, sgcd, hG]
    split <;> omega
  have g0 : g ≠ 0 := by rw [hg2]; split <;> omega
  have hgd : ∀ {z : Int}, (G : Int) ∣ z → ∃ z', z = g * z' := fun {z} h => by
    obtain ⟨y, hy⟩ := h
    rw [hg2]
    split
    · exact ⟨-y, by rw [hy]; grind⟩
    · exact ⟨y, hy⟩
  obtain ⟨a', ea⟩ := hgd da
  obtain ⟨b', eb⟩ := hgd db
  obtain ⟨c', ec⟩ := hgd dc
  have q1 : a.fdiv g = a' := by rw [ea]; exact Int.mul_fdiv_cancel_left _ g0
  have q2 : b.fdiv g = b' := by rw [eb]; exact Int.mul_fdiv_cancel_left _ g0
  have q3 : c.fdiv g = c' := by rw [ec]; exact Int.mul_fdiv_cancel_left _ g0
  have c0 : 0 < c' := by
    rcases Int.lt_or_le 0 c' with z | z
    · exact z
    · exfalso
      by_cases y : c < 0
      · rw [if_pos y] at hg2
        have := Int.mul_nonneg_of_nonpos_of_nonpos (show g ≤ 0 by omega) z
        omega
      · rw [if_neg y] at hg2
        have := Int.mul_nonneg (show 0 ≤ g by omega) (show 0 ≤ -c' by omega)
        have e : g * -c' = -(g * c') := by grind
        omega
  have hprim : Prim a' b' c' := by
    have h1 : G = g.natAbs := by rw [hg2]; split <;> omega
    rw [ea, eb, ec, Int.gcd_mul_left] at hG
    have h2 : Int.gcd ((g.natAbs * Int.gcd a' b' : Nat) : Int) (g * c') = g.natAbs * Int.gcd (Int.gcd a' b' : Nat) c' := by
      have h3 : Int.gcd (g * (Int.gcd a' b' : Nat)) (g * c') = g.natAbs * Int.gcd (Int.gcd a' b' : Nat) c' := Int.gcd_mul_left ..
      rw [← h3]
      generalize Int.gcd a' b' = m
      unfold Int.gcd
      congr 1
      rw [Int.natAbs_mul, Int.natAbs_natCast, Int.natAbs_natCast]
    rw [h2, h1] at hG
    have : g.natAbs * Int.gcd (Int.gcd a' b' : Nat) c' = g.natAbs * 1 := by omega
    exact Nat.eq_of_mul_eq_mul_left (by omega) this
  refine ⟨g, g0, hg, ?_⟩
  unfold qmade
  dsimp only
  rw [hg, q1, q2, q3]
  exact ⟨ea, eb, ec, c0, hprim⟩
/-- bits of a number's three -/
def tb (n : Nat) (t : Tri) : Prop := bd n t.1 ∧ bd n t.2.1 ∧ bd n t.2.2 ∧ 0 < t.2.2
theorem tb.mono {m n : Nat} {t : Tri} (h : tb m t) (hn : m ≤ n) : tb n t := ⟨h.1.mono hn, h.2.1.mono hn, h.2.2.1.mono hn, h.2.2.2⟩
theorem tb_made {n : Nat} {a b c : Int} (hc : c ≠ 0) (ha : bd n a) (hb : bd n b) (hd : bd n c) : tb n (qmade a b c) := by
  obtain ⟨g, g0, _, ea, eb, ec, c0, _⟩ := qmade_spec (a := a) (b := b) hc
  exact ⟨ha.of_dvd ea g0, hb.of_dvd eb g0, hd.of_dvd ec g0, c0⟩
def qsum (x y : Tri) (z : Int) : Tri := qmade (x.1 * y.2.2 + z * y.1 * x.2.2) (x.2.1 * y.2.2 + z * y.2.1 * x.2.2) (x.2.2 * y.2.2)
def qprod (d : Int) (x y : Tri) : Tri := qmade (x.1 * y.1 + d * x.2.1 * y.2.1) (x.1 * y.2.1 + x.2.1 * y.1) (x.2.2 * y.2.2)
def qinv (d : Int) (y : Tri) : Tri := qmade (y.2.2 * y.1) (0 - y.2.2 * y.2.1) (y.1 * y.1 - d * y.2.1 * y.2.1)
def qquot (d : Int) (x y : Tri) : Option Tri := if y.1 = 0 ∧ y.2.1 = 0 then none else some (qprod d x (qinv d y))
theorem pos_ne {x y : Int} (hx : 0 < x) (hy : 0 < y) : x * y ≠ 0 := by have := Int.mul_pos hx hy; omega
theorem tb_sum {m n k : Nat} {x y : Tri} {z : Int} (hx : tb m x) (hy : tb n y) (hz : bd k z) : tb (m + n + k + 1) (qsum x y z) := by
  obtain ⟨x0, x1, x2, xp⟩ := hx
  obtain ⟨y0, y1, y2, yp⟩ := hy
  refine tb_made (pos_ne xp yp) (bd.add ((x0.mul y2).mono (by omega)) (((hz.mul y0).mul x2).mono (by omega))) (bd.add ((x1.mul y2).mono (by omega)) (((hz.mul y1).mul x2).mono (by omega))) ((x2.mul y2).mono (by omega))
theorem tb_prod {m n k : Nat} {x y : Tri} {d : Int} (hx : tb m x) (hy : tb n y) (hd : bd k d) : tb (m + n + k + 1) (qprod d x y) := by
  obtain ⟨x0, x1, x2, xp⟩ := hx
  obtain ⟨y0, y1, y2, yp⟩ := hy
  exact tb_made (pos_ne xp yp) (bd.add ((x0.mul y0).mono (by omega)) (((hd.mul x1).mul y1).mono (by omega))) (bd.add ((x0.mul y1).mono (by omega)) ((x1.mul y0).mono (by omega))) ((x2.mul y2).mono (by omega))
/-- no square, not even of a fraction -/
def NonSq (d : Int) : Prop := ∀ x y : Int, x * x - d * y * y = 0 → x = 0 ∧ y = 0
theorem tb_inv {n k : Nat} {y : Tri} {d : Int} (ns : NonSq d) (hy : tb n y) (hd : bd k d) (h0 : ¬ (y.1 = 0 ∧ y.2.1 = 0)) : tb (n + n + k + 1) (qinv d y) := by
  obtain ⟨y0, y1, y2, yp⟩ := hy
  refine tb_made (fun z => h0 (ns _ _ z)) ((y2.mul y0).mono (by omega)) ?_ (bd.sub ((y0.mul y0).mono (by omega)) (((hd.mul y1).mul y1).mono (by omega)))
  have := bd.sub (bd0 (n := n + n)) (y2.mul y1)
  exact this.mono (by omega)
theorem tb_quot {m n k : Nat} {x y t : Tri} {d : Int} (ns : NonSq d) (hx : tb m x) (hy : tb n y) (hd : bd k d) (h : qquot d x y = some t) : tb (m + (n + n + k + 1) + k + 1) t := by
  unfold qquot at h
  split at h
  · cases h
  · rename_i h0
    cases h
    exact tb_prod hx (tb_inv ns hy hd h0) hd
/-- the sum of numbers, each times a value -/
def qmixF : Tri → List (Int × Tri) → Tri
  | acc, [] => acc
  | acc, (n, v) :: r => qmixF (qsum acc v n) r
def qmix (ns : List Int) (vs : List Tri) : Tri := qmixF (0, 0, 1) (ns.zip vs)
theorem tb_mixF {m b : Nat} : ∀ {r : List (Int × Tri)} {acc : Tri} {k : Nat}, tb k acc → (∀ p ∈ r, bd b p.1 ∧ tb m p.2) → tb (k + r.length * (m + b + 1)) (qmixF acc r)
  | [], acc, k, h, _ => by
    rw [List.length_nil, Nat.zero_mul]
    exact h
  | p :: r, acc, k, h, hr => by
    obtain ⟨h1, h2⟩ := hr p List.mem_cons_self
    have z := tb_mixF (r := r) (tb_sum h h2 h1) fun q hq => hr q (List.mem_cons_of_mem _ hq)
    refine z.mono ?_
    rw [List.length_cons, Nat.succ_mul]
    omega
theorem tb0 : tb 1 ((0, 0, 1) : Tri) := ⟨bd0, bd0, bd1 (by decide), by decide⟩
theorem tb1 : tb 1 ((1, 0, 1) : Tri) := ⟨bd1 (by decide), bd0, bd1 (by decide), by decide⟩
def qboxed (d : Int) (ns : List Int) (vs : List Tri) : Option Tri := qquot d (qmix (ns.take vs.length) vs) (qmix (ns.drop vs.length) vs)
theorem tb_boxed {m b k : Nat} {d : Int} {ns : List Int} {vs : List Tri} {t : Tri} (sq : NonSq d) (hd : bd k d) (hn : ∀ z ∈ ns, bd b z) (hv : ∀ v ∈ vs, tb m v) (h : qboxed d ns vs = some t) : tb (3 * (1 + vs.length * (m + b + 1)) + 2 * k + 3) t := by
  have key : ∀ xs : List Int, (∀ z ∈ xs, bd b z) → tb (1 + vs.length * (m + b + 1)) (qmix xs vs) := fun xs hx => by
    have z := tb_mixF (m := m) (b := b) (r := xs.zip vs) tb0 fun p hp => ⟨hx _ (List.of_mem_zip hp).1, hv _ (List.of_mem_zip hp).2⟩
    refine z.mono ?_
    have : (xs.zip vs).length ≤ vs.length := by rw [List.length_zip]; exact Nat.min_le_right ..
    have := Nat.mul_le_mul_right (m + b + 1) this
    omega
  have z := tb_quot sq (key _ fun z hz => hn z (List.mem_of_mem_take hz)) (key _ fun z hz => hn z (List.mem_of_mem_drop hz)) hd h
  refine z.mono ?_
  omega
def qpow (d : Int) (x : Tri) : Nat → Tri
  | 0 => x
  | n + 1 => qprod d (qpow d x n) x
def N3 (K : PySem.W.Frag) (H : Hp) (p : Addr) (t : Tri) : Prop := SqT K H p [.int t.1, .int t.2.1, .int t.2.2]
/-- a number, or None -/
def VAt (K : PySem.W.Frag) (H : Hp) (v : V) : Option Tri → Prop
  | none => v = .non
  | some t => ∃ p, v = .ref p ∧ N3 K H p t
theorem VAt.same {K : PySem.W.Frag} {H H' : Hp} {v : V} {o : Option Tri} (h : VAt K H v o) (s : Same H H') : VAt K H' v o := by
  cases o with
  | none => exact h
  | some t => obtain ⟨p, e, hp⟩ := h; exact ⟨p, e, sqT_same hp s⟩
abbrev qL : Nat := 1000000
section
variable {P : Program} [NoTree P] {w : World} {K : PySem.W.Frag} {mg : Str → Option Value} {base : Heap} {A : Ad}
/-- a new tuple of three -/
def NewT (K : PySem.W.Frag) (t : Tri) (H : Hp) (Q : VK) : Prop := ∀ r H', Same H H' → H r = none → N3 K H' r t → Q (.ref r) H'
def sp_qmade (K : PySem.W.Frag) : Sp := fun vs H Q _ => ∃ a b c : Int, vs = [.int a, .int b, .int c] ∧ c ≠ 0 ∧ NewT K (qmade a b c) H Q
theorem ok_qmade (T : CT K mg A) (D : DT K mg A) (G_law_common : COk P w K mg base CX0 1 "_law_common" ["_law_one", "_law_other"] sp_law_common) : COk P w K mg base CX0 36 "_law_made" ["_law_a", "_law_b", "_law_c"] (sp_qmade K) := by
  refine COk.by D.law_made fun f fd F => ?_
  refine F.ok (k := 35) sc_law_made (fun vs H Q E h => ?_) (fun cdv Ar outer s H vs Q E hr h => ?_)
  · obtain ⟨a, b, c, rfl, _⟩ := h
    rfl
  · obtain ⟨a, b, c, rfl, hc, k⟩ := h
    refine ⟨_, (pss_cons (ps_set (i := 3) sc_law_made.nd rfl (Or.inl rfl) (pe_c G_law_common (hr.mono (by first | decide | omega)) (pa_cons (pe_c G_law_common (hr.mono (by first | decide | omega)) (pa_cons (pv 0) (pa_cons (pv 1) pa_nil))) (pa_cons (pv 2) pa_nil))))
    (C8.pss_cut (ps_if (pt_cmpR op_lt (pv 2) pe_int (nomark _))
      (pss_one (ps_set (i := 3) sc_law_made.nd rfl (Or.inl rfl) (pe_op op_sub pe_int (pv 3)))) pss_nil)
    (pss_one (ps_ret (pe_tup (pa_cons (pe_op (op_fdivM T.seer (NoTree.tree (P := P)) hr (by first | decide | omega) rfl rfl rfl) (pv 0) (pv 3)) (pa_cons (pe_op (op_fdivM T.seer (NoTree.tree (P := P)) hr (by first | decide | omega) rfl rfl rfl) (pv 1) (pv 3)) (pa_cons (pe_op (op_fdivM T.seer (NoTree.tree (P := P)) hr (by first | decide | omega) rfl rfl rfl) (pv 2) (pv 3)) pa_nil)))))))), ?_⟩
    refine ⟨_, rfl, _, rfl, a, b, rfl, _, rfl, _, c, rfl, ?_⟩
    obtain ⟨g, g0, hg, _⟩ := qmade_spec (a := a) (b := b) hc
    refine ⟨fun σ H2 => σ = [some (.int a), some (.int b), some (.int c), some (.int g)] ∧ H2 = H, ?_, ?_⟩
    · rw [← hg]
      unfold sgcd
      refine ⟨_, rfl, _, _, rfl, rfl, _, rfl, ite2 (fun cc => ?_) (fun cc => ?_)⟩
      · rw [if_pos (of_decide_eq_true cc)]
        exact ⟨_, rfl, _, _, rfl, rfl, rfl, rfl⟩
      · rw [if_neg (fun z => cc (decide_eq_true z))]
        exact ⟨rfl, rfl⟩
    · rintro σ H2 ⟨rfl, rfl⟩
      refine ⟨_, rfl, _, rfl, _, _, rfl, rfl, g0, _, rfl, _, rfl, _, _, rfl, rfl, g0, _, rfl, _, rfl, _, _, rfl, rfl, g0, (by show 3 ≤ sizeLine; decide), fun p hp => ?_⟩
      refine k p _ (same_upd hp) hp ?_
      unfold qmade
      rw [hg]
      exact SqT.of upd_same
def sp_qsum (K : PySem.W.Frag) : Sp := fun vs H Q _ => ∃ (p q : Addr) (x y : Tri) (z : Int), vs = [.ref p, .ref q, .int z] ∧ N3 K H p x ∧ N3 K H q y ∧ tb qL x ∧ tb qL y ∧ bd qL z ∧ NewT K (qsum x y z) H Q
theorem ok_qsum (D : DT K mg A) (G_law_made : COk P w K mg base CX0 36 "_law_made" ["_law_a", "_law_b", "_law_c"] (sp_qmade K)) : COk P w K mg base CX0 37 "_law_sum" ["_law_one", "_law_other", "_law_by"] (sp_qsum K) := by
  refine COk.by D.law_sum fun f fd F => ?_
  refine F.ok (k := 36) sc_law_sum (fun vs H Q E h => ?_) (fun cdv Ar outer s H vs Q E hr h => ?_)
  · obtain ⟨p, q, x, y, z, rfl, _⟩ := h
    rfl
  · obtain ⟨p, q, x, y, z, rfl, hp, hq, ⟨x0, x1, x2, xp⟩, ⟨y0, y1, y2, yp⟩, hz, k⟩ := h
    refine ⟨_, (pss_cons (ps_set (i := 3) sc_law_sum.nd rfl (Or.inl rfl) (pe_op op_add (pe_op op_mulW (pe_ix ix_tup (pv 0) pe_int (fun _ _ => rfl)) (pe_ix ix_tup (pv 1) pe_int (fun _ _ => rfl))) (pe_op op_mulW (pe_op op_mulW (pv 2) (pe_ix ix_tup (pv 1) pe_int (fun _ _ => rfl))) (pe_ix ix_tup (pv 0) pe_int (fun _ _ => rfl)))))
    (pss_one (ps_ret (pe_c G_law_made (hr.mono (by first | decide | omega)) (pa_cons (pv 3) (pa_cons (pe_op op_add (pe_op op_mulW (pe_ix ix_tup (pv 0) pe_int (fun _ _ => rfl)) (pe_ix ix_tup (pv 1) pe_int (fun _ _ => rfl))) (pe_op op_mulW (pe_op op_mulW (pv 2) (pe_ix ix_tup (pv 1) pe_int (fun _ _ => rfl))) (pe_ix ix_tup (pv 0) pe_int (fun _ _ => rfl)))) (pa_cons (pe_op op_mulW (pe_ix ix_tup (pv 0) pe_int (fun _ _ => rfl)) (pe_ix ix_tup (pv 1) pe_int (fun _ _ => rfl))) pa_nil))))))), ?_⟩
    have cm : ∀ {m n : Nat} {x y : Int}, bd m x → bd n y → 0 < m → 0 < n → m + n ≤ 100000000 → CMulW x y := fun h h' hm hn hs => wide_mul h h' hm hn hs
    refine ⟨_, rfl, p, _, 0, _, rfl, rfl, hp, atI_nat (j := 0) rfl, _, rfl, q, _, 2, _, rfl, rfl, hq, atI_nat (j := 2) rfl, _, _, rfl, rfl, cm x0 y2 (by decide) (by decide) (by decide), ?_⟩
    refine ⟨_, rfl, _, rfl, q, _, 0, _, rfl, rfl, hq, atI_nat (j := 0) rfl, _, _, rfl, rfl, cm hz y0 (by decide) (by decide) (by decide), _, rfl, p, _, 2, _, rfl, rfl, hp, atI_nat (j := 2) rfl, _, _, rfl, rfl, cm (hz.mul y0) x2 (by decide) (by decide) (by decide), _, _, rfl, rfl, ?_⟩
    refine ⟨_, rfl, _, rfl, p, _, 1, _, rfl, rfl, hp, atI_nat (j := 1) rfl, _, rfl, q, _, 2, _, rfl, rfl, hq, atI_nat (j := 2) rfl, _, _, rfl, rfl, cm x1 y2 (by decide) (by decide) (by decide), ?_⟩
    refine ⟨_, rfl, _, rfl, q, _, 1, _, rfl, rfl, hq, atI_nat (j := 1) rfl, _, _, rfl, rfl, cm hz y1 (by decide) (by decide) (by decide), _, rfl, p, _, 2, _, rfl, rfl, hp, atI_nat (j := 2) rfl, _, _, rfl, rfl, cm (hz.mul y1) x2 (by decide) (by decide) (by decide), _, _, rfl, rfl, ?_⟩
    refine ⟨_, rfl, p, _, 2, _, rfl, rfl, hp, atI_nat (j := 2) rfl, _, rfl, q, _, 2, _, rfl, rfl, hq, atI_nat (j := 2) rfl, _, _, rfl, rfl, cm x2 y2 (by decide) (by decide) (by decide), ?_⟩
    exact ⟨_, _, _, rfl, pos_ne xp yp, k⟩
def sp_qprod (K : PySem.W.Frag) : Sp := fun vs H Q _ => ∃ (p q : Addr) (x y : Tri) (d : Int), vs = [.ref p, .ref q, .int d] ∧ N3 K H p x ∧ N3 K H q y ∧ tb (2 * qL) x ∧ tb (4 * qL) y ∧ bd qL d ∧ NewT K (qprod d x y) H Q
theorem ok_qprod (D : DT K mg A) (G_law_made : COk P w K mg base CX0 36 "_law_made" ["_law_a", "_law_b", "_law_c"] (sp_qmade K)) : COk P w K mg base CX0 37 "_law_product" ["_law_one", "_law_other", "_law_d"] (sp_qprod K) := by
  refine COk.by D.law_product fun f fd F => ?_
  refine F.ok (k := 36) sc_law_product (fun vs H Q E h => ?_) (fun cdv Ar outer s H vs Q E hr h => ?_)
  · obtain ⟨p, q, x, y, d, rfl, _⟩ := h
    rfl
  · obtain ⟨p, q, x, y, d, rfl, hp, hq, ⟨x0, x1, x2, xp⟩, ⟨y0, y1, y2, yp⟩, hz, k⟩ := h
    refine ⟨_, (pss_cons (ps_set (i := 3) sc_law_product.nd rfl (Or.inl rfl) (pe_op op_add (pe_op op_mulW (pe_ix ix_tup (pv 0) pe_int (fun _ _ => rfl)) (pe_ix ix_tup (pv 1) pe_int (fun _ _ => rfl))) (pe_op op_mulW (pe_op op_mulW (pv 2) (pe_ix ix_tup (pv 0) pe_int (fun _ _ => rfl))) (pe_ix ix_tup (pv 1) pe_int (fun _ _ => rfl)))))
    (pss_one (ps_ret (pe_c G_law_made (hr.mono (by first | decide | omega)) (pa_cons (pv 3) (pa_cons (pe_op op_add (pe_op op_mulW (pe_ix ix_tup (pv 0) pe_int (fun _ _ => rfl)) (pe_ix ix_tup (pv 1) pe_int (fun _ _ => rfl))) (pe_op op_mulW (pe_ix ix_tup (pv 0) pe_int (fun _ _ => rfl)) (pe_ix ix_tup (pv 1) pe_int (fun _ _ => rfl)))) (pa_cons (pe_op op_mulW (pe_ix ix_tup (pv 0) pe_int (fun _ _ => rfl)) (pe_ix ix_tup (pv 1) pe_int (fun _ _ => rfl))) pa_nil))))))), ?_⟩
    have cm : ∀ {m n : Nat} {x y : Int}, bd m x → bd n y → 0 < m → 0 < n → m + n ≤ 100000000 → CMulW x y := fun h h' hm hn hs => wide_mul h h' hm hn hs
    refine ⟨_, rfl, p, _, 0, _, rfl, rfl, hp, atI_nat (j := 0) rfl, _, rfl, q, _, 0, _, rfl, rfl, hq, atI_nat (j := 0) rfl, _, _, rfl, rfl, cm x0 y0 (by decide) (by decide) (by decide), ?_⟩
    refine ⟨_, rfl, _, rfl, p, _, 1, _, rfl, rfl, hp, atI_nat (j := 1) rfl, _, _, rfl, rfl, cm hz x1 (by decide) (by decide) (by decide), _, rfl, q, _, 1, _, rfl, rfl, hq, atI_nat (j := 1) rfl, _, _, rfl, rfl, cm (hz.mul x1) y1 (by decide) (by decide) (by decide), _, _, rfl, rfl, ?_⟩
    refine ⟨_, rfl, _, rfl, p, _, 0, _, rfl, rfl, hp, atI_nat (j := 0) rfl, _, rfl, q, _, 1, _, rfl, rfl, hq, atI_nat (j := 1) rfl, _, _, rfl, rfl, cm x0 y1 (by decide) (by decide) (by decide), ?_⟩
    refine ⟨_, rfl, p, _, 1, _, rfl, rfl, hp, atI_nat (j := 1) rfl, _, rfl, q, _, 0, _, rfl, rfl, hq, atI_nat (j := 0) rfl, _, _, rfl, rfl, cm x1 y0 (by decide) (by decide) (by decide), _, _, rfl, rfl, ?_⟩
    refine ⟨_, rfl, p, _, 2, _, rfl, rfl, hp, atI_nat (j := 2) rfl, _, rfl, q, _, 2, _, rfl, rfl, hq, atI_nat (j := 2) rfl, _, _, rfl, rfl, cm x2 y2 (by decide) (by decide) (by decide), ?_⟩
    exact ⟨_, _, _, rfl, pos_ne xp yp, k⟩
/-- a quotient: a new tuple, or None -/
def NewQ (K : PySem.W.Frag) (o : Option Tri) (H : Hp) (Q : VK) : Prop := ∀ v H', Same H H' → VAt K H' v o → Q v H'
def sp_qquot (K : PySem.W.Frag) : Sp := fun vs H Q _ => ∃ (p q : Addr) (x y : Tri) (d : Int), vs = [.ref p, .ref q, .int d] ∧ N3 K H p x ∧ N3 K H q y ∧ tb (2 * qL) x ∧ tb (qL + 500000) y ∧ bd 100 d ∧ NonSq d ∧ NewQ K (qquot d x y) H Q
theorem ok_qquot (D : DT K mg A) (G_law_made : COk P w K mg base CX0 36 "_law_made" ["_law_a", "_law_b", "_law_c"] (sp_qmade K)) (G_law_product : COk P w K mg base CX0 37 "_law_product" ["_law_one", "_law_other", "_law_d"] (sp_qprod K)) : COk P w K mg base CX0 38 "_law_quotient" ["_law_one", "_law_other", "_law_d"] (sp_qquot K) := by
  refine COk.by D.law_quotient fun f fd F => ?_
  refine F.ok (k := 37) sc_law_quotient (fun vs H Q E h => ?_) (fun cdv Ar outer s H vs Q E hr h => ?_)
  · obtain ⟨p, q, x, y, d, rfl, _⟩ := h
    rfl
  · obtain ⟨p, q, x, y, d, rfl, hp, hq, hx, hy, hz, ns, k⟩ := h
    obtain ⟨y0, y1, y2, yp⟩ := id hy
    refine ⟨_, (pss_cons (ps_if (PW.pt (pw_and (pt_cmpR op_eq (pe_ix ix_tup (pv 1) pe_int (fun _ _ => rfl)) pe_int (nomark _)) (pw_and1 (pt_cmpR op_eq (pe_ix ix_tup (pv 1) pe_int (fun _ _ => rfl)) pe_int (nomark _)))))
      (pss_one (ps_ret pe_non)) pss_nil)
    (pss_cons (ps_set (i := 3) sc_law_quotient.nd rfl (Or.inl rfl) (pe_op op_sub (pe_op op_mulW (pe_ix ix_tup (pv 1) pe_int (fun _ _ => rfl)) (pe_ix ix_tup (pv 1) pe_int (fun _ _ => rfl))) (pe_op op_mulW (pe_op op_mulW (pv 2) (pe_ix ix_tup (pv 1) pe_int (fun _ _ => rfl))) (pe_ix ix_tup (pv 1) pe_int (fun _ _ => rfl)))))
    (pss_one (ps_ret (pe_c G_law_product (hr.mono (by first | decide | omega)) (pa_cons (pv 0) (pa_cons (pe_c G_law_made (hr.mono (by first | decide | omega)) (pa_cons (pe_op op_mulW (pe_ix ix_tup (pv 1) pe_int (fun _ _ => rfl)) (pe_ix ix_tup (pv 1) pe_int (fun _ _ => rfl))) (pa_cons (pe_op op_sub pe_int (pe_op op_mulW (pe_ix ix_tup (pv 1) pe_int (fun _ _ => rfl)) (pe_ix ix_tup (pv 1) pe_int (fun _ _ => rfl)))) (pa_cons (pv 3) pa_nil)))) (pa_cons (pv 2) pa_nil)))))))), ?_⟩
    have cm : ∀ {m n : Nat} {x y : Int}, bd m x → bd n y → 0 < m → 0 < n → m + n ≤ 100000000 → CMulW x y := fun h h' hm hn hs => wide_mul h h' hm hn hs
    have go : ¬ (y.1 = 0 ∧ y.2.1 = 0) → ∀ {σ : St}, σ = [some (V.ref p), some (V.ref q), some (V.int d), none] → tSeq (tAsg (tOp (rI0 fun i j => V.int (i - j)) (tOp (rI CMulW fun i j => V.int (i * j)) (tOp (rIxT K) (tVar 1) (tC (V.int 0))) (tOp (rIxT K) (tVar 1) (tC (V.int 0)))) (tOp (rI CMulW fun i j => V.int (i * j)) (tOp (rI CMulW fun i j => V.int (i * j)) (tVar 2) (tOp (rIxT K) (tVar 1) (tC (V.int 1)))) (tOp (rIxT K) (tVar 1) (tC (V.int 1))))) (gName 3)) (tRet (tCall (sp_qprod K) [] E0 (tCons (tVar 0) (tCons (tCall (sp_qmade K) [] E0 (tCons (tOp (rI CMulW fun i j => V.int (i * j)) (tOp (rIxT K) (tVar 1) (tC (V.int 2))) (tOp (rIxT K) (tVar 1) (tC (V.int 0)))) (tCons (tOp (rI0 fun i j => V.int (i - j)) (tC (V.int 0)) (tOp (rI CMulW fun i j => V.int (i * j)) (tOp (rIxT K) (tVar 1) (tC (V.int 2))) (tOp (rIxT K) (tVar 1) (tC (V.int 1))))) (tCons (tVar 3) tNil)))) (tCons (tVar 2) tNil))))) { nx := fun _ H' => Q .non H', rt := Q } σ H := fun hn {σ} eσ => by
      subst eσ
      have kk := k
      rw [show qquot d x y = some (qprod d x (qinv d y)) from if_neg hn] at kk
      refine ⟨_, rfl, q, _, 0, _, rfl, rfl, hq, atI_nat (j := 0) rfl, _, rfl, q, _, 0, _, rfl, rfl, hq, atI_nat (j := 0) rfl, _, _, rfl, rfl, cm y0 y0 (by decide) (by decide) (by decide), ?_⟩
      refine ⟨_, rfl, _, rfl, q, _, 1, _, rfl, rfl, hq, atI_nat (j := 1) rfl, _, _, rfl, rfl, cm hz y1 (by decide) (by decide) (by decide), _, rfl, q, _, 1, _, rfl, rfl, hq, atI_nat (j := 1) rfl, _, _, rfl, rfl, cm (hz.mul y1) y1 (by decide) (by decide) (by decide), _, _, rfl, rfl, ?_⟩
      refine ⟨_, rfl, _, rfl, q, _, 2, _, rfl, rfl, hq, atI_nat (j := 2) rfl, _, rfl, q, _, 0, _, rfl, rfl, hq, atI_nat (j := 0) rfl, _, _, rfl, rfl, cm y2 y0 (by decide) (by decide) (by decide), ?_⟩
      refine ⟨_, rfl, q, _, 2, _, rfl, rfl, hq, atI_nat (j := 2) rfl, _, rfl, q, _, 1, _, rfl, rfl, hq, atI_nat (j := 1) rfl, _, _, rfl, rfl, cm y2 y1 (by decide) (by decide) (by decide), _, _, rfl, rfl, _, rfl, ?_⟩
      refine ⟨_, _, _, rfl, fun z => hn (ns _ _ z), fun r H1 s1 n1 t1 => ?_⟩
      have ti := tb_inv ns hy hz hn
      exact ⟨_, rfl, p, r, x, qinv d y, d, rfl, sqT_same hp s1, t1, hx, ti.mono (by decide), hz.mono (by decide), fun r2 H2 s2 n2 t2 => kk _ H2 (s1.trans s2) ⟨r2, rfl, t2⟩⟩
    refine ⟨_, rfl, q, _, 0, _, rfl, rfl, hq, atI_nat (j := 0) rfl, rfl, _, rfl, ite2 (fun c => ?_) (fun c => ?_)⟩
    · have c' : y.1 = 0 := V.int.inj (of_decide_eq_true c)
      refine ⟨_, rfl, q, _, 1, _, rfl, rfl, hq, atI_nat (j := 1) rfl, rfl, _, rfl, ite2 (fun c2 => ?_) (fun c2 => ?_)⟩
      · have c2' : y.2.1 = 0 := V.int.inj (of_decide_eq_true c2)
        have kk := k
        rw [show qquot d x y = none from if_pos ⟨c', c2'⟩] at kk
        exact kk .non H (Same.refl H) rfl
      · exact go (fun z => c2 (decide_eq_true (congrArg V.int z.2))) rfl
    · exact iteF (go (fun z => c (decide_eq_true (congrArg V.int z.1))) rfl)
end
/-! ### drawn ruled chains, and their parts turn by turn -/
/-- all but the object at r stays -/
def Kp (r : Addr) (H H' : Hp) : Prop := ∀ b o, H b = some o → b ≠ r → H' b = some o
theorem Kp.trans {r : Addr} {H H1 H2 : Hp} (a : Kp r H H1) (b : Kp r H1 H2) : Kp r H H2 := fun c o e n => b c o (a c o e n) n
theorem Kp.same {r : Addr} {H H' : Hp} (s : Same H H') : Kp r H H' := fun c o e _ => s c o e
/-- a list that grows in a comprehension, new over H0 -/
theorem Kp.put {r d : Addr} {H0 H H' : Hp} {o : HO} (k : Kp r H0 H) (nd : H0 d = none) (e : H' = upd H d o) : Kp r H0 H' := fun c u z n => by
  rw [e, upd_ne (ne_of_none z nd)]
  exact k c u z n
theorem ixN_last' {n : Nat} (h : 0 < n) : ixN n (-1) = some (n - 1) := by
  unfold ixN
  rw [if_neg (by decide), if_pos (by omega)]
  congr 1
  omega
theorem menu36 {v : Int} (h0 : 0 ≤ v) (h1 : v < 2) : ∃ m : Int, atI [V.int 3, .int 60] v = some (.int m) ∧ 0 < m ∧ m ≤ 60 := by
  obtain e | e : v = 0 ∨ v = 1 := by omega
  all_goals subst e
  · exact ⟨3, rfl, by decide, by decide⟩
  · exact ⟨60, rfl, by decide, by decide⟩
section
variable {P : Program} {w : World} {K : PySem.W.Frag} {mg : Str → Option Value} {base : Heap} {A : Ad}
/-- a drawn ruled chain: all that the laws need of it -/
structure DrawnR (ps ring steps : List Int) : Prop extends RuledGood ps ring steps where
  f9 : ∀ z ∈ ps, -9 ≤ z ∧ z ≤ 60
  r5 : ∀ z ∈ ring, 1 ≤ z ∧ z ≤ 5
  s4 : ∀ z ∈ steps, 0 ≤ z ∧ z ≤ 4
def sp_law_ruled (K : PySem.W.Frag) : Sp := fun vs H Q _ => ∃ (r a : Addr) (ns : List Int), vs = [.ref r] ∧ RowAt K H r a ns ∧
  ∀ v ps ring steps H', Leaf.At K H' v (.ruled ps ring steps) → DrawnR ps ring steps → RowAt K H' r a ns → Kp r H H' → Q (.ref v) H'
theorem ok_law_ruled (T : CT K mg A) (D : DT K mg A) (G_law_taken : COk P w K mg base CX0 1 "_law_taken" ["_law_row_here", "_law_many"] (sp_law_taken K)) (G_law_signed : COk P w K mg base CX0 2 "_law_signed" ["_law_row_here", "_law_most"] (sp_law_signed K)) :
    COk P w K mg base CX0 3 "_law_ruled" ["_law_row_here"] (sp_law_ruled K) := by
  refine COk.by D.law_ruled fun f fd F => ?_
  refine F.ok sc_law_ruled (fun vs H Q E h => ?_) (fun cdv Ar outer s H vs Q E hr h => ?_)
  · obtain ⟨r, a, ns, rfl, _⟩ := h
    rfl
  · obtain ⟨r, a, ns, rfl, R, k⟩ := h
    refine ⟨_, (pss_cons (ps_set (i := 1) sc_law_ruled.nd rfl (Or.inl rfl) (pe_c G_law_taken (hr.mono (by first | decide | omega)) (pa_cons (pv 0) (pa_cons pe_int pa_nil))))
    (C8.pss_cut (ps_set (i := 1) sc_law_ruled.nd rfl (Or.inl rfl) (pe_ifExp (pt_cmpR op_lt (pv 1) pe_int (nomark _)) (pe_op op_add pe_int (pe_op op_mod (pv 1) pe_int)) (pe_op op_sub (pv 1) pe_int)))
    (pss_cons (ps_set (i := 2) sc_law_ruled.nd rfl (Or.inl rfl) (pe_op op_cat (pe_lst (pa_cons (pe_c G_law_signed (hr.mono (by first | decide | omega)) (pa_cons (pv 0) (pa_cons pe_int pa_nil))) pa_nil)) (pe_lc (own := [("_law_k", 3)]) (g := gName 3) (tt := tYes) rfl sc_law_ruled.nd (pi_range1 rfl T.b_range (pa_cons (pe_op op_sub (pv 1) pe_int) pa_nil)) (blkOk_by (own := [("_law_k", 3)]) (N := ["_law_row_here", "_law_many", "_law_parts", "_law_k", "_law_size", "_law_ring", "_law_steps"]) (sc := defScope s_law_ruled) (by decide +kernel)) (fun _ _ _ _ _ => (pg_name (i := 3) sc_law_ruled.nd rfl (Or.inl rfl))) (fun _ _ _ _ _ => pts_nil) (fun _ _ _ _ _ => (pe_op op_add pe_int (pe_c G_law_taken (hr.mono (by first | decide | omega)) (pa_cons (pv 0) (pa_cons (pe_ix (show IxR _ (rIxL K) from ix_list) (pe_lst (pa_cons pe_int (pa_cons pe_int pa_nil))) (pe_op op_mod (pv 3) pe_int) (fun _ _ => rfl)) pa_nil))))))))
    (pss_cons (ps_set (i := 4) sc_law_ruled.nd rfl (Or.inl rfl) (pe_c G_law_taken (hr.mono (by first | decide | omega)) (pa_cons (pv 0) (pa_cons pe_int pa_nil))))
    (C8.pss_cut (ps_set (i := 4) sc_law_ruled.nd rfl (Or.inl rfl) (pe_ifExp (pt_cmpR op_lt (pv 4) pe_int (nomark _)) (pe_op op_mod (pv 4) pe_int) (pe_op op_sub (pv 4) pe_int)))
    (pss_cons (ps_setLc (i := 5) (own := [("_law_k", 3)]) (g := gName 3) (tt := tYes) rfl sc_law_ruled.nd rfl rfl (sw_true rfl rfl rfl (by decide +kernel)) (pi_range1 rfl T.b_range (pa_cons (pv 4) pa_nil)) (blkOk_by (own := [("_law_k", 3)]) (N := ["_law_row_here", "_law_many", "_law_parts", "_law_k", "_law_size", "_law_ring", "_law_steps"]) (sc := defScope s_law_ruled) (by decide +kernel)) (fun _ _ _ _ _ => (pg_name (i := 3) sc_law_ruled.nd rfl (Or.inl rfl))) (fun _ _ _ _ _ => pts_nil) (fun _ _ _ _ _ => (pe_op op_add pe_int (pe_c G_law_taken (hr.mono (by first | decide | omega)) (pa_cons (pv 0) (pa_cons pe_int pa_nil))))))
    (pss_cons (ps_setLc (i := 6) (own := [("_law_k", 3)]) (g := gName 3) (tt := tYes) rfl sc_law_ruled.nd rfl rfl (sw_true rfl rfl rfl (by decide +kernel)) (pi_range1 rfl T.b_range (pa_cons (pv 4) pa_nil)) (blkOk_by (own := [("_law_k", 3)]) (N := ["_law_row_here", "_law_many", "_law_parts", "_law_k", "_law_size", "_law_ring", "_law_steps"]) (sc := defScope s_law_ruled) (by decide +kernel)) (fun _ _ _ _ _ => (pg_name (i := 3) sc_law_ruled.nd rfl (Or.inl rfl))) (fun _ _ _ _ _ => pts_nil) (fun _ _ _ _ _ => (pe_op op_mul (pe_c G_law_taken (hr.mono (by first | decide | omega)) (pa_cons (pv 0) (pa_cons pe_int pa_nil))) (pe_c G_law_taken (hr.mono (by first | decide | omega)) (pa_cons (pv 0) (pa_cons pe_int pa_nil))))))
    (C8.pss_cut (ps_if (PW.pt (pw_and (pt_cmpR op_eq (pv 4) pe_int (nomark _)) (pw_and (pt_cmpR op_gt (pv 1) pe_int (nomark _)) (pw_and1 (pt_cmpR op_eq (pe_ix ix_list (pv 2) (pe_un un_neg pe_int) (fun _ _ => rfl)) pe_int (nomark _))))))
      (pss_one (ps_asg pe_int (pg_sub (pv 2) (pe_un un_neg pe_int) set_list))) pss_nil)
    (pss_one (ps_ret (pe_tup (pa_cons pe_str (pa_cons (pe_callTy call_tuple_of (by rfl) T.b_tuple (by decide +kernel) (pa_cons (pv 2) pa_nil)) (pa_cons (pe_callTy call_tuple_of (by rfl) T.b_tuple (by decide +kernel) (pa_cons (pv 5) pa_nil)) (pa_cons (pe_callTy call_tuple_of (by rfl) T.b_tuple (by decide +kernel) (pa_cons (pv 6) pa_nil)) pa_nil))))))))))))))), ?_⟩
    have wd : ∀ z : Int, z ≤ 1000 → z < 2 ^ 8000 := fun z hz => Int.lt_of_le_of_lt hz (by decide +kernel)
    refine ⟨_, rfl, r, a, ns, _, rfl, R, by decide, wd _ (by decide), fun m0 H1 m1 m2 R1 kp1 => ?_⟩
    -- how many
    refine ⟨fun σ H' => ∃ many : Int, 1 ≤ many ∧ many ≤ 12 ∧ σ = [some (V.ref r), some (V.int many), none, none, none, none, none] ∧ H' = H1, ?_, ?_⟩
    · refine ⟨_, rfl, _, _, rfl, rfl, _, rfl, ite2 (fun c => ?_) (fun c => ?_)⟩
      · have c' : m0 < 50 := of_decide_eq_true c
        exact ⟨_, rfl, _, _, rfl, rfl, (by show (0 : Int) < 5; decide), _, _, rfl, rfl, _, (by omega), (by omega), rfl, rfl⟩
      · have c' : ¬ m0 < 50 := fun z => c (decide_eq_true z)
        exact ⟨_, rfl, _, _, rfl, rfl, _, (by omega), (by omega), rfl, rfl⟩
    rintro σ H1' ⟨many, hm1, hm2, rfl, rfl⟩
    -- the first parts
    refine ⟨_, rfl, r, a, ns, _, rfl, R1, by decide, by decide, fun first H2 f0 f1 R2 kp2 => ?_⟩
    refine ⟨(by show 1 ≤ sizeLine; decide), fun l nl => ?_⟩
    have R3 := R2.same (same_upd (o := .lst [V.int first]) nl)
    have kp3 : Kp r H2 (upd H2 l (.lst [V.int first])) := .same (same_upd nl)
    have hl3 : (upd H2 l (.lst [V.int first])) l = some (.lst [V.int first]) := upd_same
    have nlr : l ≠ r := by
      obtain ⟨x, xs, e⟩ := R2.at_
      exact (ne_of_none e nl).symm
    have kp13 : Kp r H (upd H2 l (.lst [V.int first])) := (show Kp r H H1' from kp1).trans ((show Kp r H1' H2 from kp2).trans kp3)
    generalize upd H2 l (.lst [V.int first]) = H3 at *
    refine ⟨_, rfl, _, _, rfl, rfl, many - 1, rfl, by omega, by omega, fun D0 nD => lc_range (lo := 0) (n := (many - 1).toNat) (fun i H' => ∃ zs : List Int, H' D0 = some (.lst (zs.map V.int)) ∧ zs.length = i ∧ (∀ z ∈ zs, 1 ≤ z ∧ z ≤ 60) ∧ RowAt K H' r a ns ∧ Kp r H3 H') ?_ ?_ ?_⟩
    · exact ⟨[], upd_same, rfl, (fun z hz => by cases hz), R3.same (same_upd nD), .same (same_upd nD)⟩
    · rintro i H' hi ⟨zs, hD, hz1, hz2, R', k'⟩
      have nDr : D0 ≠ r := by
        obtain ⟨x, xs, e⟩ := R'.at_
        exact ne_of hD e (by intro z; exact ref_ne zs (HO.lst.inj z).symm)
      refine ⟨rfl, _, rfl, (by show 2 ≤ sizeLine; decide), fun q nq => ?_⟩
      have m0' : 0 ≤ (0 + (i : Int)) % 2 := Int.emod_nonneg _ (by decide)
      have m1' : (0 + (i : Int)) % 2 < 2 := Int.emod_lt_of_pos _ (by decide)
      obtain ⟨mm, em, mm0, mm1⟩ := menu36 m0' m1'
      refine ⟨_, rfl, _, _, rfl, rfl, (by show (0 : Int) < 2; decide), q, _, _, _, rfl, rfl, SqL.of upd_same, em, ?_⟩
      have s4 := same_upd (o := .lst [V.int 3, .int 60]) nq
      refine ⟨r, a, ns, mm, rfl, R'.same s4, mm0, wd _ (by omega), fun t H'' t0 t1 R'' kp'' => ?_⟩
      have hD2 := kp'' D0 _ (s4 _ _ hD) nDr
      refine ⟨_, _, rfl, rfl, _, hD2, ?_, zs ++ [1 + t], ?_, ?_, ?_, R''.put hD2 nDr, ?_⟩
      · rw [List.length_map]
        exact Nat.lt_of_lt_of_le (show zs.length < 20 by omega) (by decide)
      · rw [upd_same, List.map_append]
        rfl
      · rw [List.length_append, hz1]
        rfl
      · intro z hz
        rcases List.mem_append.mp hz with hz | hz
        · exact hz2 z hz
        · have e := List.mem_singleton.mp hz
          omega
      · exact Kp.put ((k'.trans (.same s4)).trans kp'') nD rfl
    rintro H4 ⟨zs, hD4, hz1, hz2, R4, k4⟩
    have hl4 := k4 l _ hl3 nlr
    refine ⟨l, D0, _, _, rfl, rfl, hl4, hD4, ?_, fun q nq => ?_⟩
    · rw [List.length_map, hz1]
      exact Nat.le_trans (show 1 + (many - 1).toNat ≤ 20 by omega) (by decide)
    have R5 := R4.same (same_upd (o := .lst ([V.int first] ++ zs.map V.int)) nq)
    have hq5 : (upd H4 q (.lst ([V.int first] ++ zs.map V.int))) q = some (.lst ((first :: zs).map V.int)) := upd_same
    have kp5 : Kp r H (upd H4 q (.lst ([V.int first] ++ zs.map V.int))) := (kp13.trans k4).trans (.same (same_upd nq))
    have nqr : q ≠ r := by
      obtain ⟨x, xs, e⟩ := R4.at_
      exact (ne_of_none e nq).symm
    have nqH : H q = none := by
      cases z : H q with
      | none => rfl
      | some o =>
        have := (kp13.trans k4) q o z nqr
        rw [nq] at this
        cases this
    generalize upd H4 q (.lst ([V.int first] ++ zs.map V.int)) = H5 at *
    -- the ring's size
    refine ⟨_, rfl, r, a, ns, _, rfl, R5, by decide, wd _ (by decide), fun s0 H6 s1 s2 R6 kp6 => ?_⟩
    have hq6 := kp6 q _ hq5 nqr
    have kp06 : Kp r H H6 := kp5.trans kp6
    refine ⟨fun σ H' => ∃ size : Int, 0 ≤ size ∧ size ≤ 12 ∧ σ = [some (V.ref r), some (V.int many), some (V.ref q), none, some (V.int size), none, none] ∧ H' = H6, ?_, ?_⟩
    · refine ⟨_, rfl, _, _, rfl, rfl, _, rfl, ite2 (fun c => ?_) (fun c => ?_)⟩
      · have c' : s0 < 40 := of_decide_eq_true c
        exact ⟨_, rfl, _, _, rfl, rfl, (by show (0 : Int) < 4; decide), _, (by omega), (by omega), rfl, rfl⟩
      · have c' : ¬ s0 < 40 := fun z => c (decide_eq_true z)
        exact ⟨_, rfl, _, _, rfl, rfl, _, (by omega), (by omega), rfl, rfl⟩
    rintro σ H6' ⟨size, hs1, hs2, rfl, rfl⟩
    -- the ring
    refine ⟨_, rfl, size, rfl, by omega, by omega, fun D1 nD1 => lc_range (lo := 0) (n := size.toNat) (fun i H' => ∃ ys : List Int, H' D1 = some (.lst (ys.map V.int)) ∧ ys.length = i ∧ (∀ z ∈ ys, 1 ≤ z ∧ z ≤ 5) ∧ RowAt K H' r a ns ∧ Kp r H6' H') ?_ ?_ ?_⟩
    · exact ⟨[], upd_same, rfl, (fun z hz => by cases hz), R6.same (same_upd nD1), .same (same_upd nD1)⟩
    · rintro i H' hi ⟨ys, hD, hy1, hy2, R', k'⟩
      have nDr : D1 ≠ r := by
        obtain ⟨x, xs, e⟩ := R'.at_
        exact ne_of hD e (by intro z; exact ref_ne ys (HO.lst.inj z).symm)
      refine ⟨rfl, _, rfl, r, a, ns, _, rfl, R', by decide, wd _ (by decide), fun t H'' t0 t1 R'' kp'' => ?_⟩
      have hD2 := kp'' D1 _ hD nDr
      refine ⟨_, _, rfl, rfl, _, hD2, ?_, ys ++ [1 + t], ?_, ?_, ?_, R''.put hD2 nDr, ?_⟩
      · rw [List.length_map]
        exact Nat.lt_of_lt_of_le (show ys.length < 20 by omega) (by decide)
      · rw [upd_same, List.map_append]
        rfl
      · rw [List.length_append, hy1]
        rfl
      · intro z hz
        rcases List.mem_append.mp hz with hz | hz
        · exact hy2 z hz
        · have e := List.mem_singleton.mp hz
          omega
      · exact Kp.put (k'.trans kp'') nD1 rfl
    rintro H7 ⟨ys, hD7, hy1, hy2, R7, k7⟩
    have hq7 := k7 q _ hq6 nqr
    have nD1r : D1 ≠ r := by
      obtain ⟨x, xs, e⟩ := R7.at_
      exact ne_of hD7 e (by intro z; exact ref_ne ys (HO.lst.inj z).symm)
    have nqD1 : q ≠ D1 := ne_of_none hq6 nD1
    -- the steps
    refine ⟨_, rfl, size, rfl, by omega, by omega, fun D2 nD2 => lc_range (lo := 0) (n := size.toNat) (fun i H' => ∃ us : List Int, H' D2 = some (.lst (us.map V.int)) ∧ us.length = i ∧ (∀ z ∈ us, 0 ≤ z ∧ z ≤ 4) ∧ RowAt K H' r a ns ∧ Kp r H7 H') ?_ ?_ ?_⟩
    · exact ⟨[], upd_same, rfl, (fun z hz => by cases hz), R7.same (same_upd nD2), .same (same_upd nD2)⟩
    · rintro i H' hi ⟨us, hD, hu1, hu2, R', k'⟩
      have nDr : D2 ≠ r := by
        obtain ⟨x, xs, e⟩ := R'.at_
        exact ne_of hD e (by intro z; exact ref_ne us (HO.lst.inj z).symm)
      refine ⟨rfl, _, rfl, r, a, ns, _, rfl, R', by decide, wd _ (by decide), fun t H'' t0 t1 R'' kp'' => ?_⟩
      refine ⟨_, rfl, r, a, ns, _, rfl, R'', by decide, wd _ (by decide), fun t' H3' t0' t1' R3' kp3' => ?_⟩
      have hD2 := kp3' D2 _ (kp'' D2 _ hD nDr) nDr
      have tt : t * t' ≤ 2 * 2 := Int.mul_le_mul (by omega) (by omega) t0' (by decide)
      have tt0 : 0 ≤ t * t' := Int.mul_nonneg t0 t0'
      refine ⟨_, _, rfl, rfl, .inl ⟨by omega, by omega⟩, _, hD2, ?_, us ++ [t * t'], ?_, ?_, ?_, R3'.put hD2 nDr, ?_⟩
      · rw [List.length_map]
        exact Nat.lt_of_lt_of_le (show us.length < 20 by omega) (by decide)
      · rw [upd_same, List.map_append]
        rfl
      · rw [List.length_append, hu1]
        rfl
      · intro z hz
        rcases List.mem_append.mp hz with hz | hz
        · exact hu2 z hz
        · have e := List.mem_singleton.mp hz
          omega
      · exact Kp.put ((k'.trans kp'').trans kp3') nD2 rfl
    rintro H8 ⟨us, hD8, hu1, hu2, R8, k8⟩
    have hq8 := k8 q _ hq7 nqr
    have hr8 := k8 D1 _ hD7 nD1r
    have nqD2 : q ≠ D2 := ne_of_none hq7 nD2
    have kp08 : Kp r H H8 := (kp06.trans k7).trans k8
    -- a last part of 1 becomes 2
    refine ⟨fun σ H' => ∃ (zt : List Int), σ = [some (V.ref r), some (V.int many), some (V.ref q), none, some (V.int size), some (V.ref D1), some (V.ref D2)] ∧ zt.length = zs.length ∧ (∀ z ∈ zt, 1 ≤ z ∧ z ≤ 60) ∧ (ys = [] → zt = [] ∨ ∃ z, zt.getLast? = some z ∧ 2 ≤ z) ∧ H' q = some (.lst ((first :: zt).map V.int)) ∧ H' D1 = some (.lst (ys.map V.int)) ∧ H' D2 = some (.lst (us.map V.int)) ∧ RowAt K H' r a ns ∧ Kp r H H', ?_, ?_⟩
    · refine ⟨_, rfl, rfl, _, rfl, ite2 (fun c => ?_) (fun c => ?_)⟩
      · refine ⟨_, rfl, _, _, rfl, rfl, _, rfl, ite2 (fun c2 => ?_) (fun c2 => ?_)⟩
        · have c2' : 1 < many := of_decide_eq_true c2
          have hn : zs ≠ [] := fun z => by rw [z] at hz1; simp at hz1; omega
          obtain ⟨i0, z, rfl⟩ : ∃ i0 z, zs = i0 ++ [z] := ⟨_, _, (List.dropLast_concat_getLast hn).symm⟩
          have eat : atI ((first :: (i0 ++ [z])).map V.int) (-1) = some (.int z) := by
            have : (first :: (i0 ++ [z])).map V.int = (first :: i0).map V.int ++ [.int z] := by simp
            rw [this]
            exact atI_last _ _
          have hz := hz2 z (List.mem_append_right _ List.mem_cons_self)
          refine ⟨_, rfl, 1, rfl, q, _, _, _, rfl, rfl, SqL.of hq8, eat, rfl, _, rfl, ite2 (fun c3 => ?_) (fun c3 => ?_)⟩
          · refine ⟨_, rfl, 1, rfl, q, _, _, i0.length + 1, rfl, rfl, hq8, ?_, i0 ++ [2], rfl, by simp, ?_, fun _ => .inr ⟨2, List.getLast?_concat, by decide⟩, ?_, ?_, ?_, R8.put hq8 nqr, Kp.put kp08 nqH rfl⟩
            · rw [ixN_last' (by simp)]
              simp
            · intro y hy
              rcases List.mem_append.mp hy with hy | hy
              · exact hz2 y (List.mem_append_left _ hy)
              · have e := List.mem_singleton.mp hy
                omega
            · rw [upd_same]
              simp
            · rw [upd_ne nqD1.symm]
              exact hr8
            · rw [upd_ne nqD2.symm]
              exact hD8
          · have hne : z ≠ 1 := fun y => c3 (decide_eq_true (by rw [y]))
            exact ⟨_, rfl, rfl, hz2, fun _ => .inr ⟨z, List.getLast?_concat, by omega⟩, hq8, hr8, hD8, R8, kp08⟩
        · have c2' : ¬ 1 < many := fun z => c2 (decide_eq_true z)
          have e : zs = [] := List.length_eq_zero_iff.mp (by omega)
          exact iteF ⟨_, rfl, rfl, hz2, fun _ => .inl e, hq8, hr8, hD8, R8, kp08⟩
      · have c' : size ≠ 0 := fun z => c (decide_eq_true (by rw [z]))
        have hy : ys ≠ [] := fun z => by rw [z] at hy1; simp at hy1; omega
        exact iteF ⟨_, rfl, rfl, hz2, fun z => absurd z hy, hq8, hr8, hD8, R8, kp08⟩
    rintro σ H9 ⟨zt, rfl, hzl, hz9, hlast, hq9, hr9, hu9, R9, kp9⟩
    refine ⟨_, rfl, q, _, rfl, .inl ⟨SqL.of hq9, fun p1 np1 => ?_⟩⟩
    have sa := same_upd (o := .tup ((first :: zt).map V.int)) np1
    refine ⟨_, rfl, D1, _, rfl, .inl ⟨SqL.of (sa _ _ hr9), fun p2 np2 => ?_⟩⟩
    have sb := same_upd (o := .tup (ys.map V.int)) np2
    refine ⟨_, rfl, D2, _, rfl, .inl ⟨SqL.of (sb _ _ (sa _ _ hu9)), fun p3 np3 => ?_⟩⟩
    have sc := same_upd (o := .tup (us.map V.int)) np3
    refine ⟨(by show 4 ≤ sizeLine; decide), fun v nv => ?_⟩
    have sd := same_upd (o := .tup [V.str "ruled", .ref p1, .ref p2, .ref p3]) nv
    have sall := ((sa.trans sb).trans sc).trans sd
    refine k v (first :: zt) ys us _ ⟨p1, p2, p3, SqT.of upd_same, SqT.of (sd _ _ (sc _ _ (sb _ _ upd_same))), SqT.of (sd _ _ (sc _ _ upd_same)), SqT.of (sd _ _ upd_same)⟩ ?_ (R9.same sall) (kp9.trans (.same sall))
    refine ⟨⟨⟨List.cons_ne_nil _ _, ?_, ?_, ?_, ?_, ?_, ?_⟩, ?_, ?_, ?_⟩, ?_, hy2, hu2⟩
    · rw [List.length_cons]; omega
    · omega
    · omega
    · intro z hz
      rcases List.mem_cons.mp hz with rfl | hz
      · exact ⟨by omega, by omega⟩
      · have := hz9 z hz; exact ⟨by omega, by omega⟩
    · intro z hz; have := hy2 z hz; exact ⟨by omega, by omega⟩
    · intro z hz; have := hu2 z hz; exact ⟨by omega, by omega⟩
    · intro z hz
      rcases List.mem_append.mp hz with hz | hz
      · exact (hz9 z hz).1
      · exact (hy2 z hz).1
    · intro z hz; exact (hu2 z hz).1
    · intro e
      rcases hlast e with h1 | ⟨z, h1, h2⟩
      · left; rw [h1]; rfl
      · right
        refine ⟨z, ?_, h2⟩
        cases zt with
        | nil => cases h1
        | cons x y => rw [List.getLast?_cons_cons]; exact h1
    · intro z hz
      rcases List.mem_cons.mp hz with rfl | hz
      · omega
      · have := hz9 z hz; omega
end
/-! ### eight numbers, drawn -/
section
variable {P : Program} {w : World} {K : PySem.W.Frag} {mg : Str → Option Value} {base : Heap} {A : Ad}
def Drawn8 (es : List Int) : Prop := es.length = 8 ∧ (∀ z ∈ es, -2 ≤ z ∧ z ≤ 2) ∧ Crossed es
def KpR (r : Addr) (H H' : Hp) : Prop := ∀ b o, H b = some o → b ≠ r → H' b = some o
def sp_law_eight (K : PySem.W.Frag) : Sp := fun vs H Q _ => ∃ (r a : Addr) (ns : List Int), vs = [.ref r] ∧ RowAt K H r a ns ∧
  ∀ p es H', SqT K H' p (es.map V.int) → Drawn8 es → RowAt K H' r a ns → KpR r H H' → Q (.ref p) H'
theorem dr0 : Drawn8 [0, 1, 1, 0, 0, 0, 0, 1] := ⟨rfl, by decide, 3, 1, by decide, by decide, by decide⟩
theorem dr1 : Drawn8 [1, 0, 0, 0, 0, 0, 0, 1] := ⟨rfl, by decide, 3, 0, by decide, by decide, by decide⟩
theorem dr2 : Drawn8 [0, 1, -1, 0, 0, 0, 0, 1] := ⟨rfl, by decide, 3, 1, by decide, by decide, by decide⟩
theorem dr3 : Drawn8 [0, 1, 0, 0, 0, 0, 1, 0] := ⟨rfl, by decide, 2, 1, by decide, by decide, by decide⟩
theorem int_at {es : List Int} {i : Nat} (h : i < es.length) : (es.map V.int)[i]? = some (.int (es.getD i 0)) := by
  rw [List.getElem?_map, List.getElem?_eq_getElem h]
  simp [List.getD, h]
end
/-! ### ruled chains without end -/
theorem rowNo {K : PySem.W.Frag} {H0 : Hp} {r a : Addr} {ns : List Int} (R : RowAt K H0 r a ns) : ∀ b o, b = r → H0 b = some o → (∀ ys, o ≠ .tup ys) ∧ ∀ ob u, o ≠ .frz ob u := fun b o e z => by
  obtain ⟨x, xs, e2⟩ := R.at_
  subst e
  rw [e2] at z
  cases z
  exact ⟨fun _ q => (by cases q), fun _ _ q => (by cases q)⟩
theorem sqT_row {K : PySem.W.Frag} {H H' : Hp} {r a p : Addr} {ns : List Int} {xs : List V} (h : SqT K H p xs) (R : RowAt K H r a ns) (k : ∀ b o, H b = some o → b ≠ r → H' b = some o) : SqT K H' p xs :=
  sqT_but (N := fun b => b = r) h k (rowNo R)
theorem Leaf.At.row {K : PySem.W.Frag} {H H' : Hp} {r a v : Addr} {ns : List Int} {f : Leaf} (h : f.At K H v) (R : RowAt K H r a ns) (k : ∀ b o, H b = some o → b ≠ r → H' b = some o) : f.At K H' v := by
  cases f with
  | frac t b => exact sqT_row h R k
  | root t s b => exact sqT_row h R k
  | ruled ps ring steps =>
    obtain ⟨p, q, u, e, hp, hq, hu⟩ := h
    exact ⟨p, q, u, sqT_row e R k, sqT_row hp R k, sqT_row hq R k, sqT_row hu R k⟩
theorem DrawnR.endless {ps : List Int} (d : DrawnR ps [] []) : DrawnR ps [1, 2] [0, 1] := by
  obtain ⟨⟨⟨p1, p12, r12, sm, tp, tr, ts⟩, one, nn, last⟩, f9, r5, s4⟩ := d
  refine ⟨⟨⟨p1, p12, by decide, rfl, tp, ?_, ?_⟩, ?_, by decide, fun z => nomatch z⟩, f9, by decide, by decide⟩
  · intro z hz
    simp only [List.mem_cons, List.not_mem_nil, or_false] at hz
    rcases hz with rfl | rfl <;> exact ⟨by decide, by decide⟩
  · intro z hz
    simp only [List.mem_cons, List.not_mem_nil, or_false] at hz
    rcases hz with rfl | rfl <;> exact ⟨by decide, by decide⟩
  · intro z hz
    rw [List.append_nil] at one
    rcases List.mem_append.mp hz with h | h
    · exact one z h
    · simp only [List.mem_cons, List.not_mem_nil, or_false] at h
      rcases h with rfl | rfl <;> decide
theorem getD_mem' {xs : List Int} {i : Nat} (h : i < xs.length) : xs.getD i 0 ∈ xs := by
  have e : xs.getD i 0 = xs[i] := by simp [List.getD, h]
  rw [e]
  exact List.getElem_mem h
/-- how great a drawn chain's parts are -/
theorem DrawnR.bound {ps ring steps : List Int} (d : DrawnR ps ring steps) (hr : ring ≠ []) (i : Nat) : (ruledAt ps ring steps i).natAbs ≤ 60 + 4 * i := by
  unfold ruledAt
  split
  · rename_i h
    have := d.f9 _ (getD_mem' h)
    omega
  · have hl : 0 < ring.length := List.length_pos_iff.mpr hr
    have h1 := d.r5 _ (getD_mem' (xs := ring) (i := (i - ps.length) % ring.length) (Nat.mod_lt _ hl))
    have h2 := d.s4 _ (getD_mem' (xs := steps) (i := (i - ps.length) % ring.length) (by rw [d.same]; exact Nat.mod_lt _ hl))
    have hp : 0 < ps.length := List.length_pos_iff.mpr d.p1
    have h3 : (i - ps.length) / ring.length ≤ i - ps.length := Nat.div_le_self _ _
    generalize ring.getD ((i - ps.length) % ring.length) 0 = x at *
    generalize steps.getD ((i - ps.length) % ring.length) 0 = y at *
    generalize (i - ps.length) / ring.length = t at *
    have h4 : (t : Int) * y ≤ t * 4 := Int.mul_le_mul_of_nonneg_left h2.2 (by omega)
    have h5 : 0 ≤ (t : Int) * y := Int.mul_nonneg (by omega) h2.1
    generalize (t : Int) * y = z at *
    by_cases hi : i < ps.length
    · omega
    · omega
theorem ruled_go {ps ring steps : List Int} (hr : ring ≠ []) (i : Nat) : Chain.ended (.ruled ps ring steps i) = false := by
  show (decide (ring = []) && decide (ps.length ≤ i)) = false
  rw [decide_eq_false hr, Bool.false_and]
section
variable {P : Program} {w : World} {K : PySem.W.Frag} {mg : Str → Option Value} {base : Heap} {A : Ad}
end
/-! ### four numbers, drawn -/
section
variable {P : Program} {w : World} {K : PySem.W.Frag} {mg : Str → Option Value} {base : Heap} {A : Ad}
theorem KpR.trans {r : Addr} {H H1 H2 : Hp} (a : KpR r H H1) (b : KpR r H1 H2) : KpR r H H2 := fun c o e n => b c o (a c o e n) n
theorem KpR.same {r : Addr} {H H' : Hp} (s : Same H H') : KpR r H H' := fun c o e _ => s c o e
theorem KpR.put {r d : Addr} {H0 H H' : Hp} {o : HO} (k : KpR r H0 H) (nd : H0 d = none) (e : H' = upd H d o) : KpR r H0 H' := fun c u z n => by
  rw [e, upd_ne (ne_of_none z nd)]
  exact k c u z n
def Drawn4 (es : List Int) : Prop := es.length = 4 ∧ (∀ z ∈ es, -4 ≤ z ∧ z ≤ 4) ∧ Crossed es
end
/-! ### the laws' own asking: NoValue, caught by its own name -/
/-- what is told, or ("none",) -/
def OAt (A : Ad) (H : Hp) (v : V) : Option Ans → Prop
  | none => ∃ t, v = .ref t ∧ H t = some (.tup [.str "none"])
  | some an => an.At A H v
section
variable {X : Cx} {k : Nat} {x m : Str} {ps : List Str} {sp : Sp} {o e : Expr} {es : List Expr} {ta : TE} {t : TA} {p pos apos : Pos} {C : Addr}
def tMethS (C : Addr) (m : Str) (sp : Sp) (E : L2.St → XK) (ta : TE) (t : TA) : TE := fun σ H Q => ta σ H fun x H1 => ∃ a dx fs, x = .ref a ∧ H1 a = some (.ins C dx fs) ∧ fs.lookup m = none ∧ t σ H1 fun vs H2 => sp (.ref a :: vs) H2 Q (E σ)
open PySem.Spec PyProof.Rows in
theorem pe_mS {E : L2.St → XK} {pl : Sem Bool} (M : MOk X.prog X.w X.K X.mg X.base (L2.CX X.prog X.w) k C m ps sp) (hr : Room k X.A) (hx : ∀ σ, PassesAt (L2.CX X.prog X.w) X σ (E σ)) (he : PE X o ta) (ha : PA X (e :: es) t)
    (hst : starEach (e :: es) X.env = (false, eval e X.env) :: starEach es X.env := by rfl) (hpl : (backTo pos (starEach es X.env)).any (·.1) = false := by rfl)
    (ht : eval (.Call (.Attribute o m apos) (e :: es) [] pos) X.env = (do
      let ov ← eval o X.env; standAt apos.atName
      let (f, first) ← holding [ov] (getMethod ov m pl)
      callWith pos f first (backTo pos (starEach (e :: es) X.env)) (backToKw pos (keywordEach [] X.env))) := by rfl) :
    PE X (.Call (.Attribute o m apos) (e :: es) [] pos) (tMethS C m sp E ta t) := by
  obtain ⟨c, f, fd, F, hm, hb⟩ := M
  refine ⟨fun pins s σ H Q I h => ?_⟩
  refine PySem.W.methodCall_KW (pl := pl) (thn (he.run pins s σ H _ I h) fun u s1 ⟨x, H1, I1, rx, a, dx, fs, ex, ea, l, q⟩ => ?_) ht
  subst ex
  obtain rfl : u = Value.ref a := rx
  refine getmeth_ok I1 ea c hm l ?_
  refine PySem.W.callWith_K (first := [.ref a]) (h₀ := X.base) I.ok.mod.kin hm.kp (thn (ha.run pos pins s1 σ H1 _ I1 q) fun us s2 ⟨vs, H2, I2, r, q2⟩ => ⟨I2.kIn, ?_⟩) hst hpl
  exact run_fnS (us := .ref a :: us) (vs := .ref a :: vs) F hr hb (hx σ) I2 (.cons rfl r) q2
end
section
variable {P : Program} [NoTree P] {w : World} {K : PySem.W.Frag} {mg : Str → Option Value} {base : Heap} {A : Ad}
end
/-! ### the laws' own gathering of all parts -/
def oVals : Option Ans → List V
  | some a => a.vals
  | none => [.str "none"]
def oData : Option Ans → List PyData
  | some a => a.data
  | none => [.str "none"]
def oWord : Option Ans → Str
  | none => "none"
  | some (.part _) => "part"
  | some .fin => "end"
  | some .waits => "waits"
section
variable {P : Program} [NoTree P] {w : World} {K : PySem.W.Frag} {mg : Str → Option Value} {base : Heap} {A : Ad}
theorem oShaped (o : Option Ans) : SeqAt.shaped (.tuple (oData o)) = true := by
  cases o with
  | some a => exact a.shaped
  | none =>
    have h1 : PyData.strOk "none" = true := by decide +kernel
    simp [SeqAt.shaped, oData, PyData.canLay0, PyData.canLayAll0, PyData.depth, PyData.depthAll, h1]
theorem oDp {H : Hp} {p : Addr} (o : Option Ans) (h : SqT K H p (oVals o)) : Dp K H (.ref p) (.tuple (oData o)) := by
  cases o with
  | some a => exact a.dp h
  | none => exact .tup h (.cons (.str _) .nil)
theorem oTup (T : CT K mg A) {H : Hp} {v : V} {o : Option Ans} (h : OAt A H v o) : ∃ p, v = .ref p ∧ SqT K H p (oVals o) := by
  cases o with
  | none => obtain ⟨t, e, ht⟩ := h; exact ⟨t, e, SqT.of ht⟩
  | some a => exact Ans.At.tup T h
/-- only the row's list is written -/
theorem ReadB.row {H H' : Hp} {r a rd ax m : Addr} {ns : List Int} {fp : List Addr} {B : Box} {l s : Int} (R : ReadB A K H rd ax m fp B l s) (Rw : RowAt K H r a ns) (nr : r ∉ fp) (k : ∀ b o, H b = some o → b ≠ r → H' b = some o) : ReadB A K H' rd ax m fp B l s := by
  obtain ⟨x, xs, er⟩ := Rw.at_
  obtain ⟨rx, e1⟩ := R.rd
  obtain ⟨dm, em⟩ := R.mt
  refine R.kept (N := fun c => c = r) (fun c o e n => k c o e n) (fun c o z e => ?_) (fun z => ?_) (fun z => ?_) (fun c hc z => nr (z ▸ hc))
  · subst z
    rw [er] at e
    cases e
    exact ⟨fun _ q => (by cases q), fun _ _ q => (by cases q)⟩
  · rw [z, er] at e1; cases e1
  · rw [z, er] at em; cases em
/-- what a reading changes is no row's -/
theorem RowAt.frame {H H' : Hp} {r a m : Addr} {ns : List Int} {fp : List Addr} (R : RowAt K H r a ns) (hf : ∀ c ∈ fp, Soft H c) (hm : ∃ C dx fs, H m = some (.ins C dx fs)) (nr : r ∉ fp) (k : ∀ c z, H c = some z → c ∉ fp → c ≠ m → H' c = some z) : RowAt K H' r a ns := by
  obtain ⟨⟨i, l, mx, e, z⟩, hS⟩ := R
  obtain ⟨C, dx, fs, em⟩ := hm
  have nrm : r ≠ m := fun q => by rw [q, em] at e; cases e
  refine ⟨⟨i, l, mx, k _ _ e nr nrm, z⟩, ?_⟩
  rcases hS with ⟨o, h⟩ | h
  · refine .inl ⟨o, k _ _ h (fun q => (Soft.no (hf a q) h).2 _ _ rfl) fun q => ?_⟩
    rw [q, em] at h
    cases h
  · exact .inr h
theorem eqv_ow (o : Option Ans) (h : o ≠ some .waits) : PyData.eqv (.tuple (oData o)) (.tuple [.str "waits"]) = false := by
  cases o with
  | none => decide +kernel
  | some a =>
    cases a with
    | part n => rfl
    | fin => decide +kernel
    | waits => exact absurd rfl h
theorem eqv_ww : PyData.eqv (.tuple (oData (some .waits))) (.tuple [.str "waits"]) = true := SeqAt.eqv_refl _ (SeqAt.canLay_of_shaped (oShaped (some .waits)))
theorem hu65 {k : Nat} {A : Around} (r : Room k A) : A.units + 65 < cLine := by have := r.un; omega
end
section
variable {P : Program} [NoTree P] {w : World} {K : PySem.W.Frag} {mg : Str → Option Value} {base : Heap} {A : Ad}
end
/-! ### the law's own machine: its numbers -/
theorem hu_of {k : Nat} {A : Around} (r : Room k A) : A.units + 1 < cLine := by have := r.un; omega
def optV : Option Int → V
  | some q => .int q
  | none => .non
def cornersOf (ns : List Int) : List (Int × Int) := if ns.length = 4 then fourCorners ns else eightCorners ns
def movedBy (ns : List Int) (which : Nat) (q : Int) : List Int := if ns.length = 4 then withOne ns q else if which = 0 then withFirst ns q else withSecond ns q
structure LM where
  ns : List Int
  w : Nat
  i : Nat
  j : Nat
  rest : Option (Int × Int)
  bg : Bool
def LM.tk (M : LM) (k : Nat) : Nat := if k = 0 then M.i else M.j
def LM.ready (M : LM) : Bool := if M.ns.length = 8 then decide (0 < M.i ∧ 0 < M.j) else decide (0 < M.tk M.w)
def LM.sure (M : LM) : Option Int := if M.ready = true then surePart (cornersOf M.ns) else none
def LM.wh (M : LM) : Nat := if M.ns.length = 8 then (if M.j < M.i then 1 else 0) else M.w
def LM.tell (M : LM) (q : Int) : LM := { M with ns := turnedOver M.ns q, bg := true }
def LM.end_ (M : LM) (k : Nat) : LM :=
  if M.ns.length = 4 then { M with rest := some (M.ns.getD 0 0, M.ns.getD 2 0) }
  else if (leftOf M.ns k).getD 0 0 * (leftOf M.ns k).getD 3 0 ≠ (leftOf M.ns k).getD 1 0 * (leftOf M.ns k).getD 2 0 then { M with ns := leftOf M.ns k, w := 1 - k }
  else if (leftOf M.ns k).getD 0 0 = 0 ∧ (leftOf M.ns k).getD 2 0 = 0 then { M with rest := some ((leftOf M.ns k).getD 1 0, (leftOf M.ns k).getD 3 0) }
  else { M with rest := some ((leftOf M.ns k).getD 0 0, (leftOf M.ns k).getD 2 0) }
theorem LM.end8 {M : LM} {k : Nat} {x0 x1 x2 x3 : Int} (hl : M.ns.length = 8) (eL : leftOf M.ns k = [x0, x1, x2, x3]) : M.end_ k = if x0 * x3 ≠ x1 * x2 then { M with ns := [x0, x1, x2, x3], w := 1 - k } else if x0 = 0 ∧ x2 = 0 then { M with rest := some (x1, x3) } else { M with rest := some (x0, x2) } := by
  unfold LM.end_
  rw [if_neg (by rw [hl]; decide), eL]
  rfl
theorem moved_second {ns : List Int} {which : Nat} {q : Int} (hl : ns.length = 8) (hw : which ≠ 0) : movedBy ns which q = withSecond ns q := by
  unfold movedBy
  rw [if_neg (by rw [hl]; decide), if_neg hw]
def LM.take (M : LM) (k : Nat) (q : Int) : LM := if k = 0 then { M with ns := movedBy M.ns k q, i := M.i + 1 } else { M with ns := movedBy M.ns k q, j := M.j + 1 }
def restO (t b : Int) (bg : Bool) : Option Ans := if b = 0 then (if bg = true then some .fin else none) else some (.part (t.fdiv b))
def LM.onward (M : LM) (t b : Int) : LM := if b = 0 then M else { M with rest := some (b, t - t.fdiv b * b), bg := true }
def wrapF (F : Box → Box) (z : Option (Option Ans × Box × Int)) : Option (Option Ans × Box × Int) := z.map fun y => (y.1, F y.2.1, y.2.2)
theorem wrap_id (z : Option (Option Ans × Box × Int)) : wrapF (fun x => x) z = z := by
  unfold wrapF
  cases z <;> rfl
theorem wrap_R (n : Nat) (C : Box) (l : Int) : askF (n + 1) (.eightR C) l = wrapF Box.eightR (askF n C l) := by
  simp only [askF]
  rfl
section
variable {M : LM}
theorem LM.sure8 (hl : M.ns.length = 8) : M.sure = sureE M.ns M.i M.j := by
  have e1 : cornersOf M.ns = eightCorners M.ns := if_neg (by rw [hl]; decide)
  have e2 : M.ready = decide (0 < M.i ∧ 0 < M.j) := if_pos hl
  unfold LM.sure
  rw [e1, e2]
  unfold sureE
  by_cases z : 0 < M.i ∧ 0 < M.j
  · rw [if_pos (show (0 : Int) < M.i ∧ (0 : Int) < M.j from ⟨by omega, by omega⟩), decide_eq_true z, if_pos rfl]
  · rw [if_neg (show ¬ ((0 : Int) < M.i ∧ (0 : Int) < M.j) from fun y => z ⟨by omega, by omega⟩), decide_eq_false z, if_neg (by decide)]
theorem LM.sure4 (hl : M.ns.length = 4) : M.sure = sureF M.ns (decide (0 < M.tk M.w)) := by
  have e1 : cornersOf M.ns = fourCorners M.ns := if_pos hl
  have e2 : M.ready = decide (0 < M.tk M.w) := if_neg (by rw [hl]; decide)
  unfold LM.sure
  rw [e1, e2]
theorem sure8 (hl : M.ns.length = 8) (hs : M.sure = none) : sureE M.ns M.i M.j = none := by rw [← LM.sure8 hl]; exact hs
theorem sure4 (hl : M.ns.length = 4) (hs : M.sure = none) : sureF M.ns (decide (0 < M.tk M.w)) = none := by rw [← LM.sure4 hl]; exact hs
end
/-! ### how great the numbers of a four and of an eight grow -/
def Bd (k : Nat) (z : Int) : Prop := z.natAbs ≤ 2 ^ k
theorem Bd.mono {k j : Nat} {z : Int} (h : Bd k z) (hk : k ≤ j) : Bd j z := Nat.le_trans h (Nat.pow_le_pow_right (by decide) hk)
theorem Bd.fits {k : Nat} {z : Int} (h : Bd k z) (hk : k < capE) : fits z := fits_of (Nat.lt_of_le_of_lt h (Nat.pow_lt_pow_right (by decide) hk))
theorem Bd.sub {k : Nat} {x y : Int} (h : Bd k x) (h' : Bd k y) : Bd (k + 1) (x - y) := by
  unfold Bd at *
  rw [Nat.pow_succ]
  generalize 2 ^ k = z at *
  omega
theorem Bd.add {k : Nat} {x y : Int} (h : Bd k x) (h' : Bd k y) : Bd (k + 1) (x + y) := by
  unfold Bd at *
  rw [Nat.pow_succ]
  generalize 2 ^ k = z at *
  omega
/-- x p + y, where x + ... are bounded: one part taken -/
theorem Bd.take {k e : Nat} {x y p : Int} (hx : Bd k x) (hy : Bd k y) (hp : p.natAbs + 2 ≤ 2 ^ e) : Bd (k + e) (x * (p - 1) + y) ∧ Bd (k + e) (x * p + y) := by
  unfold Bd at *
  have key : ∀ r : Int, r.natAbs + 1 ≤ 2 ^ e → (x * r + y).natAbs ≤ 2 ^ (k + e) := fun r hr => by
    have h1 : (x * r + y).natAbs ≤ (x * r).natAbs + y.natAbs := Int.natAbs_add_le _ _
    rw [Int.natAbs_mul] at h1
    have h2 : x.natAbs * r.natAbs ≤ 2 ^ k * r.natAbs := Nat.mul_le_mul_right _ hx
    have h3 : 2 ^ k * (r.natAbs + 1) ≤ 2 ^ k * 2 ^ e := Nat.mul_le_mul_left _ hr
    rw [Nat.mul_add, Nat.mul_one] at h3
    rw [Nat.pow_add]
    omega
  exact ⟨key _ (by omega), key _ (by omega)⟩
/-- the corners of a four -/
structure Cor (k : Nat) (a b c d : Int) : Prop where
  ha : Bd k a
  hab : Bd k (a + b)
  hc : Bd k c
  hcd : Bd k (c + d)
theorem Cor.fit {k : Nat} {a b c d : Int} (h : Cor k a b c d) (hk : k + 1 < capE) : allFit [a, b, c, d] (fourCorners [a, b, c, d]) = true := by
  have f : ∀ {z}, Bd k z → decide (Cp.fits z) = true := fun z => decide_eq_true (z.fits (by omega))
  have g : ∀ {z}, Bd (k + 1) z → decide (Cp.fits z) = true := fun z => decide_eq_true (z.fits (by omega))
  have eb : b = a + b - a := by omega
  have ed : d = c + d - c := by omega
  have hb : Bd (k + 1) b := by rw [eb]; exact h.hab.sub h.ha
  have hd : Bd (k + 1) d := by rw [ed]; exact h.hcd.sub h.hc
  show ([a, b, c, d].all (fun z => decide (Cp.fits z)) && [(a, c), (a + b, c + d)].all fun c => decide (Cp.fits c.1) && decide (Cp.fits c.2)) = true
  simp only [List.all_cons, List.all_nil, Bool.and_true, f h.ha, g hb, f h.hc, g hd, f h.hab, f h.hcd]
theorem Cor.take {k e : Nat} {a b c d p : Int} (h : Cor k a b c d) (hp : p.natAbs + 2 ≤ 2 ^ e) : Cor (k + e) (a * p + b) a (c * p + d) c := by
  have e1 : a * p + b = a * (p - 1) + (a + b) := by rw [Int.mul_sub, Int.mul_one]; omega
  have e2 : a * p + b + a = a * p + (a + b) := by omega
  have e3 : c * p + d = c * (p - 1) + (c + d) := by rw [Int.mul_sub, Int.mul_one]; omega
  have e4 : c * p + d + c = c * p + (c + d) := by omega
  exact ⟨e1 ▸ (h.ha.take h.hab hp).1, e2 ▸ (h.ha.take h.hab hp).2, e3 ▸ (h.hc.take h.hcd hp).1, e4 ▸ (h.hc.take h.hcd hp).2⟩
/-- what is left lies from nought to the number below -/
theorem left_abs {x y q : Int} (h : (0 < y ∧ q * y ≤ x ∧ x ≤ (q + 1) * y) ∨ (0 < -y ∧ q * -y ≤ -x ∧ -x ≤ (q + 1) * -y)) : (x - q * y).natAbs ≤ y.natAbs := by
  rcases h with ⟨h0, h1, h2⟩ | ⟨h0, h1, h2⟩
  · rw [Int.add_mul, Int.one_mul] at h2
    generalize q * y = z at *
    omega
  · rw [Int.mul_neg] at h1
    rw [Int.mul_neg, Int.add_mul, Int.one_mul] at h2
    generalize q * y = z at *
    omega
theorem Sure.each {cs : List (Int × Int)} {q : Int} (h : Sure cs q) {x y : Int} (hm : (x, y) ∈ cs) : (0 < y ∧ q * y ≤ x ∧ x ≤ (q + 1) * y) ∨ (0 < -y ∧ q * -y ≤ -x ∧ -x ≤ (q + 1) * -y) := by
  rcases h with h | h
  · exact .inl (h.1 _ hm)
  · exact .inr (h.1 (-x, -y) (List.mem_map.mpr ⟨_, hm, rfl⟩))
theorem Cor.turn {k : Nat} {a b c d q : Int} (h : Cor k a b c d) (hs : Sure [(a, c), (a + b, c + d)] q) : Cor k c d (a - q * c) (b - q * d) := by
  have e1 := left_abs (hs.each (x := a) (y := c) (by simp))
  have e2 := left_abs (hs.each (x := a + b) (y := c + d) (by simp))
  have e3 : a - q * c + (b - q * d) = a + b - q * (c + d) := by rw [Int.mul_add]; omega
  exact ⟨h.hc, h.hcd, Nat.le_trans e1 h.hc, e3 ▸ Nat.le_trans e2 h.hcd⟩
/-- the corners of an eight -/
structure Cor8 (k : Nat) (a b c d e f g h : Int) : Prop where
  ha : Bd k a
  hab : Bd k (a + b)
  hac : Bd k (a + c)
  had : Bd k (a + b + c + d)
  he : Bd k e
  hef : Bd k (e + f)
  heg : Bd k (e + g)
  heh : Bd k (e + f + g + h)
theorem bd_last {k : Nat} {a b c d : Int} (h1 : Bd k a) (h2 : Bd k (a + b)) (h3 : Bd k (a + c)) (h4 : Bd k (a + b + c + d)) : Bd (k + 2) b ∧ Bd (k + 2) c ∧ Bd (k + 2) d := by
  unfold Bd at *
  have e : 2 ^ (k + 2) = 2 ^ k * 4 := by rw [Nat.pow_add]
  rw [e]
  generalize 2 ^ k = z at *
  omega
theorem Cor8.fit {k : Nat} {a b c d e f g h : Int} (H : Cor8 k a b c d e f g h) (hk : k + 2 < capE) : allFit [a, b, c, d, e, f, g, h] (eightCorners [a, b, c, d, e, f, g, h]) = true := by
  have F : ∀ {z}, Bd k z → decide (Cp.fits z) = true := fun z => decide_eq_true (z.fits (by omega))
  have G : ∀ {z}, Bd (k + 2) z → decide (Cp.fits z) = true := fun z => decide_eq_true (z.fits (by omega))
  obtain ⟨b1, b2, b3⟩ := bd_last H.ha H.hab H.hac H.had
  obtain ⟨b4, b5, b6⟩ := bd_last H.he H.hef H.heg H.heh
  show ([a, b, c, d, e, f, g, h].all (fun z => decide (Cp.fits z)) && [(a, e), (a + b, e + f), (a + c, e + g), (a + b + c + d, e + f + g + h)].all fun c => decide (Cp.fits c.1) && decide (Cp.fits c.2)) = true
  simp only [List.all_cons, List.all_nil, Bool.and_true, F H.ha, F H.he, G b1, G b2, G b3, G b4, G b5, G b6, F H.hab, F H.hac, F H.had, F H.hef, F H.heg, F H.heh]
theorem Cor8.first {k n : Nat} {a b c d e f g h p : Int} (H : Cor8 k a b c d e f g h) (hp : p.natAbs + 2 ≤ 2 ^ n) : Cor8 (k + n) (a * p + c) (b * p + d) a b (e * p + g) (f * p + h) e f := by
  have e1 : ∀ a c : Int, a * p + c = a * (p - 1) + (a + c) := fun a c => by rw [Int.mul_sub, Int.mul_one]; omega
  have e2 : ∀ a b c d : Int, a * p + c + (b * p + d) = (a + b) * (p - 1) + (a + b + c + d) := fun a b c d => by rw [Int.mul_sub, Int.mul_one, Int.add_mul]; omega
  have e3 : ∀ a c : Int, a * p + c + a = a * p + (a + c) := fun a c => by omega
  have e4 : ∀ a b c d : Int, a * p + c + (b * p + d) + a + b = (a + b) * p + (a + b + c + d) := fun a b c d => by rw [Int.add_mul]; omega
  exact ⟨e1 a c ▸ (H.ha.take H.hac hp).1, e2 a b c d ▸ (H.hab.take H.had hp).1, e3 a c ▸ (H.ha.take H.hac hp).2, e4 a b c d ▸ (H.hab.take H.had hp).2,
    e1 e g ▸ (H.he.take H.heg hp).1, e2 e f g h ▸ (H.hef.take H.heh hp).1, e3 e g ▸ (H.he.take H.heg hp).2, e4 e f g h ▸ (H.hef.take H.heh hp).2⟩
theorem Cor8.second {k n : Nat} {a b c d e f g h p : Int} (H : Cor8 k a b c d e f g h) (hp : p.natAbs + 2 ≤ 2 ^ n) : Cor8 (k + n) (a * p + b) a (c * p + d) c (e * p + f) e (g * p + h) g := by
  have e1 : ∀ a c : Int, a * p + c = a * (p - 1) + (a + c) := fun a c => by rw [Int.mul_sub, Int.mul_one]; omega
  have e2 : ∀ a b c d : Int, a * p + b + (c * p + d) = (a + c) * (p - 1) + (a + b + c + d) := fun a b c d => by rw [Int.mul_sub, Int.mul_one, Int.add_mul]; omega
  have e3 : ∀ a c : Int, a * p + c + a = a * p + (a + c) := fun a c => by omega
  have e4 : ∀ a b c d : Int, a * p + b + a + (c * p + d) + c = (a + c) * p + (a + b + c + d) := fun a b c d => by rw [Int.add_mul]; omega
  exact ⟨e1 a b ▸ (H.ha.take H.hab hp).1, e3 a b ▸ (H.ha.take H.hab hp).2, e2 a b c d ▸ (H.hac.take H.had hp).1, e4 a b c d ▸ (H.hac.take H.had hp).2,
    e1 e f ▸ (H.he.take H.hef hp).1, e3 e f ▸ (H.he.take H.hef hp).2, e2 e f g h ▸ (H.heg.take H.heh hp).1, e4 e f g h ▸ (H.heg.take H.heh hp).2⟩
theorem Cor8.turn {k : Nat} {a b c d e f g h q : Int} (H : Cor8 k a b c d e f g h) (hs : Sure [(a, e), (a + b, e + f), (a + c, e + g), (a + b + c + d, e + f + g + h)] q) : Cor8 k e f g h (a - q * e) (b - q * f) (c - q * g) (d - q * h) := by
  have e1 := left_abs (hs.each (x := a) (y := e) (by simp))
  have e2 := left_abs (hs.each (x := a + b) (y := e + f) (by simp))
  have e3 := left_abs (hs.each (x := a + c) (y := e + g) (by simp))
  have e4 := left_abs (hs.each (x := a + b + c + d) (y := e + f + g + h) (by simp))
  have m2 : a - q * e + (b - q * f) = a + b - q * (e + f) := by rw [Int.mul_add]; omega
  have m3 : a - q * e + (c - q * g) = a + c - q * (e + g) := by rw [Int.mul_add]; omega
  have m4 : a - q * e + (b - q * f) + (c - q * g) + (d - q * h) = a + b + c + d - q * (e + f + g + h) := by rw [Int.mul_add, Int.mul_add, Int.mul_add]; omega
  exact ⟨H.he, H.hef, H.heg, H.heh, Nat.le_trans e1 H.he, m2 ▸ Nat.le_trans e2 H.hef, m3 ▸ Nat.le_trans e3 H.heg, m4 ▸ Nat.le_trans e4 H.heh⟩
/-! ### the sure part as the laws reckon it -/
theorem lies_of {cs : List (Int × Int)} {m : Int} (hp : ∀ c ∈ cs, 0 < c.2) (hall : ∀ c ∈ cs, m ≤ c.1.fdiv c.2) (h1 : ∀ c ∈ cs, (c.1 - m * c.2).natAbs ≤ c.2.natAbs) (h2 : ∀ c, cs.head? = some c → c.1 ≠ (m + 1) * c.2) : Lies cs m := by
  have key : ∀ c ∈ cs, m * c.2 ≤ c.1 ∧ c.1 ≤ (m + 1) * c.2 := fun c hc => by
    have p := hp c hc
    have b := (fdiv_bounds (a := c.1) p).1
    have a := Int.mul_le_mul_of_nonneg_right (hall c hc) (Int.le_of_lt p)
    have z := h1 c hc
    rw [Int.add_mul, Int.one_mul]
    generalize m * c.2 = y at *
    omega
  refine ⟨fun c hc => ⟨hp c hc, key c hc⟩, fun c hc => ?_⟩
  have hm : c ∈ cs := List.mem_of_mem_head? hc
  have := (key c hm).2
  have := h2 c hc
  omega
theorem lies_is {cs : List (Int × Int)} {m q : Int} (hL : Lies cs q) (hc : cs ≠ []) (hm : ∃ c ∈ cs, c.1.fdiv c.2 = m) (hall : ∀ c ∈ cs, m ≤ c.1.fdiv c.2) : q = m := by
  match cs, hc with
  | c0 :: cr, _ =>
    have h0 := hL.1 c0 List.mem_cons_self
    have e0 : c0.1.fdiv c0.2 = q := fdiv_is h0.1 h0.2.1 (hL.2 c0 rfl)
    have a := hall c0 List.mem_cons_self
    obtain ⟨c, hc, e⟩ := hm
    have h1 := hL.1 c hc
    have b := fdiv_bounds (a := c.1) h1.1
    have : q ≤ c.1.fdiv c.2 := by
      rcases Int.lt_or_le (c.1.fdiv c.2) q with z | z
      · have y : (c.1.fdiv c.2 + 1) * c.2 ≤ q * c.2 := Int.mul_le_mul_of_nonneg_right (by omega) (Int.le_of_lt h1.1)
        have := h1.2.1
        omega
      · exact z
    omega
theorem negs_all {cs : List (Int × Int)} {p : Int × Int → Prop} (h : ∀ c ∈ cs, p (-c.1, -c.2)) : ∀ c ∈ negs cs, p c := fun c hc => by
  obtain ⟨d, hd, rfl⟩ := List.mem_map.mp hc
  exact h d hd
theorem sure_law {cs : List (Int × Int)} {m : Int} (hc : cs ≠ []) (hs : (∀ c ∈ cs, 0 < c.2) ∨ ∀ c ∈ cs, c.2 < 0) (hm : ∃ c ∈ cs, c.1.fdiv c.2 = m) (hall : ∀ c ∈ cs, m ≤ c.1.fdiv c.2) :
    (((∀ c ∈ cs, (c.1 - m * c.2).natAbs ≤ c.2.natAbs) ∧ (∀ c, cs.head? = some c → c.1 ≠ (m + 1) * c.2)) → surePart cs = some m) ∧
    (((∃ c ∈ cs, ¬ (c.1 - m * c.2).natAbs ≤ c.2.natAbs) ∨ (∃ c, cs.head? = some c ∧ c.1 = (m + 1) * c.2)) → surePart cs = none) := by
  have hn : negs cs ≠ [] := by cases cs with
    | nil => exact absurd rfl hc
    | cons c r => intro z; cases z
  have nm : ∃ c ∈ negs cs, c.1.fdiv c.2 = m := by
    obtain ⟨c, h, e⟩ := hm
    exact ⟨(-c.1, -c.2), List.mem_map.mpr ⟨c, h, rfl⟩, by rw [fdiv_negs]; exact e⟩
  have nall : ∀ c ∈ negs cs, m ≤ c.1.fdiv c.2 := negs_all fun c h => by rw [fdiv_negs]; exact hall c h
  refine ⟨fun ⟨h1, h2⟩ => ?_, fun h => (sure_none hc).mpr fun q hq => ?_⟩
  · refine (sure_iff hc).mpr ?_
    rcases hs with hs | hs
    · exact .inl (lies_of hs hall h1 h2)
    · refine .inr (lies_of (negs_all fun c h => by have := hs c h; omega) nall (negs_all fun c h => ?_) fun c h => ?_)
      · have := h1 c h
        show (-c.1 - m * -c.2).natAbs ≤ (-c.2).natAbs
        rw [Int.mul_neg]
        generalize m * c.2 = y at *
        omega
      · unfold negs at h
        rw [List.head?_map] at h
        obtain ⟨d, hd, rfl⟩ := Option.map_eq_some_iff.mp h
        have := h2 d hd
        show -d.1 ≠ (m + 1) * -d.2
        rw [Int.mul_neg]
        omega
  · rcases hq with hL | hL
    · have e := lies_is hL hc hm hall
      subst e
      rcases h with ⟨c, h, z⟩ | ⟨c, h, z⟩
      · exact z (left_abs (.inl (hL.1 c h)))
      · have := hL.2 c h
        omega
    · have e := lies_is hL hn nm nall
      subst e
      rcases h with ⟨c, h, z⟩ | ⟨c, h, z⟩
      · exact z (left_abs (.inr (hL.1 (-c.1, -c.2) (List.mem_map.mpr ⟨c, h, rfl⟩))))
      · have := hL.2 (-c.1, -c.2) (by unfold negs; rw [List.head?_map, h]; rfl)
        dsimp only at this
        rw [Int.mul_neg] at this
        omega
theorem sure_mixed {cs : List (Int × Int)} (hc : cs ≠ []) (h1 : ∃ c ∈ cs, c.2 ≤ 0) (h2 : ∃ c ∈ cs, 0 ≤ c.2) : surePart cs = none := by
  refine (sure_none hc).mpr fun q hq => ?_
  obtain ⟨c, hc1, z1⟩ := h1
  obtain ⟨d, hd1, z2⟩ := h2
  rcases hq with h | h
  · have := (h.1 c hc1).1
    omega
  · have := (h.1 (-d.1, -d.2) (List.mem_map.mpr ⟨d, hd1, rfl⟩)).1
    dsimp only at this
    omega
/-! ### telling on and on ends -/
/-- a measure of what is left of the first corner -/
def leftM (a e : Int) : Nat := if (0 < e ∧ e ≤ a) ∨ (e < 0 ∧ a ≤ e) then a.natAbs + e.natAbs else 2 * e.natAbs + a.natAbs + 1
theorem leftM_tell {a e q : Int} (h : (0 < e ∧ q * e ≤ a ∧ a < (q + 1) * e) ∨ (0 < -e ∧ q * -e ≤ -a ∧ -a < (q + 1) * -e)) {q2 : Int} (h2 : (0 < a - q * e ∧ q2 * (a - q * e) ≤ e) ∨ (0 < -(a - q * e) ∧ q2 * -(a - q * e) ≤ -e)) : leftM e (a - q * e) < leftM a e := by
  have hr : (0 < e ∧ 0 ≤ a - q * e ∧ a - q * e < e) ∨ (e < 0 ∧ a - q * e ≤ 0 ∧ e < a - q * e) := by
    rcases h with ⟨p, h1, h2⟩ | ⟨p, h1, h2⟩
    · rw [Int.add_mul, Int.one_mul] at h2
      exact .inl ⟨p, by omega, by omega⟩
    · rw [Int.mul_neg] at h1 h2
      rw [Int.add_mul, Int.one_mul] at h2
      exact .inr ⟨by omega, by omega, by omega⟩
  have hnz : a - q * e ≠ 0 := by rcases h2 with h2 | h2 <;> omega
  have e1 : leftM e (a - q * e) = e.natAbs + (a - q * e).natAbs := by
    unfold leftM
    rw [if_pos (by omega)]
  rw [e1]
  unfold leftM
  split
  · rename_i hc
    have hq : 1 ≤ q := by
      rcases Int.lt_or_le q 1 with z | z
      · exfalso
        rcases h with ⟨p, h1, h2⟩ | ⟨p, h1, h2⟩
        · have y : (q + 1) * e ≤ 1 * e := Int.mul_le_mul_of_nonneg_right (by omega) (Int.le_of_lt p)
          omega
        · have y : (q + 1) * -e ≤ 1 * -e := Int.mul_le_mul_of_nonneg_right (by omega) (Int.le_of_lt p)
          omega
      · exact z
    have y : ∀ {x : Int}, 0 < x → x ≤ q * x := fun {x} hx => by
      have := Int.mul_le_mul_of_nonneg_right hq (Int.le_of_lt hx)
      omega
    rcases h with ⟨p, h1, h2⟩ | ⟨p, h1, h2⟩
    · have := y p
      generalize q * e = z at *
      omega
    · have := y p
      rw [Int.mul_neg] at this h1
      generalize q * e = z at *
      omega
  · generalize q * e = z at *
    omega
/-! ### // of great numbers within a comprehension -/
theorem op_fdivMB {X : Cx} {k : Nat} {e0 : Env} {l : List Env} (hS : ∀ b : Heap, Mod X.K X.mg b → b.NoSeer) (hT : X.prog.given.tree = none) (hr : Room k X.A) (hk : 34 ≤ k) (hst : X.stack = e0 :: l) (hg : e0.scope.isGenerator = false) (hc : e0.scope.isCoroutine = false) (hb : e0.builtins = builtinsNs) (hgl : e0.globals = mainGlobals) :
    OpR X (binaryOp .FloorDiv) (rI CDivM fun i j => .int (i.fdiv j)) := by
  intro pins s σ H x y v u Q I rx ry h
  obtain ⟨i, j, rfl, rfl, hj, q⟩ := h
  obtain ⟨t, rfl⟩ := rx
  obtain ⟨t', rfl⟩ := ry
  refine PyProof.Rows.floordiv_int hj ⟨.int (i.fdiv j), H, I.tok _, ⟨_, rfl⟩, q⟩ (.inr (PylongRoom.of I.nolimit (room_py hr hk) ?_))
  exact SeerAt.of ((hS _ I.mod).keeps I.bk) hT (I.ok.frames.trans (congrArg some hst)) hg hc hb hgl
/-! ### the law's own way: its small defs -/
section
variable {P : Program} [NoTree P] {w : World} {K : PySem.W.Frag} {mg : Str → Option Value} {base : Heap} {A : Ad}
def sp_law_corners (K : PySem.W.Frag) : Sp := fun vs H Q _ => ∃ (p : Addr) (ns : List Int), vs = [.ref p] ∧ SqT K H p (ns.map V.int) ∧ (ns.length = 4 ∨ ns.length = 8) ∧
  ∀ l H', CornersAt K H' l (cornersOf ns) → Same H H' → Q (.ref l) H'
theorem ok_law_corners (T : CT K mg A) (D : DT K mg A) : COk P w K mg base CX0 1 "_law_corners" ["_law_numbers_here"] (sp_law_corners K) := by
  refine COk.by D.law_corners fun f fd F => ?_
  refine F.ok sc_law_corners (fun vs H Q E h => ?_) (fun cdv Ar outer s H vs Q E hr h => ?_)
  · obtain ⟨p, ns, rfl, _⟩ := h
    rfl
  · obtain ⟨p, ns, rfl, hp, hl, k⟩ := h
    refine ⟨_, (pss_cons (ps_if (pt_cmpR op_eq (pe_callB call_len_seq (by rfl) T.b_len (by decide +kernel) (pa_cons (pv 0) pa_nil)) pe_int (nomark _))
      (pss_cons (ps_asg (pv 0) (pg_tup rfl (pgs_cons (pg_name (i := 1) sc_law_corners.nd rfl (Or.inl rfl)) (pgs_cons (pg_name (i := 2) sc_law_corners.nd rfl (Or.inl rfl)) (pgs_cons (pg_name (i := 3) sc_law_corners.nd rfl (Or.inl rfl)) (pgs_cons (pg_name (i := 4) sc_law_corners.nd rfl (Or.inl rfl)) pgs_nil))))))
    (pss_one (ps_ret (pe_lst (pa_cons (pe_tup (pa_cons (pv 1) (pa_cons (pv 3) pa_nil))) (pa_cons (pe_tup (pa_cons (pe_op op_add (pv 1) (pv 2)) (pa_cons (pe_op op_add (pv 3) (pv 4)) pa_nil))) pa_nil)))))) pss_nil)
    (pss_cons (ps_asg (pv 0) (pg_tup rfl (pgs_cons (pg_name (i := 1) sc_law_corners.nd rfl (Or.inl rfl)) (pgs_cons (pg_name (i := 2) sc_law_corners.nd rfl (Or.inl rfl)) (pgs_cons (pg_name (i := 3) sc_law_corners.nd rfl (Or.inl rfl)) (pgs_cons (pg_name (i := 4) sc_law_corners.nd rfl (Or.inl rfl)) (pgs_cons (pg_name (i := 5) sc_law_corners.nd rfl (Or.inl rfl)) (pgs_cons (pg_name (i := 6) sc_law_corners.nd rfl (Or.inl rfl)) (pgs_cons (pg_name (i := 7) sc_law_corners.nd rfl (Or.inl rfl)) (pgs_cons (pg_name (i := 8) sc_law_corners.nd rfl (Or.inl rfl)) pgs_nil))))))))))
    (pss_one (ps_ret (pe_lst (pa_cons (pe_tup (pa_cons (pv 1) (pa_cons (pv 5) pa_nil))) (pa_cons (pe_tup (pa_cons (pe_op op_add (pv 1) (pv 2)) (pa_cons (pe_op op_add (pv 5) (pv 6)) pa_nil))) (pa_cons (pe_tup (pa_cons (pe_op op_add (pv 1) (pv 3)) (pa_cons (pe_op op_add (pv 5) (pv 7)) pa_nil))) (pa_cons (pe_tup (pa_cons (pe_op op_add (pe_op op_add (pe_op op_add (pv 1) (pv 2)) (pv 3)) (pv 4)) (pa_cons (pe_op op_add (pe_op op_add (pe_op op_add (pv 5) (pv 6)) (pv 7)) (pv 8)) pa_nil))) pa_nil))))))))), ?_⟩
    rcases hl with hl | hl
    · match ns, hl with
      | [a, b, c, d], _ =>
      refine ⟨_, rfl, p, _, rfl, .inr hp, rfl, _, rfl, iteT ?_⟩
      refine ⟨_, rfl, p, _, rfl, hp, rfl, _, _, rfl, _, _, rfl, _, _, rfl, _, _, rfl, rfl, ?_⟩
      refine ⟨_, rfl, _, rfl, (by show 2 ≤ sizeLine; decide), fun q nq => ?_⟩
      have s1 := same_upd (o := .tup [V.int a, .int c]) nq
      refine ⟨_, rfl, _, rfl, _, _, rfl, rfl, _, rfl, _, rfl, _, _, rfl, rfl, (by show 2 ≤ sizeLine; decide), fun r nr => ?_⟩
      have s2 := same_upd (o := .tup [V.int (a + b), .int (c + d)]) nr
      refine ⟨(by show 2 ≤ sizeLine; decide), fun l nl => ?_⟩
      have s3 := same_upd (o := .lst [V.ref q, .ref r]) nl
      exact k l _ ⟨[q, r], SqL.of upd_same, sqT_same (SqT.of upd_same) (s2.trans s3), sqT_same (SqT.of upd_same) s3, trivial⟩ ((s1.trans s2).trans s3)
    · match ns, hl with
      | [a, b, c, d, e, f, g, h], _ =>
      refine ⟨_, rfl, p, _, rfl, .inr hp, rfl, _, rfl, iteF ?_⟩
      refine ⟨_, rfl, p, _, rfl, hp, rfl, _, _, rfl, _, _, rfl, _, _, rfl, _, _, rfl, _, _, rfl, _, _, rfl, _, _, rfl, _, _, rfl, rfl, ?_⟩
      refine ⟨_, rfl, _, rfl, (by show 2 ≤ sizeLine; decide), fun q nq => ?_⟩
      have s1 := same_upd (o := .tup [V.int a, .int e]) nq
      refine ⟨_, rfl, _, rfl, _, _, rfl, rfl, _, rfl, _, rfl, _, _, rfl, rfl, (by show 2 ≤ sizeLine; decide), fun r nr => ?_⟩
      have s2 := same_upd (o := .tup [V.int (a + b), .int (e + f)]) nr
      refine ⟨_, rfl, _, rfl, _, _, rfl, rfl, _, rfl, _, rfl, _, _, rfl, rfl, (by show 2 ≤ sizeLine; decide), fun t nt => ?_⟩
      have s3 := same_upd (o := .tup [V.int (a + c), .int (e + g)]) nt
      refine ⟨_, rfl, _, rfl, _, _, rfl, rfl, _, rfl, _, _, rfl, rfl, _, rfl, _, _, rfl, rfl, _, rfl, _, rfl, _, _, rfl, rfl, _, rfl, _, _, rfl, rfl, _, rfl, _, _, rfl, rfl, (by show 2 ≤ sizeLine; decide), fun u nu => ?_⟩
      have s4 := same_upd (o := .tup [V.int (a + b + c + d), .int (e + f + g + h)]) nu
      refine ⟨(by show 4 ≤ sizeLine; decide), fun l nl => ?_⟩
      have s5 := same_upd (o := .lst [V.ref q, .ref r, .ref t, .ref u]) nl
      exact k l _ ⟨[q, r, t, u], SqL.of upd_same, sqT_same (SqT.of upd_same) (((s2.trans s3).trans s4).trans s5), sqT_same (SqT.of upd_same) ((s3.trans s4).trans s5), sqT_same (SqT.of upd_same) (s4.trans s5), sqT_same (SqT.of upd_same) s5, trivial⟩ ((((s1.trans s2).trans s3).trans s4).trans s5)
def sp_law_moved (K : PySem.W.Frag) : Sp := fun vs H Q _ => ∃ (p : Addr) (ns : List Int) (which : Nat) (q : Int), vs = [.ref p, .int which, .int q] ∧ SqT K H p (ns.map V.int) ∧ (ns.length = 4 ∨ ns.length = 8) ∧ (∀ z ∈ ns, fits z) ∧ fits q ∧
  ∀ r H', SqT K H' r ((movedBy ns which q).map V.int) → Same H H' → Q (.ref r) H'
theorem ok_law_moved (T : CT K mg A) (D : DT K mg A) : COk P w K mg base CX0 1 "_law_moved" ["_law_numbers_here", "_law_which", "_law_part"] (sp_law_moved K) := by
  refine COk.by D.law_moved fun f fd F => ?_
  refine F.ok sc_law_moved (fun vs H Q E h => ?_) (fun cdv Ar outer s H vs Q E hr h => ?_)
  · obtain ⟨p, ns, which, q, rfl, _⟩ := h
    rfl
  · obtain ⟨p, ns, which, q, rfl, hp, hl, hf, hq, k⟩ := h
    refine ⟨_, (pss_cons (ps_if (pt_cmpR op_eq (pe_callB call_len_seq (by rfl) T.b_len (by decide +kernel) (pa_cons (pv 0) pa_nil)) pe_int (nomark _))
      (pss_cons (ps_asg (pv 0) (pg_tup rfl (pgs_cons (pg_name (i := 3) sc_law_moved.nd rfl (Or.inl rfl)) (pgs_cons (pg_name (i := 4) sc_law_moved.nd rfl (Or.inl rfl)) (pgs_cons (pg_name (i := 5) sc_law_moved.nd rfl (Or.inl rfl)) (pgs_cons (pg_name (i := 6) sc_law_moved.nd rfl (Or.inl rfl)) pgs_nil))))))
    (pss_one (ps_ret (pe_tup (pa_cons (pe_op op_add (pe_op op_mulW (pv 2) (pv 3)) (pv 4)) (pa_cons (pv 3) (pa_cons (pe_op op_add (pe_op op_mulW (pv 2) (pv 5)) (pv 6)) (pa_cons (pv 5) pa_nil)))))))) pss_nil)
    (pss_cons (ps_asg (pv 0) (pg_tup rfl (pgs_cons (pg_name (i := 3) sc_law_moved.nd rfl (Or.inl rfl)) (pgs_cons (pg_name (i := 4) sc_law_moved.nd rfl (Or.inl rfl)) (pgs_cons (pg_name (i := 5) sc_law_moved.nd rfl (Or.inl rfl)) (pgs_cons (pg_name (i := 6) sc_law_moved.nd rfl (Or.inl rfl)) (pgs_cons (pg_name (i := 7) sc_law_moved.nd rfl (Or.inl rfl)) (pgs_cons (pg_name (i := 8) sc_law_moved.nd rfl (Or.inl rfl)) (pgs_cons (pg_name (i := 9) sc_law_moved.nd rfl (Or.inl rfl)) (pgs_cons (pg_name (i := 10) sc_law_moved.nd rfl (Or.inl rfl)) pgs_nil))))))))))
    (pss_cons (ps_if (pt_cmpR op_eq (pv 1) pe_int (nomark _))
      (pss_one (ps_ret (pe_tup (pa_cons (pe_op op_add (pe_op op_mulW (pv 2) (pv 3)) (pv 5)) (pa_cons (pe_op op_add (pe_op op_mulW (pv 2) (pv 4)) (pv 6)) (pa_cons (pv 3) (pa_cons (pv 4) (pa_cons (pe_op op_add (pe_op op_mulW (pv 2) (pv 7)) (pv 9)) (pa_cons (pe_op op_add (pe_op op_mulW (pv 2) (pv 8)) (pv 10)) (pa_cons (pv 7) (pa_cons (pv 8) pa_nil))))))))))) pss_nil)
    (pss_one (ps_ret (pe_tup (pa_cons (pe_op op_add (pe_op op_mulW (pv 2) (pv 3)) (pv 4)) (pa_cons (pv 3) (pa_cons (pe_op op_add (pe_op op_mulW (pv 2) (pv 5)) (pv 6)) (pa_cons (pv 5) (pa_cons (pe_op op_add (pe_op op_mulW (pv 2) (pv 7)) (pv 8)) (pa_cons (pv 7) (pa_cons (pe_op op_add (pe_op op_mulW (pv 2) (pv 9)) (pv 10)) (pa_cons (pv 9) pa_nil)))))))))))))), ?_⟩
    have cm : ∀ x y : Int, q * x + y = x * q + y := fun x y => by rw [Int.mul_comm]
    rcases hl with hl | hl
    · match ns, hl with
      | [a, b, c, d], _ =>
      have m : ∀ z, z ∈ [a, b, c, d] → CMulW q z := fun z hz => fits_mul hq (hf z hz)
      refine ⟨_, rfl, p, _, rfl, .inr hp, rfl, _, rfl, iteT ?_⟩
      refine ⟨_, rfl, p, _, rfl, hp, rfl, _, _, rfl, _, _, rfl, _, _, rfl, _, _, rfl, rfl, ?_⟩
      refine ⟨_, rfl, _, rfl, _, _, rfl, rfl, m a (by simp), _, rfl, _, _, rfl, rfl, _, rfl, _, rfl, _, rfl, _, _, rfl, rfl, m c (by simp), _, rfl, _, _, rfl, rfl, _, rfl, (by show 4 ≤ sizeLine; decide), fun r nr => ?_⟩
      refine k r _ ?_ (same_upd nr)
      show SqT K _ r [V.int (a * q + b), .int a, .int (c * q + d), .int c]
      rw [← cm, ← cm]
      exact SqT.of upd_same
    · match ns, hl with
      | [a, b, c, d, e, f, g, h], _ =>
      have m : ∀ z, z ∈ [a, b, c, d, e, f, g, h] → CMulW q z := fun z hz => fits_mul hq (hf z hz)
      refine ⟨_, rfl, p, _, rfl, .inr hp, rfl, _, rfl, iteF ?_⟩
      refine ⟨_, rfl, p, _, rfl, hp, rfl, _, _, rfl, _, _, rfl, _, _, rfl, _, _, rfl, _, _, rfl, _, _, rfl, _, _, rfl, _, _, rfl, rfl, ?_⟩
      refine ⟨_, rfl, rfl, _, rfl, ite2 (fun z => ?_) (fun z => ?_)⟩
      · have hw : which = 0 := by have := V.int.inj (of_decide_eq_true z); omega
        subst hw
        refine ⟨_, rfl, _, rfl, _, _, rfl, rfl, m a (by simp), _, rfl, _, _, rfl, rfl, _, rfl, _, rfl, _, _, rfl, rfl, m b (by simp), _, rfl, _, _, rfl, rfl, _, rfl, _, rfl, _, rfl, _, rfl, _, _, rfl, rfl, m e (by simp), _, rfl, _, _, rfl, rfl, _, rfl, _, rfl, _, _, rfl, rfl, m f (by simp), _, rfl, _, _, rfl, rfl, _, rfl, _, rfl, (by show 8 ≤ sizeLine; decide), fun r nr => ?_⟩
        refine k r _ ?_ (same_upd nr)
        show SqT K _ r [V.int (a * q + c), .int (b * q + d), .int a, .int b, .int (e * q + g), .int (f * q + h), .int e, .int f]
        rw [← cm, ← cm, ← cm, ← cm]
        exact SqT.of upd_same
      · have hw : which ≠ 0 := fun y => z (decide_eq_true (congrArg V.int (by omega)))
        refine ⟨_, rfl, _, rfl, _, _, rfl, rfl, m a (by simp), _, rfl, _, _, rfl, rfl, _, rfl, _, rfl, _, rfl, _, _, rfl, rfl, m c (by simp), _, rfl, _, _, rfl, rfl, _, rfl, _, rfl, _, rfl, _, _, rfl, rfl, m e (by simp), _, rfl, _, _, rfl, rfl, _, rfl, _, rfl, _, rfl, _, _, rfl, rfl, m g (by simp), _, rfl, _, _, rfl, rfl, _, rfl, (by show 8 ≤ sizeLine; decide), fun r nr => ?_⟩
        refine k r _ ?_ (same_upd nr)
        rw [moved_second rfl hw]
        show SqT K _ r [V.int (a * q + b), .int a, .int (c * q + d), .int c, .int (e * q + f), .int e, .int (g * q + h), .int g]
        rw [← cm, ← cm, ← cm, ← cm]
        exact SqT.of upd_same
def sp_law_sure (K : PySem.W.Frag) : Sp := fun vs H Q _ => ∃ (l : Addr) (cs : List (Int × Int)), vs = [.ref l] ∧ CornersAt K H l cs ∧ 0 < cs.length ∧ cs.length ≤ 4 ∧ (∀ c ∈ cs, fits c.1 ∧ fits c.2) ∧
  ∀ H', Same H H' → Q (optV (surePart cs)) H'
theorem ok_law_sure (T : CT K mg A) (D : DT K mg A) : COk P w K mg base CX0 35 "_law_sure" ["_law_corners_here"] (sp_law_sure K) := by
  refine COk.by D.law_sure fun f fd F => ?_
  refine F.ok (k := 34) sc_law_sure (fun vs H Q E h => ?_) (fun cdv Ar outer s H vs Q E hr h => ?_)
  · obtain ⟨l, cs, rfl, _⟩ := h
    rfl
  · obtain ⟨l, cs, rfl, ⟨ts, hl, hts⟩, h0, h4, hcf, k⟩ := h
    refine ⟨_, (pss_cons (ps_setLc (i := 1) (own := [("_law_top", 2), ("_law_below_here", 3)]) (g := gTup K 2 (gCons (gName 2) (gCons (gName 3) gNil))) (tt := tYes) rfl sc_law_sure.nd rfl rfl (sw_true rfl rfl rfl (by decide +kernel)) (pi_list (pv 0)) (blkOk_by (own := [("_law_top", 2), ("_law_below_here", 3)]) (N := ["_law_corners_here", "_law_unders", "_law_top", "_law_below_here", "_law_part"]) (sc := defScope s_law_sure) (by decide +kernel)) (fun _ _ _ _ _ => (pg_tup rfl (pgs_cons (pg_name (i := 2) sc_law_sure.nd rfl (Or.inl rfl)) (pgs_cons (pg_name (i := 3) sc_law_sure.nd rfl (Or.inl rfl)) pgs_nil)))) (fun _ _ _ _ _ => pts_nil) (fun _ _ _ _ _ => (pv 3)))
    (C8.pss_cut (ps_if (PW.pt (pw_and (pt_cmpR op_le (pe_callB (cr_min rfl) (by rfl) T.b_min (by decide +kernel) (pa_cons (pv 1) pa_nil)) pe_int (nomark _)) (pw_and1 (pt_cmpR op_ge (pe_callB (cr_max rfl) (by rfl) T.b_max (by decide +kernel) (pa_cons (pv 1) pa_nil)) pe_int (nomark _)))))
      (pss_one (ps_ret pe_non)) pss_nil)
    (pss_cons (ps_set (i := 4) sc_law_sure.nd rfl (Or.inl rfl) (pe_callB (cr_min rfl) (by rfl) T.b_min (by decide +kernel) (pa_cons (pe_lc (own := [("_law_top", 2), ("_law_below_here", 3)]) (g := gTup K 2 (gCons (gName 2) (gCons (gName 3) gNil))) (tt := tYes) rfl sc_law_sure.nd (pi_list (pv 0)) (blkOk_by (own := [("_law_top", 2), ("_law_below_here", 3)]) (N := ["_law_corners_here", "_law_unders", "_law_top", "_law_below_here", "_law_part"]) (sc := defScope s_law_sure) (by decide +kernel)) (fun _ _ _ _ _ => (pg_tup rfl (pgs_cons (pg_name (i := 2) sc_law_sure.nd rfl (Or.inl rfl)) (pgs_cons (pg_name (i := 3) sc_law_sure.nd rfl (Or.inl rfl)) pgs_nil)))) (fun _ _ _ _ _ => pts_nil) (fun _ _ _ _ _ => (pe_op (op_fdivMB T.seer (NoTree.tree (P := P)) hr (by first | decide | omega) rfl rfl rfl rfl rfl) (pv 2) (pv 3)))) pa_nil)))
    (pss_cons (ps_for PassesOwn.never rfl (pi_list (pv 0)) (pg_tup rfl (pgs_cons (pg_name (i := 2) sc_law_sure.nd rfl (Or.inl rfl)) (pgs_cons (pg_name (i := 3) sc_law_sure.nd rfl (Or.inl rfl)) pgs_nil)))
      (pss_one (ps_if (pt_cmpR op_gt (pe_callB call_abs (by rfl) T.b_abs (by decide +kernel) (pa_cons (pe_op op_sub (pv 2) (pe_op op_mulW (pv 4) (pv 3))) pa_nil)) (pe_callB call_abs (by rfl) T.b_abs (by decide +kernel) (pa_cons (pv 3) pa_nil)) (nomark _))
      (pss_one (ps_ret pe_non)) pss_nil)))
    (pss_cons (ps_if (pt_cmpR op_eq (pe_ix ix_tup (pe_ix ix_list (pv 0) pe_int (fun _ _ => rfl)) pe_int (fun _ _ => rfl)) (pe_op op_mulW (pe_op op_add (pv 4) pe_int) (pe_ix ix_tup (pe_ix ix_list (pv 0) pe_int (fun _ _ => rfl)) pe_int (fun _ _ => rfl))) (nomark _))
      (pss_one (ps_ret pe_non)) pss_nil)
    (pss_one (ps_ret (pv 4)))))))), ?_⟩
    have hnc : cs ≠ [] := List.length_pos_iff.mp h0
    have full : ∀ {α : Type} (f : Int × Int → α), (cs.take (ts.map V.ref).length).map f = cs.map f := fun f => by rw [List.length_map, hts.len, List.take_of_length_le (Nat.le_refl _)]
    -- the numbers below
    refine ⟨_, rfl, l, rfl, ⟨_, hl⟩, fun D0 nD => lc_list (K := K) (a := l) (xs := ts.map V.ref) (fun i H' => Same H H' ∧ H' D0 = some (.lst (((cs.take i).map fun d => d.2).map V.int)))
      ⟨same_upd nD, upd_same⟩ (fun i H' _ z => sqL_same hl z.1) ?_ ?_⟩
    · rintro i x H' hx ⟨s2, hD⟩
      obtain ⟨t, d, rfl, ed, htd⟩ := hts.at_ hx
      have hi : i < 4 := by
        have := (List.getElem?_eq_some_iff.mp ed).1
        omega
      refine ⟨t, _, rfl, sqT_same htd s2, rfl, _, _, rfl, _, _, rfl, rfl, rfl, ?_⟩
      refine ⟨_, rfl, _, hD, ?_, ?_, ?_⟩
      · rw [List.length_map, List.length_map, List.length_take]
        exact Nat.lt_of_le_of_lt (Nat.min_le_left _ _) (Nat.lt_of_lt_of_le hi (by decide))
      · intro b o z
        rw [upd_ne (ne_of_none z nD)]
        exact s2 _ _ z
      · rw [upd_same, List.take_add_one, ed]
        simp
    rintro H1 ⟨s1, hD1⟩
    rw [full] at hD1
    have hl1 := sqL_same hl s1
    have len1 : 0 < ((cs.map fun d => d.2)).length := by rw [List.length_map]; exact h0
    refine ⟨fun σ H' => H1 = H' ∧ σ = [some (.ref l), some (.ref D0), none, none, none] ∧ ((∀ q ∈ cs, 0 < q.2) ∨ ∀ q ∈ cs, q.2 < 0), ?_, ?_⟩
    · refine ⟨_, rfl, D0, _, rfl, SqL.of hD1, len1, fun m hm hle => ⟨_, _, rfl, rfl, _, rfl, ite2 (fun z => ?_) (fun z => ?_)⟩⟩
      · have z' : m ≤ 0 := of_decide_eq_true z
        refine ⟨_, rfl, D0, _, rfl, SqL.of hD1, len1, fun m2 hm2 hle2 => ⟨_, _, rfl, rfl, _, rfl, ite2 (fun y => ?_) (fun y => ?_)⟩⟩
        · have y' : 0 ≤ m2 := of_decide_eq_true y
          obtain ⟨d1, h1, e1⟩ := List.mem_map.mp hm
          obtain ⟨d2, h2, e2⟩ := List.mem_map.mp hm2
          have kk := k H1 s1
          rw [sure_mixed hnc ⟨_, h1, by omega⟩ ⟨_, h2, by omega⟩] at kk
          exact kk
        · have y' : ¬ 0 ≤ m2 := fun x => y (decide_eq_true x)
          exact ⟨rfl, rfl, .inr fun q hq => by have := hle2 q.2 (List.mem_map.mpr ⟨q, hq, rfl⟩); omega⟩
      · have z' : ¬ m ≤ 0 := fun x => z (decide_eq_true x)
        exact iteF ⟨rfl, rfl, .inl fun q hq => by have := hle q.2 (List.mem_map.mpr ⟨q, hq, rfl⟩); omega⟩
    rintro σ H' ⟨rfl, rfl, hsg⟩
    have nz : ∀ q ∈ cs, q.2 ≠ 0 := fun q hq => by
      rcases hsg with z | z
      · have := z q hq; omega
      · have := z q hq; omega
    -- the least of the parts
    refine ⟨_, rfl, l, rfl, ⟨_, hl1⟩, fun D1 nD1 => lc_list (K := K) (a := l) (xs := ts.map V.ref) (fun i H' => Same H1 H' ∧ H' D1 = some (.lst (((cs.take i).map fun d => d.1.fdiv d.2).map V.int)))
      ⟨same_upd nD1, upd_same⟩ (fun i H' _ z => sqL_same hl1 z.1) ?_ ?_⟩
    · rintro i x H' hx ⟨s2, hD⟩
      obtain ⟨t, d, rfl, ed, htd⟩ := hts.at_ hx
      have hi : i < 4 := by
        have := (List.getElem?_eq_some_iff.mp ed).1
        omega
      have hm : d ∈ cs := List.mem_of_getElem? ed
      refine ⟨t, _, rfl, sqT_same htd (s1.trans s2), rfl, _, _, rfl, _, _, rfl, rfl, rfl, ?_⟩
      refine ⟨_, rfl, _, rfl, _, _, rfl, rfl, nz _ hm, _, hD, ?_, ?_, ?_⟩
      · rw [List.length_map, List.length_map, List.length_take]
        exact Nat.lt_of_le_of_lt (Nat.min_le_left _ _) (Nat.lt_of_lt_of_le hi (by decide))
      · intro b o z
        rw [upd_ne (ne_of_none z nD1)]
        exact s2 _ _ z
      · rw [upd_same, List.take_add_one, ed]
        simp
    rintro H3 ⟨s3, hD3⟩
    rw [full] at hD3
    have hl3 := sqL_same hl1 s3
    refine ⟨D1, _, rfl, SqL.of hD3, (by rw [List.length_map]; exact h0), fun m hm hle => ?_⟩
    obtain ⟨c1, hc1, em⟩ := List.mem_map.mp hm
    have hall : ∀ q ∈ cs, m ≤ q.1.fdiv q.2 := fun q hq => hle _ (List.mem_map.mpr ⟨q, hq, rfl⟩)
    obtain ⟨yes, no⟩ := sure_law hnc hsg ⟨c1, hc1, em⟩ hall
    have fm : fits m := by
      rw [← em]
      exact Nat.lt_of_le_of_lt (fdiv_abs (nz c1 hc1)) (hcf c1 hc1).1
    have abs_ : ∀ z : Int, (if z < 0 then -z else z) = (z.natAbs : Int) := fun z => by split <;> omega
    refine ⟨_, rfl, l, rfl, ⟨_, hl3⟩, for_list (K := K) (a := l) (xs := ts.map V.ref) (fun i σ H' => ∃ v2 v3 : Option V, σ = [some (.ref l), some (.ref D0), v2, v3, some (.int m)] ∧ H' = H3 ∧ ∀ j, j < i → ∀ q, cs[j]? = some q → (q.1 - m * q.2).natAbs ≤ q.2.natAbs)
      ⟨none, none, rfl, rfl, fun j z => absurd z (Nat.not_lt_zero _)⟩ (fun i σ H' _ ⟨_, _, _, e, _⟩ => by rw [e]; exact hl3) ?_ ?_⟩
    · rintro i x σ H' hx ⟨v2, v3, rfl, rfl, hdone⟩
      obtain ⟨t, d, rfl, ed, htd⟩ := hts.at_ hx
      have hm2 : d ∈ cs := List.mem_of_getElem? ed
      refine ⟨t, _, rfl, sqT_same htd (s1.trans s3), rfl, _, _, rfl, _, _, rfl, rfl, ?_⟩
      refine ⟨_, rfl, _, rfl, _, rfl, _, _, rfl, rfl, fits_mul fm (hcf _ hm2).2, _, _, rfl, rfl, _, rfl, _, rfl, _, rfl, _, _, rfl, rfl, _, rfl, ?_⟩
      rw [abs_, abs_]
      refine ite2 (fun z => ?_) (fun z => ?_)
      · have z' : (d.2.natAbs : Int) < ((d.1 - m * d.2).natAbs : Int) := of_decide_eq_true z
        have := no (.inl ⟨_, hm2, by omega⟩)
        have kk3 := k _ (s1.trans s3)
        rw [this] at kk3
        exact kk3
      · have z' : ¬ (d.2.natAbs : Int) < ((d.1 - m * d.2).natAbs : Int) := fun q => z (decide_eq_true q)
        refine ⟨_, _, rfl, rfl, fun j hj q hq => ?_⟩
        rcases Nat.lt_or_ge j i with y | y
        · exact hdone j y q hq
        · have : j = i := by omega
          subst this
          rw [ed] at hq
          cases hq
          omega
    · rintro σ H4 ⟨v2, v3, rfl, rfl, hdone⟩
      have h1 : ∀ q ∈ cs, (q.1 - m * q.2).natAbs ≤ q.2.natAbs := fun q hq => by
        obtain ⟨j, hj⟩ := List.mem_iff_getElem?.mp hq
        refine hdone j ?_ q hj
        rw [List.length_map, hts.len]
        exact (List.getElem?_eq_some_iff.mp hj).1
      obtain ⟨x0, hx0⟩ : ∃ x, (ts.map V.ref)[0]? = some x := ⟨_, List.getElem?_eq_getElem (by rw [List.length_map, hts.len]; exact h0)⟩
      obtain ⟨t0, c0, rfl, ec, ht0'⟩ := hts.at_ hx0
      have hm0 : c0 ∈ cs := List.mem_of_getElem? ec
      have hhd : cs.head? = some c0 := by rw [List.head?_eq_getElem?]; exact ec
      have ht0 := sqT_same ht0' (s1.trans s3)
      have fm1 : CMulW (m + 1) c0.2 := fits_mul1 fm (hcf _ hm0).2
      refine ⟨_, rfl, l, _, 0, _, rfl, rfl, hl3, atI_nat (j := 0) hx0, t0, _, 0, _, rfl, rfl, ht0, atI_nat (j := 0) rfl, ?_⟩
      refine ⟨_, rfl, _, _, rfl, rfl, _, rfl, l, _, 0, _, rfl, rfl, hl3, atI_nat (j := 0) hx0, t0, _, 1, _, rfl, rfl, ht0, atI_nat (j := 1) rfl, _, _, rfl, rfl, fm1, rfl, _, rfl, ite2 (fun z => ?_) (fun z => ?_)⟩
      · have z' : c0.1 = (m + 1) * c0.2 := V.int.inj (of_decide_eq_true z)
        have := no (.inr ⟨c0, hhd, z'⟩)
        have kk3 := k _ (s1.trans s3)
        rw [this] at kk3
        exact kk3
      · have z' : ¬ c0.1 = (m + 1) * c0.2 := fun q => z (decide_eq_true (congrArg V.int q))
        have := yes ⟨h1, fun q hq => by rw [hhd] at hq; cases hq; exact z'⟩
        have kk3 := k _ (s1.trans s3)
        rw [this] at kk3
        exact ⟨_, rfl, kk3⟩
end
/-! ### the machine's dict: whatever keys it has -/
section
variable {P : Program} [NoTree P] {w : World} {K : PySem.W.Frag} {mg : Str → Option Value} {base : Heap} {A : Ad}
def RestAt (K : PySem.W.Frag) (H : Hp) (rv : V) : Option (Int × Int) → Prop
  | none => rv = .non
  | some c => ∃ q, rv = .ref q ∧ SqT K H q [.int c.1, .int c.2]
theorem RestAt.imp {H H' : Hp} {rv : V} {r : Option (Int × Int)} (k : ∀ t xs, SqT K H t xs → SqT K H' t xs) (h : RestAt K H rv r) : RestAt K H' rv r := by
  cases r with
  | none => exact h
  | some c => obtain ⟨q, e, hq⟩ := h; exact ⟨q, e, k _ _ hq⟩
theorem sqT_dk {H : Hp} {a d : Addr} {xs : List V} {o : HO} {kvs : List (Key × V)} (h : SqT K H a xs) (hd : H d = some (.dK kvs)) : SqT K (upd H d o) a xs :=
  sqT_but (N := fun c => c = d) h (fun c u e n => by rw [upd_ne n]; exact e) fun c u e z => by
    subst e
    rw [hd] at z
    cases z
    exact ⟨fun _ q => (by cases q), fun _ _ q => (by cases q)⟩
theorem put_len {kvs : List (Key × V)} {k : Key} {v x : V} (h : valV kvs k = some x) : (putK kvs k v).length = kvs.length := by
  unfold putK
  have : (kvs.any fun kv => decide (kv.1 = k)) = true := by
    unfold valV at h
    cases e : kvs.find? fun kv => decide (kv.1 = k) with
    | none => rw [e] at h; cases h
    | some p =>
      have h1 := List.find?_some e
      have h2 := List.mem_of_find?_eq_some e
      exact List.any_eq_true.mpr ⟨p, h2, h1⟩
  rw [if_pos this, List.length_map]
theorem dget {H : Hp} {m : Addr} {kvs : List (Key × V)} {x : Str} {v : V} (h : H m = some (.dK kvs)) (hv : valV kvs (.inr x) = some v) : DGet H m (.str x) (some v) := .inl ⟨kvs, .inr x, .inl h, rfl, hv.symm⟩
theorem dput {H : Hp} {m : Addr} {kvs : List (Key × V)} {x : Str} {v : V} (h : H m = some (.dK kvs)) (hl : kvs.length ≤ 9) : DPut H m (.str x) v (upd H m (.dK (putK kvs (.inr x) v))) := .inl ⟨kvs, .inr x, h, rfl, Nat.lt_of_le_of_lt hl (by decide), rfl⟩
/-- the other keys are as they were -/
def Oth (kvs kvs' : List (Key × V)) : Prop := kvs'.length = kvs.length ∧ ∀ k : Key, k ≠ .inr "numbers" → k ≠ .inr "which" → k ≠ .inr "rest" → k ≠ .inr "begun" → valV kvs' k = valV kvs k
theorem Oth.refl (kvs : List (Key × V)) : Oth kvs kvs := ⟨rfl, fun _ _ _ _ _ => rfl⟩
theorem Oth.trans {a b c : List (Key × V)} (h : Oth a b) (h' : Oth b c) : Oth a c := ⟨h'.1.trans h.1, fun k n1 n2 n3 n4 => (h'.2 k n1 n2 n3 n4).trans (h.2 k n1 n2 n3 n4)⟩
structure DB (K : PySem.W.Frag) (H : Hp) (m tk : Addr) (kvs : List (Key × V)) (M : LM) : Prop where
  em : H m = some (.dK kvs)
  len : kvs.length ≤ 9
  nums : ∃ p, valV kvs (.inr "numbers") = some (.ref p) ∧ SqT K H p (M.ns.map V.int)
  wh : valV kvs (.inr "which") = some (.int M.w)
  tkn : valV kvs (.inr "taken") = some (.ref tk)
  rst : ∃ rv, valV kvs (.inr "rest") = some rv ∧ RestAt K H rv M.rest
  bgn : valV kvs (.inr "begun") = some (.bl M.bg)
  tk : H tk = some (.lst [.int M.i, .int M.j])
theorem DB.ne {H : Hp} {m tk : Addr} {kvs : List (Key × V)} {M : LM} (h : DB K H m tk kvs M) : tk ≠ m := fun z => by
  have := h.tk
  rw [z, h.em] at this
  cases this
theorem DB.same {H H' : Hp} {m tk : Addr} {kvs : List (Key × V)} {M : LM} (h : DB K H m tk kvs M) (s : Same H H') : DB K H' m tk kvs M := by
  obtain ⟨em, len, ⟨p, n1, n2⟩, wh, tkn, ⟨rv, r1, r2⟩, bgn, ht⟩ := h
  exact ⟨s _ _ em, len, ⟨p, n1, sqT_same n2 s⟩, wh, tkn, ⟨rv, r1, r2.imp fun t xs h => sqT_same h s⟩, bgn, s _ _ ht⟩
/-- one key is written -/
theorem DB.put {H : Hp} {m tk : Addr} {kvs : List (Key × V)} {M M' : LM} {x : Str} {v y : V} (h : DB K H m tk kvs M) (hx : valV kvs (.inr x) = some y)
    (nn : ∃ p, valV (putK kvs (.inr x) v) (.inr "numbers") = some (.ref p) ∧ SqT K H p (M'.ns.map V.int)) (nw : valV (putK kvs (.inr x) v) (.inr "which") = some (.int M'.w)) (nt : (Sum.inr x : Key) ≠ .inr "taken")
    (nr : ∃ rv, valV (putK kvs (.inr x) v) (.inr "rest") = some rv ∧ RestAt K H rv M'.rest) (nb : valV (putK kvs (.inr x) v) (.inr "begun") = some (.bl M'.bg)) (ei : M'.i = M.i) (ej : M'.j = M.j) : DB K (upd H m (.dK (putK kvs (.inr x) v))) m tk (putK kvs (.inr x) v) M' := by
  have ntm := h.ne
  obtain ⟨em, len, _, wh, tkn, _, bgn, ht⟩ := h
  obtain ⟨p, n1, n2⟩ := nn
  obtain ⟨rv, r1, r2⟩ := nr
  refine ⟨upd_same, by rw [put_len hx]; exact len, ⟨p, n1, sqT_dk n2 em⟩, nw, ?_, ⟨rv, r1, r2.imp fun t xs h => sqT_dk h em⟩, nb, ?_⟩
  · rw [valV_put, if_neg (fun z => nt z.symm)]
    exact tkn
  · rw [upd_ne ntm, ei, ej]
    exact ht
theorem kne {x y : Str} (h : x ≠ y) : (Sum.inr x : Key) ≠ .inr y := fun z => h (Sum.inr.inj z)
theorem DB.putRest {H : Hp} {m tk : Addr} {kvs : List (Key × V)} {M : LM} {q : Addr} {t b : Int} (h : DB K H m tk kvs M) (hq : SqT K H q [.int t, .int b]) : DB K (upd H m (.dK (putK kvs (.inr "rest") (.ref q)))) m tk (putK kvs (.inr "rest") (.ref q)) { M with rest := some (t, b) } ∧ Oth kvs (putK kvs (.inr "rest") (.ref q)) := by
  have h0 := h
  obtain ⟨em, len, ⟨p, n1, n2⟩, wh, tkn, ⟨rv, r1, r2⟩, bgn, ht⟩ := h
  refine ⟨h0.put r1 ⟨p, by rw [valV_put, if_neg (kne (by decide +kernel))]; exact n1, n2⟩ (by rw [valV_put, if_neg (kne (by decide +kernel))]; exact wh) (kne (by decide +kernel)) ⟨.ref q, by rw [valV_put, if_pos rfl], q, rfl, hq⟩ (by rw [valV_put, if_neg (kne (by decide +kernel))]; exact bgn) rfl rfl, put_len r1, fun k _ _ n3 _ => by rw [valV_put, if_neg n3]⟩
theorem DB.putNums {H : Hp} {m tk : Addr} {kvs : List (Key × V)} {M : LM} {q : Addr} {ns' : List Int} (h : DB K H m tk kvs M) (hq : SqT K H q (ns'.map V.int)) : DB K (upd H m (.dK (putK kvs (.inr "numbers") (.ref q)))) m tk (putK kvs (.inr "numbers") (.ref q)) { M with ns := ns' } ∧ Oth kvs (putK kvs (.inr "numbers") (.ref q)) := by
  have h0 := h
  obtain ⟨em, len, ⟨p, n1, n2⟩, wh, tkn, ⟨rv, r1, r2⟩, bgn, ht⟩ := h
  refine ⟨h0.put n1 ⟨q, by rw [valV_put, if_pos rfl], hq⟩ (by rw [valV_put, if_neg (kne (by decide +kernel))]; exact wh) (kne (by decide +kernel)) ⟨rv, by rw [valV_put, if_neg (kne (by decide +kernel))]; exact r1, r2⟩ (by rw [valV_put, if_neg (kne (by decide +kernel))]; exact bgn) rfl rfl, put_len n1, fun k n1 _ _ _ => by rw [valV_put, if_neg n1]⟩
theorem DB.putWh {H : Hp} {m tk : Addr} {kvs : List (Key × V)} {M : LM} {w' : Nat} (h : DB K H m tk kvs M) : DB K (upd H m (.dK (putK kvs (.inr "which") (.int w')))) m tk (putK kvs (.inr "which") (.int w')) { M with w := w' } ∧ Oth kvs (putK kvs (.inr "which") (.int w')) := by
  have h0 := h
  obtain ⟨em, len, ⟨p, n1, n2⟩, wh, tkn, ⟨rv, r1, r2⟩, bgn, ht⟩ := h
  refine ⟨h0.put wh ⟨p, by rw [valV_put, if_neg (kne (by decide +kernel))]; exact n1, n2⟩ (by rw [valV_put, if_pos rfl]) (kne (by decide +kernel)) ⟨rv, by rw [valV_put, if_neg (kne (by decide +kernel))]; exact r1, r2⟩ (by rw [valV_put, if_neg (kne (by decide +kernel))]; exact bgn) rfl rfl, put_len wh, fun k _ n2 _ _ => by rw [valV_put, if_neg n2]⟩
theorem DB.putBg {H : Hp} {m tk : Addr} {kvs : List (Key × V)} {M : LM} {b' : Bool} (h : DB K H m tk kvs M) : DB K (upd H m (.dK (putK kvs (.inr "begun") (.bl b')))) m tk (putK kvs (.inr "begun") (.bl b')) { M with bg := b' } ∧ Oth kvs (putK kvs (.inr "begun") (.bl b')) := by
  have h0 := h
  obtain ⟨em, len, ⟨p, n1, n2⟩, wh, tkn, ⟨rv, r1, r2⟩, bgn, ht⟩ := h
  refine ⟨h0.put bgn ⟨p, by rw [valV_put, if_neg (kne (by decide +kernel))]; exact n1, n2⟩ (by rw [valV_put, if_neg (kne (by decide +kernel))]; exact wh) (kne (by decide +kernel)) ⟨rv, by rw [valV_put, if_neg (kne (by decide +kernel))]; exact r1, r2⟩ (by rw [valV_put, if_pos rfl]) rfl rfl, put_len bgn, fun k _ _ _ n4 => by rw [valV_put, if_neg n4]⟩
/-- all but the dict stays -/
def FrD (m : Addr) (H H' : Hp) : Prop := ∀ c z, H c = some z → c ≠ m → H' c = some z
theorem FrD.trans {m : Addr} {H H1 H2 : Hp} (a : FrD m H H1) (b : FrD m H1 H2) : FrD m H H2 := fun c o e n => b c o (a c o e n) n
theorem FrD.same {m : Addr} {H H' : Hp} (s : Same H H') : FrD m H H' := fun c o e _ => s c o e
theorem FrD.put {m : Addr} {H : Hp} {o : HO} : FrD m H (upd H m o) := fun c z e n => by rw [upd_ne n]; exact e
def sp_law_rest (K : PySem.W.Frag) : Sp := fun vs H Q _ => ∃ (m tk : Addr) (kvs : List (Key × V)) (M : LM) (t b : Int), vs = [.ref m] ∧ DB K H m tk kvs M ∧ M.rest = some (t, b) ∧ fits t ∧ fits b ∧
  ∀ q H' kvs', H' q = some (.tup (oVals (restO t b M.bg))) → DB K H' m tk kvs' (M.onward t b) → Oth kvs kvs' → FrD m H H' → Q (.ref q) H'
theorem ok_law_rest (T : CT K mg A) (D : DT K mg A) : COk P w K mg base CX0 35 "_law_rest" ["_law_m"] (sp_law_rest K) := by
  refine COk.by D.law_rest fun f fd F => ?_
  refine F.ok (k := 34) sc_law_rest (fun vs H Q E h => ?_) (fun cdv Ar outer s H vs Q E hr h => ?_)
  · obtain ⟨m, tk, kvs, M, t, b, rfl, _⟩ := h
    rfl
  · obtain ⟨m, tk, kvs, M, t, b, rfl, hM, hrest, ft, fb, k⟩ := h
    refine ⟨_, (pss_cons (ps_asg (pe_dget (hu_of hr) (pv 0) pe_str (fun _ _ => rfl)) (pg_tup rfl (pgs_cons (pg_name (i := 1) sc_law_rest.nd rfl (Or.inl rfl)) (pgs_cons (pg_name (i := 2) sc_law_rest.nd rfl (Or.inl rfl)) pgs_nil))))
    (pss_cons (ps_if (pt_cmpR op_eq (pv 2) pe_int (nomark _))
      (pss_one (ps_ret (pe_ix ix_list (pe_lst (pa_cons (pe_tup (pa_cons pe_str pa_nil)) (pa_cons (pe_tup (pa_cons pe_str pa_nil)) pa_nil))) (pe_callTy call_int1 (by rfl) T.b_int (by decide +kernel) (pa_cons (pe_dget (hu_of hr) (pv 0) pe_str (fun _ _ => rfl)) pa_nil)) (fun _ _ => rfl)))) pss_nil)
    (pss_cons (ps_set (i := 3) sc_law_rest.nd rfl (Or.inl rfl) (pe_op (op_fdivM T.seer (NoTree.tree (P := P)) hr (by first | decide | omega) rfl rfl rfl) (pv 1) (pv 2)))
    (pss_cons (ps_dput (hu_of hr) (pv 0) pe_str (pe_tup (pa_cons (pv 2) (pa_cons (pe_op op_sub (pv 1) (pe_op op_mulW (pv 3) (pv 2))) pa_nil))) rfl)
    (pss_cons (ps_dput (hu_of hr) (pv 0) pe_str pe_bl rfl)
    (pss_one (ps_ret (pe_tup (pa_cons pe_str (pa_cons (pv 3) pa_nil)))))))))), ?_⟩
    have hM0 := hM
    obtain ⟨em, len, nums, wh, tkn, ⟨rv, r1, hrv⟩, bgn, ht⟩ := hM
    rw [hrest] at hrv
    obtain ⟨q, rfl, hq⟩ := hrv
    refine ⟨_, rfl, _, _, rfl, dget em r1, q, _, rfl, hq, rfl, _, _, rfl, _, _, rfl, rfl, ?_⟩
    refine ⟨_, rfl, rfl, _, rfl, ite2 (fun z => ?_) (fun z => ?_)⟩
    · have z' : b = 0 := V.int.inj (of_decide_eq_true z)
      refine ⟨(by show 1 ≤ sizeLine; decide), fun q0 n0 => ⟨(by show 1 ≤ sizeLine; decide), fun q1 n1 => ⟨(by show 2 ≤ sizeLine; decide), fun l nl => ?_⟩⟩⟩
      have s1 := same_upd (o := .tup [V.str "none"]) n0
      have s2 := same_upd (o := .tup [V.str "end"]) n1
      have s3 := same_upd (o := .lst [V.ref q0, .ref q1]) nl
      have ss := (s1.trans s2).trans s3
      have em3 := ss _ _ em
      have h0 := (s2.trans s3) _ _ (upd_at s1)
      have h1 := s3 _ _ (upd_at s2)
      have hl := upd_at s3
      have hM3 := hM0.same ss
      have fr := FrD.same (m := m) ss
      generalize upd (upd (upd H q0 _) q1 _) l _ = H3 at *
      have k3 : ∀ q, H3 q = some (.tup (oVals (restO t b M.bg))) → Q (.ref q) H3 := fun q hq => k q H3 kvs hq (by unfold LM.onward; rw [if_pos z']; exact hM3) (Oth.refl _) fr
      unfold restO at k3
      rw [if_pos z'] at k3
      refine ⟨_, rfl, _, _, rfl, dget em3 bgn, ?_⟩
      cases hb : M.bg with
      | true =>
        rw [hb] at k3
        exact .inr ⟨_, rfl, l, _, 1, _, rfl, rfl, SqL.of hl, atI_nat (j := 1) rfl, k3 q1 h1⟩
      | false =>
        rw [hb] at k3
        exact .inr ⟨_, rfl, l, _, 0, _, rfl, rfl, SqL.of hl, atI_nat (j := 0) rfl, k3 q0 h0⟩
    · have z' : ¬ b = 0 := fun u => z (decide_eq_true (congrArg V.int u))
      have fq : fits (t.fdiv b) := Nat.lt_of_le_of_lt (fdiv_abs z') ft
      refine ⟨_, rfl, _, rfl, _, _, rfl, rfl, z', ?_⟩
      refine ⟨_, rfl, _, rfl, _, rfl, _, rfl, _, _, rfl, rfl, fits_mul fq fb, _, _, rfl, rfl, (by show 2 ≤ sizeLine; decide), fun q1 n1 => ?_⟩
      have s1 := same_upd (o := .tup [V.int b, .int (t - t.fdiv b * b)]) n1
      obtain ⟨d1, o1⟩ := (hM0.same s1).putRest (q := q1) (t := b) (b := t - t.fdiv b * b) (SqT.of upd_same)
      refine ⟨_, rfl, _, _, rfl, dput (s1 _ _ em) len, ?_⟩
      obtain ⟨d2, o2⟩ := d1.putBg (b' := true)
      refine ⟨_, rfl, _, _, rfl, dput d1.em d1.len, ?_⟩
      refine ⟨_, rfl, (by show 2 ≤ sizeLine; decide), fun q2 n2 => ?_⟩
      have s2 := same_upd (o := .tup [V.str "part", .int (t.fdiv b)]) n2
      refine k q2 _ _ ?_ ?_ (o1.trans o2) ((((FrD.same s1).trans FrD.put).trans FrD.put).trans (FrD.same s2))
      · unfold restO
        rw [if_neg z']
        exact upd_same
      · unfold LM.onward
        rw [if_neg z']
        exact d2.same s2
end
/-! ### the law's own machine, box within box: what it is, and which box it goes beside -/
/-- how an asking goes on behind what a tree within has told -/
def Cont (n : Nat) (o1 o : Option Ans) (B' : Box) (l1 l' : Int) (keep fin_ : Box) (part_ : Int → Box) : Prop := match o1 with
  | none => o = none ∧ B' = keep ∧ l' = l1
  | some .waits => o = some .waits ∧ B' = keep ∧ l' = l1
  | some .fin => askF n fin_ l1 = some (o, B', l')
  | some (.part q) => fits q ∧ askF n (part_ q) l1 = some (o, B', l')
theorem askF_four_inv {n : Nat} {ns : List Int} {st told : Bool} {x : Box} {l : Int} {o : Option Ans} {B' : Box} {l' : Int} (e : askF (n + 1) (.four ns st told x) l = some (o, B', l')) : allFit ns (fourCorners ns) = true ∧
    ((∃ q, sureF ns st = some q ∧ o = some (.part q) ∧ B' = .four (turnedOver ns q) st true x ∧ l' = l) ∨
     (sureF ns st = none ∧ ∃ o1 x' l1, askF n x l = some (o1, x', l1) ∧ Cont n o1 o B' l1 l' (.four ns st told x') (.fourR (ns.getD 0 0) (ns.getD 2 0) told) (fun q => .four (withOne ns q) true told x'))) := by
  by_cases hf : allFit ns (fourCorners ns) = true
  · refine ⟨hf, ?_⟩
    cases hs : sureF ns st with
    | some q =>
      rw [askF_four_tell hf hs] at e
      cases e
      exact .inl ⟨q, rfl, rfl, rfl, rfl⟩
    | none =>
      right
      refine ⟨rfl, ?_⟩
      cases hx : askF n x l with
      | none =>
        exfalso
        simp only [askF, if_pos hf, hs, hx] at e
        cases e
      | some r =>
        obtain ⟨a, x', l1⟩ := r
        refine ⟨a, x', l1, rfl, ?_⟩
        match a, hx with
        | none, hx =>
          rw [askF_four_none hf hs hx] at e
          cases e
          exact ⟨rfl, rfl, rfl⟩
        | some .waits, hx =>
          rw [askF_four_waits hf hs hx] at e
          cases e
          exact ⟨rfl, rfl, rfl⟩
        | some .fin, hx =>
          rw [askF_four_fin hf hs hx] at e
          exact e
        | some (.part q), hx =>
          by_cases hq : fits q
          · rw [askF_four_part hf hs hx hq] at e
            exact ⟨hq, e⟩
          · exfalso
            simp only [askF, if_pos hf, hs, hx, if_neg hq] at e
            cases e
  · exfalso
    simp only [askF, if_neg hf] at e
    cases e
theorem askF_eight_inv {n : Nat} {ns : List Int} {i j : Int} {told : Bool} {x y : Box} {l : Int} {o : Option Ans} {B' : Box} {l' : Int} (e : askF (n + 1) (.eight ns i j told x y) l = some (o, B', l')) : allFit ns (eightCorners ns) = true ∧
    ((∃ q, sureE ns i j = some q ∧ o = some (.part q) ∧ B' = .eight (turnedOver ns q) i j true x y ∧ l' = l) ∨
     (sureE ns i j = none ∧ i ≤ j ∧ ∃ o1 x' l1, askF n x l = some (o1, x', l1) ∧ Cont n o1 o B' l1 l' (.eight ns i j told x' y) (.eightR (oneBox (leftOf ns 0) told y)) (fun q => .eight (withFirst ns q) (i + 1) j told x' y)) ∨
     (sureE ns i j = none ∧ ¬ i ≤ j ∧ ∃ o1 y' l1, askF n y l = some (o1, y', l1) ∧ Cont n o1 o B' l1 l' (.eight ns i j told x y') (.eightR (oneBox (leftOf ns 1) told x)) (fun q => .eight (withSecond ns q) i (j + 1) told x y'))) := by
  by_cases hf : allFit ns (eightCorners ns) = true
  · refine ⟨hf, ?_⟩
    cases hs : sureE ns i j with
    | some q =>
      rw [askF_eight_tell hf hs] at e
      cases e
      exact .inl ⟨q, rfl, rfl, rfl, rfl⟩
    | none =>
      right
      by_cases hij : i ≤ j
      · left
        refine ⟨rfl, hij, ?_⟩
        cases hx : askF n x l with
        | none =>
          exfalso
          simp only [askF, if_pos hf, show (if 0 < i ∧ 0 < j then surePart (eightCorners ns) else none) = none from hs, if_pos hij, hx] at e
          cases e
        | some r =>
          obtain ⟨a, x', l1⟩ := r
          refine ⟨a, x', l1, rfl, ?_⟩
          match a, hx with
          | none, hx =>
            rw [askF_eight_none0 hf hs hij hx] at e
            cases e
            exact ⟨rfl, rfl, rfl⟩
          | some .waits, hx =>
            rw [askF_eight_waits0 hf hs hij hx] at e
            cases e
            exact ⟨rfl, rfl, rfl⟩
          | some .fin, hx =>
            rw [askF_eight_fin0 hf hs hij hx] at e
            exact e
          | some (.part q), hx =>
            by_cases hq : fits q
            · rw [askF_eight_part0 hf hs hij hx hq] at e
              exact ⟨hq, e⟩
            · exfalso
              simp only [askF, if_pos hf, show (if 0 < i ∧ 0 < j then surePart (eightCorners ns) else none) = none from hs, if_pos hij, hx, if_neg hq] at e
              cases e
      · right
        refine ⟨rfl, hij, ?_⟩
        cases hx : askF n y l with
        | none =>
          exfalso
          simp only [askF, if_pos hf, show (if 0 < i ∧ 0 < j then surePart (eightCorners ns) else none) = none from hs, if_neg hij, hx] at e
          cases e
        | some r =>
          obtain ⟨a, x', l1⟩ := r
          refine ⟨a, x', l1, rfl, ?_⟩
          match a, hx with
          | none, hx =>
            rw [askF_eight_none1 hf hs hij hx] at e
            cases e
            exact ⟨rfl, rfl, rfl⟩
          | some .waits, hx =>
            rw [askF_eight_waits1 hf hs hij hx] at e
            cases e
            exact ⟨rfl, rfl, rfl⟩
          | some .fin, hx =>
            rw [askF_eight_fin1 hf hs hij hx] at e
            exact e
          | some (.part q), hx =>
            by_cases hq : fits q
            · rw [askF_eight_part1 hf hs hij hx hq] at e
              exact ⟨hq, e⟩
            · exfalso
              simp only [askF, if_pos hf, show (if 0 < i ∧ 0 < j then surePart (eightCorners ns) else none) = none from hs, if_neg hij, hx, if_neg hq] at e
              cases e
  · exfalso
    simp only [askF, if_neg hf] at e
    cases e
theorem askF_rest_inv {n : Nat} {r : Box} {l : Int} {o : Option Ans} {B' : Box} {l' : Int} (e : askF (n + 1) (.eightR r) l = some (o, B', l')) : ∃ r', askF n r l = some (o, r', l') ∧ B' = .eightR r' := by
  rw [wrap_R] at e
  unfold wrapF at e
  cases h : askF n r l with
  | none => rw [h] at e; cases e
  | some z =>
    rw [h] at e
    cases e
    exact ⟨_, rfl, rfl⟩
inductive Mac where
  | leaf (f : Leaf) (n : Nat) (c : Chain)
  | box (ev : Bool) (M : LM) (x y : Mac)
def Mac.ht : Mac → Nat
  | .leaf _ _ _ => 0
  | .box ev _ x y => if ev = true then max x.ht y.ht + 1 else x.ht + 1
def Mac.took : Mac → Nat
  | .leaf _ n _ => n
  | .box ev _ x y => if ev = true then x.took + y.took else x.took
def Mac.told : Mac → Bool
  | .leaf _ n _ => decide (0 < n)
  | .box _ M _ _ => M.bg
def Sim : Mac → Box → Prop
  | .leaf _ n c, B => B = .leaf c ∧ (n = 0 → c.ended = false)
  | .box ev M x y, B =>
    (M.rest = none ∧ ev = false ∧ M.ns.length = 4 ∧ M.w = 0 ∧ x.told = decide (0 < M.i) ∧ ∃ X, Sim x X ∧ B = .four M.ns (decide (0 < M.i)) M.bg X) ∨
    (M.rest = none ∧ ev = true ∧ M.ns.length = 8 ∧ M.w = 0 ∧ x.told = decide (0 < M.i) ∧ y.told = decide (0 < M.j) ∧ ∃ X Y, Sim x X ∧ Sim y Y ∧ B = .eight M.ns M.i M.j M.bg X Y) ∨
    (M.rest = none ∧ ev = true ∧ M.ns.length = 4 ∧ M.w = 0 ∧ 0 < M.i ∧ x.told = true ∧ ∃ X, Sim x X ∧ B = .eightR (.four M.ns true M.bg X)) ∨
    (M.rest = none ∧ ev = true ∧ M.ns.length = 4 ∧ M.w = 1 ∧ 0 < M.j ∧ y.told = true ∧ ∃ Y, Sim y Y ∧ B = .eightR (.four M.ns true M.bg Y)) ∨
    (∃ t b t', M.rest = some (t, b) ∧ fits t ∧ fits b ∧ (b ≠ 0 → t' = t) ∧ (B = .fourR t' b M.bg ∨ (ev = true ∧ (B = .eightR (.fb t' b M.bg) ∨ B = .eightR (.fourR t' b M.bg)))))
/-- the tree within that is asked -/
def inn (k : Nat) (x y : Mac) : Mac := if k = 0 then x else y
def withIn (k : Nat) (z x y : Mac) (f : Mac → Mac → Mac) : Mac := if k = 0 then f z y else f x z
theorem fbAsk_rest {t b t' : Int} {bg : Bool} {r : Option Ans × Int × Int × Bool} (ht : b ≠ 0 → t' = t) (e : fbAsk t' b bg = some r) : r.1 = restO t b bg ∧ (b = 0 → r = (r.1, t', b, bg)) ∧ (b ≠ 0 → r = (r.1, b, t - t.fdiv b * b, true)) ∧ (b ≠ 0 → fits t' ∧ fits b) := by
  unfold fbAsk at e
  split at e
  · rename_i hf
    by_cases hb : b = 0
    · rw [if_pos hb] at e
      cases bg with
      | true =>
        rw [if_pos rfl] at e
        cases e
        refine ⟨?_, fun _ => rfl, fun z => absurd hb z, fun z => absurd hb z⟩
        unfold restO
        rw [if_pos hb, if_pos rfl]
      | false =>
        rw [if_neg (by decide)] at e
        cases e
        refine ⟨?_, fun _ => rfl, fun z => absurd hb z, fun z => absurd hb z⟩
        unfold restO
        rw [if_pos hb, if_neg (by decide)]
    · rw [if_neg hb] at e
      cases e
      have := ht hb
      subst this
      refine ⟨?_, fun z => absurd z hb, fun _ => rfl, fun _ => hf⟩
      unfold restO
      rw [if_neg hb]
  · cases e
theorem fits_mod {t b : Int} (hb : b ≠ 0) (fb : fits b) : fits (t - t.fdiv b * b) := by
  have e : t - t.fdiv b * b = t.fmod b := by
    have := Int.mul_fdiv_add_fmod t b
    have e2 : b * t.fdiv b = t.fdiv b * b := Int.mul_comm ..
    omega
  rw [e]
  refine Nat.lt_of_le_of_lt ?_ fb
  rcases Int.lt_or_gt_of_ne hb with z | z
  · have := fmod_neg (a := t) z
    omega
  · have := fmod_pos (a := t) z
    omega
/-- a fraction is left -/
theorem sim_restN {ev : Bool} {M : LM} {x y : Mac} {B : Box} {t b : Int} (h : Sim (.box ev M x y) B) (hr : M.rest = some (t, b)) {n : Nat} {l : Int} {o : Option Ans} {B' : Box} {l' : Int} (ha : askF n B l = some (o, B', l')) : o = restO t b M.bg ∧ l' = l ∧ Sim (.box ev (M.onward t b) x y) B' ∧ fits t ∧ fits b := by
  rcases h with ⟨e, _⟩ | ⟨e, _⟩ | ⟨e, _⟩ | ⟨e, _⟩ | ⟨t0, b0, t', e, ft, fb, htt, hB⟩
  · rw [hr] at e; cases e
  · rw [hr] at e; cases e
  · rw [hr] at e; cases e
  · rw [hr] at e; cases e
  · rw [hr] at e
    cases e
    obtain ⟨m, rfl⟩ := askF_pos ha
    -- what is kept, in each form
    have key : ∀ {r : Option Ans × Int × Int × Bool}, fbAsk t' b M.bg = some r → r.1 = restO t b M.bg ∧ ∃ t2, (M.onward t b).rest = some (if b = 0 then (t, b) else (b, t - t.fdiv b * b)) ∧ fits (if b = 0 then (t, b) else (b, t - t.fdiv b * b)).1 ∧ fits (if b = 0 then (t, b) else (b, t - t.fdiv b * b)).2 ∧ ((if b = 0 then (t, b) else (b, t - t.fdiv b * b)).2 ≠ 0 → t2 = (if b = 0 then (t, b) else (b, t - t.fdiv b * b)).1) ∧ r.2 = (t2, (if b = 0 then (t, b) else (b, t - t.fdiv b * b)).2, (M.onward t b).bg) := fun {r} e => by
      obtain ⟨r1, r2, r3, _⟩ := fbAsk_rest htt e
      by_cases hb : b = 0
      · have e2 := r2 hb
        refine ⟨r1, t', ?_⟩
        unfold LM.onward
        rw [if_pos hb, if_pos hb]
        exact ⟨hr, ft, fb, fun z => absurd hb z, by rw [e2]⟩
      · have e2 := r3 hb
        refine ⟨r1, b, ?_⟩
        unfold LM.onward
        rw [if_neg hb, if_neg hb]
        exact ⟨rfl, fb, fits_mod hb fb, fun _ => rfl, by rw [e2]⟩
    rcases hB with rfl | ⟨rfl, rfl | rfl⟩
    · have e : (fbAsk t' b M.bg).map (fun r => (r.1, Box.fourR r.2.1 r.2.2.1 r.2.2.2, l)) = some (o, B', l') := ha
      cases z : fbAsk t' b M.bg with
      | none => rw [z] at e; cases e
      | some r =>
        rw [z] at e
        cases e
        obtain ⟨k1, t2, k2, k3, k4, k5, k6⟩ := key z
        refine ⟨k1, rfl, .inr (.inr (.inr (.inr ⟨_, _, t2, k2, k3, k4, k5, .inl ?_⟩))), ft, fb⟩
        rw [k6]
        rfl
    · obtain ⟨r', e', rfl⟩ := askF_rest_inv ha
      obtain ⟨m2, rfl⟩ := askF_pos e'
      have e : (fbAsk t' b M.bg).map (fun r => (r.1, Box.fb r.2.1 r.2.2.1 r.2.2.2, l)) = some (o, r', l') := e'
      cases z : fbAsk t' b M.bg with
      | none => rw [z] at e; cases e
      | some r =>
        rw [z] at e
        cases e
        obtain ⟨k1, t2, k2, k3, k4, k5, k6⟩ := key z
        refine ⟨k1, rfl, .inr (.inr (.inr (.inr ⟨_, _, t2, k2, k3, k4, k5, .inr ⟨rfl, .inl ?_⟩⟩))), ft, fb⟩
        rw [k6]
        rfl
    · obtain ⟨r', e', rfl⟩ := askF_rest_inv ha
      obtain ⟨m2, rfl⟩ := askF_pos e'
      have e : (fbAsk t' b M.bg).map (fun r => (r.1, Box.fourR r.2.1 r.2.2.1 r.2.2.2, l)) = some (o, r', l') := e'
      cases z : fbAsk t' b M.bg with
      | none => rw [z] at e; cases e
      | some r =>
        rw [z] at e
        cases e
        obtain ⟨k1, t2, k2, k3, k4, k5, k6⟩ := key z
        refine ⟨k1, rfl, .inr (.inr (.inr (.inr ⟨_, _, t2, k2, k3, k4, k5, .inr ⟨rfl, .inr ?_⟩⟩))), ft, fb⟩
        rw [k6]
        rfl
/-! ### one turn of the machine beside the box -/
def setX (k : Nat) (z x : Mac) : Mac := if k = 0 then z else x
def setY (k : Nat) (z y : Mac) : Mac := if k = 0 then y else z
def isPart : Option Ans → Bool
  | some (.part _) => true
  | _ => false
theorem turn4 {ns : List Int} {q : Int} (h : ns.length = 4) : (turnedOver ns q).length = 4 := by
  match ns, h with
  | [a, b, c, d], _ => rw [turned4]; rfl
theorem turn8 {ns : List Int} {q : Int} (h : ns.length = 8) : (turnedOver ns q).length = 8 := by
  match ns, h with
  | [a, b, c, d, e, f, g, k], _ => rw [turned8]; rfl
theorem sim_fitsN {ev : Bool} {M : LM} {x y : Mac} {B : Box} (h : Sim (.box ev M x y) B) (hr : M.rest = none) {n : Nat} {l : Int} {r : Option Ans × Box × Int} (ha : askF n B l = some r) : (M.ns.length = 4 ∨ M.ns.length = 8) ∧ (∀ z ∈ M.ns, fits z) ∧ (∀ d ∈ cornersOf M.ns, fits d.1 ∧ fits d.2) ∧ M.wh ≤ 1 ∧ (M.wh = 0 ∨ ev = true) ∧ (M.ns.length = 8 → ev = true) ∧ M.w ≤ 1 := by
  obtain ⟨o, B', l'⟩ := r
  obtain ⟨m, rfl⟩ := askF_pos ha
  have f4 : M.ns.length = 4 → allFit M.ns (fourCorners M.ns) = true → (∀ z ∈ M.ns, fits z) ∧ (∀ d ∈ cornersOf M.ns, fits d.1 ∧ fits d.2) := fun hl hf => by
    have := allFit_ns hf
    unfold cornersOf
    rw [if_pos hl]
    exact this
  have f8 : M.ns.length = 8 → allFit M.ns (eightCorners M.ns) = true → (∀ z ∈ M.ns, fits z) ∧ (∀ d ∈ cornersOf M.ns, fits d.1 ∧ fits d.2) := fun hl hf => by
    have := allFit_ns hf
    unfold cornersOf
    rw [if_neg (by rw [hl]; decide)]
    exact this
  have wh4 : M.ns.length = 4 → M.wh = M.w := fun hl => if_neg (by rw [hl]; decide)
  rcases h with ⟨_, hev, hl, hw, _, X, _, rfl⟩ | ⟨_, hev, hl, hw, _, _, X, Y, _, _, rfl⟩ | ⟨_, hev, hl, hw, _, _, X, _, rfl⟩ | ⟨_, hev, hl, hw, _, _, X, _, rfl⟩ | ⟨t, b, t', e, _⟩
  · obtain ⟨hf, _⟩ := askF_four_inv ha
    obtain ⟨a1, a2⟩ := f4 hl hf
    exact ⟨.inl hl, a1, a2, by rw [wh4 hl]; omega, .inl (by rw [wh4 hl]; exact hw), (fun z => by omega), by omega⟩
  · obtain ⟨hf, _⟩ := askF_eight_inv ha
    obtain ⟨a1, a2⟩ := f8 hl hf
    refine ⟨.inr hl, a1, a2, ?_, .inr hev, fun _ => hev, ?_⟩
    · unfold LM.wh
      rw [if_pos hl]
      split <;> decide
    · omega
  · obtain ⟨r', e', rfl⟩ := askF_rest_inv ha
    obtain ⟨m2, rfl⟩ := askF_pos e'
    obtain ⟨hf, _⟩ := askF_four_inv e'
    obtain ⟨a1, a2⟩ := f4 hl hf
    exact ⟨.inl hl, a1, a2, by rw [wh4 hl]; omega, .inr hev, (fun z => by omega), by omega⟩
  · obtain ⟨r', e', rfl⟩ := askF_rest_inv ha
    obtain ⟨m2, rfl⟩ := askF_pos e'
    obtain ⟨hf, _⟩ := askF_four_inv e'
    obtain ⟨a1, a2⟩ := f4 hl hf
    exact ⟨.inl hl, a1, a2, by rw [wh4 hl]; omega, .inr hev, (fun z => by omega), by omega⟩
  · rw [hr] at e; cases e
theorem sim_tellN {ev : Bool} {M : LM} {x y : Mac} {B : Box} {q : Int} (h : Sim (.box ev M x y) B) (hr : M.rest = none) (hs : M.sure = some q) {n : Nat} {l : Int} {o : Option Ans} {B' : Box} {l' : Int} (ha : askF n B l = some (o, B', l')) : o = some (.part q) ∧ l' = l ∧ Sim (.box ev (M.tell q) x y) B' := by
  obtain ⟨m, rfl⟩ := askF_pos ha
  rcases h with ⟨_, hev, hl, hw, tx, X, sX, rfl⟩ | ⟨_, hev, hl, hw, tx, ty, X, Y, sX, sY, rfl⟩ | ⟨_, hev, hl, hw, hi, tx, X, sX, rfl⟩ | ⟨_, hev, hl, hw, hi, tx, X, sX, rfl⟩ | ⟨t, b, t', e, _⟩
  · rw [LM.sure4 hl, hw] at hs
    have hs : sureF M.ns (decide (0 < M.i)) = some q := hs
    obtain ⟨_, ⟨q', h1, rfl, rfl, rfl⟩ | ⟨h1, _⟩⟩ := askF_four_inv ha
    · rw [hs] at h1
      cases h1
      exact ⟨rfl, rfl, .inl ⟨hr, hev, turn4 hl, hw, tx, X, sX, rfl⟩⟩
    · rw [hs] at h1; cases h1
  · rw [LM.sure8 hl] at hs
    obtain ⟨_, ⟨q', h1, rfl, rfl, rfl⟩ | ⟨h1, _⟩ | ⟨h1, _⟩⟩ := askF_eight_inv ha
    · rw [hs] at h1
      cases h1
      exact ⟨rfl, rfl, .inr (.inl ⟨hr, hev, turn8 hl, hw, tx, ty, X, Y, sX, sY, rfl⟩)⟩
    · rw [hs] at h1; cases h1
    · rw [hs] at h1; cases h1
  · rw [LM.sure4 hl, hw] at hs
    have hs : sureF M.ns (decide (0 < M.i)) = some q := hs
    rw [decide_eq_true hi] at hs
    obtain ⟨r', e', rfl⟩ := askF_rest_inv ha
    obtain ⟨m2, rfl⟩ := askF_pos e'
    obtain ⟨_, ⟨q', h1, rfl, rfl, rfl⟩ | ⟨h1, _⟩⟩ := askF_four_inv e'
    · rw [hs] at h1
      cases h1
      exact ⟨rfl, rfl, .inr (.inr (.inl ⟨hr, hev, turn4 hl, hw, hi, tx, X, sX, rfl⟩))⟩
    · rw [hs] at h1; cases h1
  · rw [LM.sure4 hl, hw] at hs
    have hs : sureF M.ns (decide (0 < M.j)) = some q := hs
    rw [decide_eq_true hi] at hs
    obtain ⟨r', e', rfl⟩ := askF_rest_inv ha
    obtain ⟨m2, rfl⟩ := askF_pos e'
    obtain ⟨_, ⟨q', h1, rfl, rfl, rfl⟩ | ⟨h1, _⟩⟩ := askF_four_inv e'
    · rw [hs] at h1
      cases h1
      exact ⟨rfl, rfl, .inr (.inr (.inr (.inl ⟨hr, hev, turn4 hl, hw, hi, tx, X, sX, rfl⟩)))⟩
    · rw [hs] at h1; cases h1
  · rw [hr] at e; cases e
/-- what is left where one of an eight's trees has ended -/
theorem sim_one {M : LM} {k : Nat} {x y : Mac} {Z : Box} (hr : M.rest = none) (hl : M.ns.length = 8) (hf : ∀ z ∈ M.ns, fits z) (hk : (k = 0 ∧ 0 < M.j ∧ y.told = true ∧ Sim y Z) ∨ (k = 1 ∧ 0 < M.i ∧ x.told = true ∧ Sim x Z)) : Sim (.box true (M.end_ k) x y) (.eightR (oneBox (leftOf M.ns k) M.bg Z)) := by
  match hns : M.ns, hl with
  | [a, b, c, d, e, f, g, h], hl' =>
  rw [hns] at hf
  have gen : ∀ x1 x3 : Int, fits x1 → fits x3 → leftOf [a, b, c, d, e, f, g, h] k = [a, x1, e, x3] → Sim (.box true (M.end_ k) x y) (.eightR (oneBox [a, x1, e, x3] M.bg Z)) := fun x1 x3 f1 f3 eL => by
    have e8 := LM.end8 (M := M) (k := k) (by rw [hns]; rfl) (by rw [hns]; exact eL)
    rw [e8]
    show Sim _ (.eightR (if a * x3 ≠ x1 * e then .four [a, x1, e, x3] true M.bg Z else if e ≠ 0 then .fb a e M.bg else .fb x1 x3 M.bg))
    by_cases hd : a * x3 ≠ x1 * e
    · rw [if_pos hd, if_pos hd]
      rcases hk with ⟨rfl, hj, ht, hz⟩ | ⟨rfl, hi, ht, hz⟩
      · exact .inr (.inr (.inr (.inl ⟨hr, rfl, rfl, rfl, hj, ht, Z, hz, rfl⟩)))
      · exact .inr (.inr (.inl ⟨hr, rfl, rfl, rfl, hi, ht, Z, hz, rfl⟩))
    · rw [if_neg hd, if_neg hd]
      have hd : a * x3 = x1 * e := Classical.not_not.mp hd
      have fa := hf a (by simp)
      have fe := hf e (by simp)
      by_cases he : e = 0
      · subst he
        rw [if_neg (show ¬ ((0 : Int) ≠ 0) from fun z => z rfl)]
        by_cases ha : a = 0
        · rw [if_pos ⟨ha, rfl⟩]
          exact .inr (.inr (.inr (.inr ⟨x1, x3, x1, rfl, f1, f3, fun _ => rfl, .inr ⟨rfl, .inl rfl⟩⟩)))
        · rw [if_neg (fun z => ha z.1)]
          have x30 : x3 = 0 := by
            rw [Int.mul_zero] at hd
            rcases Int.mul_eq_zero.mp hd with z | z
            · exact absurd z ha
            · exact z
          subst x30
          exact .inr (.inr (.inr (.inr ⟨a, 0, x1, rfl, fa, fe, fun z => absurd rfl z, .inr ⟨rfl, .inl rfl⟩⟩)))
      · rw [if_neg (fun z => he z.2), if_pos he]
        exact .inr (.inr (.inr (.inr ⟨a, e, a, rfl, fa, fe, fun _ => rfl, .inr ⟨rfl, .inl rfl⟩⟩)))
  rcases hk with ⟨rfl, r⟩ | ⟨rfl, r⟩
  · exact gen b f (hf b (by simp)) (hf f (by simp)) rfl
  · exact gen c g (hf c (by simp)) (hf g (by simp)) rfl
def Turn2 (ev : Bool) (M : LM) (x y : Mac) (n : Nat) (o1 o : Option Ans) (B' : Box) (l1 l' : Int) (z : Mac) : Prop := match o1 with
  | none => o = none ∧ l' = l1 ∧ Sim (.box ev M (setX M.wh z x) (setY M.wh z y)) B'
  | some .waits => o = some .waits ∧ l' = l1 ∧ Sim (.box ev M (setX M.wh z x) (setY M.wh z y)) B'
  | some .fin => (inn M.wh x y).told = true → ∃ C n2, n2 < n ∧ Sim (.box ev (M.end_ M.wh) (setX M.wh z x) (setY M.wh z y)) C ∧ askF n2 C l1 = some (o, B', l')
  | some (.part q) => fits q ∧ ∃ C n2, n2 < n ∧ Sim (.box ev (M.take M.wh q) (setX M.wh z x) (setY M.wh z y)) C ∧ askF n2 C l1 = some (o, B', l')
theorem sim_innN {ev : Bool} {M : LM} {x y : Mac} {B : Box} (h : Sim (.box ev M x y) B) (hr : M.rest = none) (hs : M.sure = none) {n : Nat} {l : Int} {o : Option Ans} {B' : Box} {l' : Int} (ha : askF n B l = some (o, B', l')) :
    ∃ X n1 o1 X' l1, Sim (inn M.wh x y) X ∧ n1 < n ∧ askF n1 X l = some (o1, X', l1) ∧ ∀ z, Sim z X' → z.told = ((inn M.wh x y).told || isPart o1) → Turn2 ev M x y n o1 o B' l1 l' z := by
  obtain ⟨hlen, hfit, _⟩ := sim_fitsN h hr ha
  obtain ⟨m, rfl⟩ := askF_pos ha
  have wh4 : M.ns.length = 4 → M.wh = M.w := fun hl => if_neg (by rw [hl]; decide)
  have f0 : ∀ i : Nat, fits (M.ns.getD i 0) := fun i => by
    by_cases hi : i < M.ns.length
    · have e : M.ns.getD i 0 = M.ns[i] := by simp [List.getD, hi]
      rw [e]
      exact hfit _ (List.getElem_mem hi)
    · have e : M.ns.getD i 0 = 0 := by simp [List.getD, List.getElem?_eq_none (show M.ns.length ≤ i by omega)]
      rw [e]
      exact bigN_pos
  have take4 : ∀ {k : Nat} {q : Int}, M.ns.length = 4 → (M.take k q).ns = withOne M.ns q := fun {k q} hl => by
    unfold LM.take movedBy
    rw [if_pos hl]
    split <;> rfl
  have end4 : ∀ {k : Nat}, M.ns.length = 4 → M.end_ k = { M with rest := some (M.ns.getD 0 0, M.ns.getD 2 0) } := fun {k} hl => if_pos hl
  rcases h with ⟨_, hev, hl, hw, tx, X, sX, rfl⟩ | ⟨_, hev, hl, hw, tx, ty, X, Y, sX, sY, rfl⟩ | ⟨_, hev, hl, hw, hi, tx, X, sX, rfl⟩ | ⟨_, hev, hl, hw, hi, tx, X, sX, rfl⟩ | ⟨t, b, t', e, _⟩
  · rw [LM.sure4 hl, hw] at hs
    have hs : sureF M.ns (decide (0 < M.i)) = none := hs
    have e0 : M.wh = 0 := (wh4 hl).trans hw
    obtain ⟨_, ⟨q', h1, _⟩ | ⟨_, o1, x', l1, hx, ct⟩⟩ := askF_four_inv ha
    · rw [hs] at h1; cases h1
    rw [e0]
    refine ⟨X, m, o1, x', l1, sX, by omega, hx, fun z sz tz => ?_⟩
    have tz : z.told = (x.told || isPart o1) := tz
    unfold Turn2
    rw [e0]
    match o1, ct, tz with
    | none, ⟨h1, h2, h3⟩, tz => exact ⟨h1, h3, .inl ⟨hr, hev, hl, hw, (by show z.told = _; rw [tz, ← tx]; exact Bool.or_false _), x', sz, h2⟩⟩
    | some .waits, ⟨h1, h2, h3⟩, tz => exact ⟨h1, h3, .inl ⟨hr, hev, hl, hw, (by show z.told = _; rw [tz, ← tx]; exact Bool.or_false _), x', sz, h2⟩⟩
    | some .fin, ct, tz =>
      intro _
      refine ⟨_, m, by omega, ?_, ct⟩
      rw [end4 hl]
      exact .inr (.inr (.inr (.inr ⟨_, _, _, rfl, f0 0, f0 2, fun _ => rfl, .inl rfl⟩)))
    | some (.part q), ⟨hq, ct⟩, tz =>
      refine ⟨hq, _, m, by omega, ?_, ct⟩
      have t1 : z.told = true := by rw [tz]; exact Bool.or_true _
      refine .inl ⟨hr, hev, by rw [take4 hl]; rfl, hw, ?_, x', sz, ?_⟩
      · show z.told = decide (0 < M.i + 1)
        rw [t1, decide_eq_true (by omega)]
      · show Box.four (withOne M.ns q) true M.bg x' = .four (M.take 0 q).ns (decide (0 < M.i + 1)) M.bg x'
        rw [take4 hl, decide_eq_true (show 0 < M.i + 1 by omega)]
  · rw [LM.sure8 hl] at hs
    subst hev
    obtain ⟨_, ⟨q', h1, _⟩ | ⟨_, hij, o1, x', l1, hx, ct⟩ | ⟨_, hij, o1, x', l1, hx, ct⟩⟩ := askF_eight_inv ha
    · rw [hs] at h1; cases h1
    · have e0 : M.wh = 0 := by
        unfold LM.wh
        rw [if_pos hl, if_neg (by omega)]
      rw [e0]
      refine ⟨X, m, o1, x', l1, sX, by omega, hx, fun z sz tz => ?_⟩
      have tz : z.told = (x.told || isPart o1) := tz
      unfold Turn2
      rw [e0]
      match o1, ct, tz with
      | none, ⟨h1, h2, h3⟩, tz => exact ⟨h1, h3, .inr (.inl ⟨hr, rfl, hl, hw, (by show z.told = _; rw [tz, ← tx]; exact Bool.or_false _), ty, x', Y, sz, sY, h2⟩)⟩
      | some .waits, ⟨h1, h2, h3⟩, tz => exact ⟨h1, h3, .inr (.inl ⟨hr, rfl, hl, hw, (by show z.told = _; rw [tz, ← tx]; exact Bool.or_false _), ty, x', Y, sz, sY, h2⟩)⟩
      | some .fin, ct, tz =>
        intro ht
        have ht : x.told = true := ht
        have i0 : 0 < M.i := of_decide_eq_true (tx.symm.trans ht)
        have j0 : 0 < M.j := by omega
        refine ⟨_, m, by omega, sim_one (x := z) hr hl hfit (.inl ⟨rfl, j0, (by show y.told = true; rw [ty, decide_eq_true j0]), sY⟩), ct⟩
      | some (.part q), ⟨hq, ct⟩, tz =>
        refine ⟨hq, _, m, by omega, ?_, ct⟩
        have t1 : z.told = true := by rw [tz]; exact Bool.or_true _
        have en : (M.take 0 q).ns = withFirst M.ns q := by
          show movedBy M.ns 0 q = _
          unfold movedBy
          rw [if_neg (by rw [hl]; decide), if_pos rfl]
        refine .inr (.inl ⟨hr, rfl, by rw [en]; rfl, hw, ?_, ty, x', Y, sz, sY, ?_⟩)
        · show z.told = decide (0 < M.i + 1)
          rw [t1, decide_eq_true (by omega)]
        · show Box.eight (withFirst M.ns q) ((M.i : Int) + 1) M.j M.bg x' Y = .eight (M.take 0 q).ns ((M.i + 1 : Nat) : Int) M.j M.bg x' Y
          rw [en]
          rfl
    · have e0 : M.wh = 1 := by
        unfold LM.wh
        rw [if_pos hl, if_pos (by omega)]
      rw [e0]
      refine ⟨Y, m, o1, x', l1, sY, by omega, hx, fun z sz tz => ?_⟩
      have tz : z.told = (y.told || isPart o1) := tz
      unfold Turn2
      rw [e0]
      match o1, ct, tz with
      | none, ⟨h1, h2, h3⟩, tz => exact ⟨h1, h3, .inr (.inl ⟨hr, rfl, hl, hw, tx, (by show z.told = _; rw [tz, ← ty]; exact Bool.or_false _), X, x', sX, sz, h2⟩)⟩
      | some .waits, ⟨h1, h2, h3⟩, tz => exact ⟨h1, h3, .inr (.inl ⟨hr, rfl, hl, hw, tx, (by show z.told = _; rw [tz, ← ty]; exact Bool.or_false _), X, x', sX, sz, h2⟩)⟩
      | some .fin, ct, tz =>
        intro _
        have i0 : 0 < M.i := by omega
        refine ⟨_, m, by omega, sim_one (y := z) hr hl hfit (.inr ⟨rfl, i0, (by show x.told = true; rw [tx, decide_eq_true i0]), sX⟩), ct⟩
      | some (.part q), ⟨hq, ct⟩, tz =>
        refine ⟨hq, _, m, by omega, ?_, ct⟩
        have t1 : z.told = true := by rw [tz]; exact Bool.or_true _
        have en : (M.take 1 q).ns = withSecond M.ns q := moved_second hl (by decide)
        refine .inr (.inl ⟨hr, rfl, by rw [en]; rfl, hw, tx, ?_, X, x', sX, sz, ?_⟩)
        · show z.told = decide (0 < M.j + 1)
          rw [t1, decide_eq_true (by omega)]
        · show Box.eight (withSecond M.ns q) M.i ((M.j : Int) + 1) M.bg X x' = .eight (M.take 1 q).ns M.i ((M.j + 1 : Nat) : Int) M.bg X x'
          rw [en]
          rfl
  · rw [LM.sure4 hl, hw] at hs
    have hs : sureF M.ns (decide (0 < M.i)) = none := hs
    rw [decide_eq_true hi] at hs
    subst hev
    have e0 : M.wh = 0 := (wh4 hl).trans hw
    obtain ⟨r', e', rfl⟩ := askF_rest_inv ha
    obtain ⟨m2, rfl⟩ := askF_pos e'
    obtain ⟨_, ⟨q', h1, _⟩ | ⟨_, o1, x', l1, hx, ct⟩⟩ := askF_four_inv e'
    · rw [hs] at h1; cases h1
    rw [e0]
    refine ⟨X, m2, o1, x', l1, sX, by omega, hx, fun z sz tz => ?_⟩
    have tz : z.told = (x.told || isPart o1) := tz
    have t1 : z.told = true := by rw [tz, tx]; rfl
    unfold Turn2
    rw [e0]
    match o1, ct, tz with
    | none, ⟨h1, h2, h3⟩, tz => exact ⟨h1, h3, .inr (.inr (.inl ⟨hr, rfl, hl, hw, hi, t1, x', sz, by rw [h2]⟩))⟩
    | some .waits, ⟨h1, h2, h3⟩, tz => exact ⟨h1, h3, .inr (.inr (.inl ⟨hr, rfl, hl, hw, hi, t1, x', sz, by rw [h2]⟩))⟩
    | some .fin, ct, tz =>
      intro _
      refine ⟨.eightR _, m2 + 1, by omega, ?_, askF_rest ct⟩
      rw [end4 hl]
      exact .inr (.inr (.inr (.inr ⟨_, _, _, rfl, f0 0, f0 2, fun _ => rfl, .inr ⟨rfl, .inr rfl⟩⟩)))
    | some (.part q), ⟨hq, ct⟩, tz =>
      refine ⟨hq, .eightR _, m2 + 1, by omega, ?_, askF_rest ct⟩
      refine .inr (.inr (.inl ⟨hr, rfl, by rw [take4 hl]; rfl, hw, Nat.succ_pos _, t1, x', sz, ?_⟩))
      show Box.eightR (.four (withOne M.ns q) true M.bg x') = .eightR (.four (M.take 0 q).ns true M.bg x')
      rw [take4 hl]
  · rw [LM.sure4 hl, hw] at hs
    have hs : sureF M.ns (decide (0 < M.j)) = none := hs
    rw [decide_eq_true hi] at hs
    subst hev
    have e0 : M.wh = 1 := (wh4 hl).trans hw
    obtain ⟨r', e', rfl⟩ := askF_rest_inv ha
    obtain ⟨m2, rfl⟩ := askF_pos e'
    obtain ⟨_, ⟨q', h1, _⟩ | ⟨_, o1, x', l1, hx, ct⟩⟩ := askF_four_inv e'
    · rw [hs] at h1; cases h1
    rw [e0]
    refine ⟨X, m2, o1, x', l1, sX, by omega, hx, fun z sz tz => ?_⟩
    have tz : z.told = (y.told || isPart o1) := tz
    have t1 : z.told = true := by rw [tz, tx]; rfl
    unfold Turn2
    rw [e0]
    match o1, ct, tz with
    | none, ⟨h1, h2, h3⟩, tz => exact ⟨h1, h3, .inr (.inr (.inr (.inl ⟨hr, rfl, hl, hw, hi, t1, x', sz, by rw [h2]⟩)))⟩
    | some .waits, ⟨h1, h2, h3⟩, tz => exact ⟨h1, h3, .inr (.inr (.inr (.inl ⟨hr, rfl, hl, hw, hi, t1, x', sz, by rw [h2]⟩)))⟩
    | some .fin, ct, tz =>
      intro _
      refine ⟨.eightR _, m2 + 1, by omega, ?_, askF_rest ct⟩
      rw [end4 hl]
      exact .inr (.inr (.inr (.inr ⟨_, _, _, rfl, f0 0, f0 2, fun _ => rfl, .inr ⟨rfl, .inr rfl⟩⟩)))
    | some (.part q), ⟨hq, ct⟩, tz =>
      refine ⟨hq, .eightR _, m2 + 1, by omega, ?_, askF_rest ct⟩
      refine .inr (.inr (.inr (.inl ⟨hr, rfl, by rw [take4 hl]; rfl, hw, Nat.succ_pos _, t1, x', sz, ?_⟩)))
      show Box.eightR (.four (withOne M.ns q) true M.bg x') = .eightR (.four (M.take 1 q).ns true M.bg x')
      rw [take4 hl]
  · rw [hr] at e; cases e
/-! ### any trees, drawn -/
section
variable {P : Program} [NoTree P] {w : World} {K : PySem.W.Frag} {mg : Str → Option Value} {base : Heap} {A : Ad}
theorem tame_of {z : Int} (h1 : -100000 ≤ z) (h2 : z ≤ 100000) : tame z := ⟨by omega, by omega⟩
theorem Tree.At.but {H H' : Hp} {N : Addr → Prop} (k : ∀ b o, H b = some o → ¬ N b → H' b = some o) (hN : ∀ b o, N b → H b = some o → (∀ ys, o ≠ .tup ys) ∧ ∀ ob u, o ≠ .frz ob u) : ∀ {t : Tree} {v : Addr}, t.At K H v → t.At K H' v
  | .leaf (.frac _ _), v, h => sqT_but (N := N) h k hN
  | .leaf (.root _ _ _), v, h => sqT_but (N := N) h k hN
  | .leaf (.ruled _ _ _), v, h => by
    obtain ⟨p, q, u, h1, h2, h3, h4⟩ := h
    exact ⟨p, q, u, sqT_but (N := N) h1 k hN, sqT_but (N := N) h2 k hN, sqT_but (N := N) h3 k hN, sqT_but (N := N) h4 k hN⟩
  | .four ns x, v, h => by
    obtain ⟨p, tx, h1, h2, h3⟩ := h
    exact ⟨p, tx, sqT_but (N := N) h1 k hN, sqT_but (N := N) h2 k hN, Tree.At.but k hN h3⟩
  | .eight ns x y, v, h => by
    obtain ⟨p, tx, ty, h1, h2, h3, h4⟩ := h
    exact ⟨p, tx, ty, sqT_but (N := N) h1 k hN, sqT_but (N := N) h2 k hN, Tree.At.but k hN h3, Tree.At.but k hN h4⟩
  | .power x n, v, h => by
    obtain ⟨tx, h1, h2⟩ := h
    exact ⟨tx, sqT_but (N := N) h1 k hN, Tree.At.but k hN h2⟩
theorem Tree.At.row {H H' : Hp} {r a : Addr} {ns : List Int} {t : Tree} {v : Addr} (h : t.At K H v) (R : RowAt K H r a ns) (k : KpR r H H') : t.At K H' v := Tree.At.but (N := fun b => b = r) k (rowNo R) h
theorem tame_fits {z : Int} (h : tame z) : fits z := by
  have h1 := h.1
  have h2 := h.2
  have e : (2 : Nat) ^ 40 = 1099511627776 := by decide
  exact fits_of (Nat.lt_of_lt_of_le (show z.natAbs < 2 ^ 40 by omega) (Nat.pow_le_pow_right (by decide) (by decide)))
def sp_law_apart (K : PySem.W.Frag) : Sp := fun vs H Q _ => ∃ (p : Addr) (ns : List Int), vs = [.ref p] ∧ SqT K H p (ns.map V.int) ∧ (ns.length = 4 ∨ ns.length = 8) ∧ (∀ z ∈ ns, tame z) ∧ (Crossed ns → Q (.bl true) H) ∧ Q (.bl false) H
theorem ok_law_apart (T : CT K mg A) (D : DT K mg A) : COk P w K mg base CX0 1 "_law_apart" ["_law_some"] (sp_law_apart K) := by
  refine COk.by D.law_apart fun f fd F => ?_
  refine F.ok sc_law_apart (fun vs H Q E h => ?_) (fun cdv Ar outer s H vs Q E hr h => ?_)
  · obtain ⟨p, ns, rfl, _⟩ := h
    rfl
  · obtain ⟨p, es, rfl, hp, hl, ht, k1, k2⟩ := h
    refine ⟨_, (pss_cons (ps_set (i := 1) sc_law_apart.nd rfl (Or.inl rfl) (pe_op op_fdiv (pe_callB call_len_seq (by rfl) T.b_len (by decide +kernel) (pa_cons (pv 0) pa_nil)) pe_int))
    (pss_cons (ps_for PassesOwn.never rfl (pi_range1 rfl T.b_range (pa_cons (pv 1) pa_nil)) (pg_name (i := 2) sc_law_apart.nd rfl (Or.inl rfl))
      (pss_one (ps_for PassesOwn.never rfl (pi_range1 rfl T.b_range (pa_cons (pv 2) pa_nil)) (pg_name (i := 3) sc_law_apart.nd rfl (Or.inl rfl))
      (pss_one (ps_if (pt_cmpR op_ne (pe_op op_mulW (pe_ix ix_tup (pv 0) (pv 2) (fun _ _ => rfl)) (pe_ix ix_tup (pv 0) (pe_op op_add (pv 1) (pv 3)) (fun _ _ => rfl))) (pe_op op_mulW (pe_ix ix_tup (pv 0) (pv 3) (fun _ _ => rfl)) (pe_ix ix_tup (pv 0) (pe_op op_add (pv 1) (pv 2)) (fun _ _ => rfl))) (nomark _))
      (pss_one (ps_ret pe_bl)) pss_nil)))))
    (pss_one (ps_ret pe_bl)))), ?_⟩
    obtain ⟨n, hn, n4⟩ : ∃ n : Nat, es.length = 2 * n ∧ n ≤ 4 := by
      rcases hl with h | h
      · exact ⟨2, by omega, by decide⟩
      · exact ⟨4, by omega, by decide⟩
    have e1 : (((es.map V.int).length : Nat) : Int) / 2 = ((n : Nat) : Int) := by rw [List.length_map, hn]; omega
    refine ⟨_, rfl, p, _, rfl, .inr hp, _, _, rfl, rfl, ⟨by decide, by decide⟩, ?_⟩
    show tSeq _ _ _ [some (V.ref p), some (V.int ((((es.map V.int).length : Nat) : Int) / 2)), none, none] H
    rw [e1]
    refine ⟨_, rfl, (n : Int), rfl, by omega, by omega, for_range (lo := 0) (n := n) (fun i σ H' => ∃ v5 v6 : Option V, σ = [some (V.ref p), some (.int (n : Int)), v5, v6] ∧ H = H') ⟨none, none, rfl, rfl⟩ ?_ ?_⟩
    · rintro i σ H' hi ⟨v5, v6, rfl, rfl⟩
      refine ⟨_, rfl, (i : Int), by rw [Int.zero_add], by omega, by omega, for_range (lo := 0) (n := i) (fun j σ H' => ∃ v6 : Option V, σ = [some (V.ref p), some (.int (n : Int)), some (.int (0 + (i : Int))), v6] ∧ H = H') ⟨v6, rfl, rfl⟩ ?_ ?_⟩
      · rintro j σ H' hj ⟨v6, rfl, rfl⟩
        have hi8 : i < es.length := by omega
        have hj8 : j < es.length := by omega
        have hi4 : n + i < es.length := by omega
        have hj4 : n + j < es.length := by omega
        have sm : ∀ n, n < es.length → fits (es.getD n 0) := fun n h => tame_fits (ht _ (by
          have e : es.getD n 0 = es[n] := by simp [List.getD, h]
          rw [e]
          exact List.getElem_mem h))
        have cm : ∀ n m, n < es.length → m < es.length → CMulW (es.getD n 0) (es.getD m 0) := fun n m h1 h2 => fits_mul (sm n h1) (sm m h2)
        refine ⟨_, rfl, _, rfl, p, _, _, _, rfl, rfl, hp, at_of (j := i) (by omega) (int_at hi8), ?_⟩
        refine ⟨_, rfl, _, rfl, _, rfl, _, _, rfl, rfl, p, _, _, _, rfl, rfl, hp, at_of (j := n + j) (by omega) (int_at hj4), _, _, rfl, rfl, cm _ _ hi8 hj4, ?_⟩
        refine ⟨_, rfl, _, rfl, p, _, _, _, rfl, rfl, hp, at_of (j := j) (by omega) (int_at hj8), ?_⟩
        refine ⟨_, rfl, _, rfl, _, rfl, _, _, rfl, rfl, p, _, _, _, rfl, rfl, hp, at_of (j := n + i) (by omega) (int_at hi4), _, _, rfl, rfl, cm _ _ hj8 hi4, ?_⟩
        refine ⟨rfl, _, rfl, ite2 (fun c => ?_) (fun c => ?_)⟩
        · refine k1 ⟨i, j, hj, by omega, ?_⟩
          have e4 : es.length / 2 = n := by omega
          rw [e4, Nat.add_comm j n, Nat.add_comm i n]
          intro z
          rw [decide_eq_true (congrArg V.int z)] at c
          cases c
        · exact ⟨_, rfl, rfl⟩
      · rintro σ H' ⟨v6, rfl, rfl⟩
        exact ⟨_, _, rfl, rfl⟩
    · rintro σ H' ⟨v5, v6, rfl, rfl⟩
      exact k2
/-- numbers of a four or of an eight -/
def Nums (m : Nat) (es : List Int) : Prop := es.length = m ∧ (∀ z ∈ es, tame z) ∧ Crossed es
def sp_law_numbers (K : PySem.W.Frag) : Sp := fun vs H Q _ => ∃ (r a : Addr) (ns : List Int) (m : Nat), vs = [.ref r, .int m] ∧ (m = 4 ∨ m = 8) ∧ RowAt K H r a ns ∧
  ∀ p es H', SqT K H' p (es.map V.int) → Nums m es → RowAt K H' r a ns → KpR r H H' → Q (.ref p) H'
theorem ok_law_numbers (T : CT K mg A) (D : DT K mg A) (G_law_taken : COk P w K mg base CX0 1 "_law_taken" ["_law_row_here", "_law_many"] (sp_law_taken K)) (G_law_signed : COk P w K mg base CX0 2 "_law_signed" ["_law_row_here", "_law_most"] (sp_law_signed K)) (G_law_apart : COk P w K mg base CX0 1 "_law_apart" ["_law_some"] (sp_law_apart K)) : COk P w K mg base CX0 3 "_law_numbers" ["_law_row_here", "_law_many"] (sp_law_numbers K) := by
  refine COk.by D.law_numbers fun f fd F => ?_
  refine F.ok sc_law_numbers (fun vs H Q E h => ?_) (fun cdv Ar outer s H vs Q E hr h => ?_)
  · obtain ⟨r, a, ns, m, rfl, _⟩ := h
    rfl
  · obtain ⟨r, a, ns, m, rfl, hm, R, k⟩ := h
    refine ⟨_, (pss_cons (ps_set (i := 2) sc_law_numbers.nd rfl (Or.inr rfl) (pe_ix (show IxR _ (rIxL K) from ix_list) (pe_lst (pa_cons pe_int (pa_cons pe_int (pa_cons pe_int (pa_cons pe_int (pa_cons (pe_powc (v := 1000000000000) (by decide) ⟨by decide, by decide, by decide⟩) pa_nil)))))) (pe_c G_law_taken (hr.mono (by first | decide | omega)) (pa_cons (pv 0) (pa_cons pe_int pa_nil))) (fun _ _ => rfl)))
    (pss_cons (ps_set (i := 3) sc_law_numbers.nd rfl (Or.inl rfl) (pe_callTy call_tuple_of (by rfl) T.b_tuple (by decide +kernel) (pa_cons (pe_lc (own := [("_law_k", 4)]) (g := gName 4) (tt := tYes) rfl sc_law_numbers.nd (pi_range1 rfl T.b_range (pa_cons (pv 1) pa_nil)) (blkOk_by (own := [("_law_k", 4)]) (N := ["_law_row_here", "_law_many", "_law_most", "_law_found", "_law_k", "_law_some"]) (sc := defScope s_law_numbers) (by decide +kernel)) (fun _ _ _ _ _ => (pg_name (i := 4) sc_law_numbers.nd rfl (Or.inl rfl))) (fun _ _ _ _ _ => pts_nil) (fun _ _ _ _ _ => (pe_c G_law_signed (hr.mono (by first | decide | omega)) (pa_cons (pv 0) (pa_cons (pv 2) pa_nil))))) pa_nil)))
    (C8.pss_cut (ps_if (PW.pt (pw_and (pt_cmpR op_eq (pv 1) pe_int (nomark _)) (pw_and1 (pt_cmpR op_eq (pe_c G_law_taken (hr.mono (by first | decide | omega)) (pa_cons (pv 0) (pa_cons pe_int pa_nil))) pe_int (nomark _)))))
      (pss_cons (ps_set (i := 5) sc_law_numbers.nd rfl (Or.inl rfl) (pe_lst (pa_cons (pe_tup (pa_cons pe_int (pa_cons pe_int (pa_cons pe_int (pa_cons pe_int (pa_cons pe_int (pa_cons pe_int (pa_cons pe_int (pa_cons pe_int pa_nil))))))))) (pa_cons (pe_tup (pa_cons pe_int (pa_cons pe_int (pa_cons pe_int (pa_cons pe_int (pa_cons pe_int (pa_cons pe_int (pa_cons pe_int (pa_cons pe_int pa_nil))))))))) (pa_cons (pe_tup (pa_cons pe_int (pa_cons pe_int (pa_cons (pe_un un_neg pe_int) (pa_cons pe_int (pa_cons pe_int (pa_cons pe_int (pa_cons pe_int (pa_cons pe_int pa_nil))))))))) (pa_cons (pe_tup (pa_cons pe_int (pa_cons pe_int (pa_cons pe_int (pa_cons pe_int (pa_cons pe_int (pa_cons pe_int (pa_cons pe_int (pa_cons pe_int pa_nil))))))))) pa_nil))))))
    (pss_one (ps_set (i := 3) sc_law_numbers.nd rfl (Or.inl rfl) (pe_ix ix_list (pv 5) (pe_c G_law_taken (hr.mono (by first | decide | omega)) (pa_cons (pv 0) (pa_cons pe_int pa_nil))) (fun _ _ => rfl))))) pss_nil)
    (pss_cons (ps_if (pt_not (pt_val (pe_c G_law_apart (hr.mono (by first | decide | omega)) (pa_cons (pv 3) pa_nil))))
      (pss_one (ps_ret (pe_ix ix_list (pe_lst (pa_cons (pe_tup (pa_cons pe_int (pa_cons pe_int (pa_cons pe_int (pa_cons pe_int pa_nil))))) (pa_cons (pe_tup (pa_cons pe_int (pa_cons pe_int (pa_cons pe_int (pa_cons pe_int (pa_cons pe_int (pa_cons pe_int (pa_cons pe_int (pa_cons pe_int pa_nil))))))))) pa_nil))) (pe_op op_fdiv (pv 1) pe_int) (fun _ _ => rfl)))) pss_nil)
    (pss_one (ps_ret (pv 3))))))), ?_⟩
    have wd : ∀ z : Int, z ≤ 1000 → z < 2 ^ 8000 := fun z hz => Int.lt_of_le_of_lt hz (by decide +kernel)
    have m8 : (m : Int) ≤ 8 := by omega
    -- how great
    refine ⟨(by show 5 ≤ sizeLine; decide), fun lm nlm => ?_⟩
    have s0 := same_upd (o := .lst [V.int 2, .int 4, .int 4, .int 30, .int 1000000000000]) nlm
    have hlm : (upd H lm (.lst [V.int 2, .int 4, .int 4, .int 30, .int 1000000000000])) lm = some (.lst [V.int 2, .int 4, .int 4, .int 30, .int 1000000000000]) := upd_same
    have R0 := R.same s0
    have nlr : lm ≠ r := by
      obtain ⟨x, xs, e⟩ := R.at_
      exact (ne_of_none e nlm).symm
    generalize upd H lm (.lst [V.int 2, .int 4, .int 4, .int 30, .int 1000000000000]) = H0 at *
    refine ⟨_, rfl, r, a, ns, _, rfl, R0, by decide, wd _ (by decide), fun v H1 v0 v1 R1 kp1 => ?_⟩
    obtain ⟨most, em, mo0, mo1⟩ : ∃ most : Int, atI [V.int 2, .int 4, .int 4, .int 30, .int 1000000000000] v = some (.int most) ∧ 0 ≤ most ∧ most ≤ 1000000000000 := by
      obtain e | e | e | e | e : v = 0 ∨ v = 1 ∨ v = 2 ∨ v = 3 ∨ v = 4 := by omega
      all_goals subst e
      · exact ⟨2, rfl, by decide, by decide⟩
      · exact ⟨4, rfl, by decide, by decide⟩
      · exact ⟨4, rfl, by decide, by decide⟩
      · exact ⟨30, rfl, by decide, by decide⟩
      · exact ⟨1000000000000, rfl, by decide, by decide⟩
    refine ⟨lm, _, _, _, rfl, rfl, SqL.of (kp1 _ _ hlm nlr), em, ?_⟩
    have kp01 : KpR r H H1 := (KpR.same s0).trans kp1
    -- the numbers
    refine ⟨_, rfl, (m : Int), rfl, by omega, by omega, fun D0 nD => lc_range (lo := 0) (n := m) (fun i H' => ∃ zs : List Int, H' D0 = some (.lst (zs.map V.int)) ∧ zs.length = i ∧ (∀ z ∈ zs, tame z) ∧ RowAt K H' r a ns ∧ KpR r H1 H') ?_ ?_ ?_⟩
    · exact ⟨[], upd_same, rfl, (fun z hz => by cases hz), R1.same (same_upd nD), KpR.same (same_upd nD)⟩
    · rintro i H' hi ⟨zs, hD, hz1, hz2, R', k'⟩
      have nDr : D0 ≠ r := by
        obtain ⟨x, xs, e⟩ := R'.at_
        exact ne_of hD e (by intro z; exact ref_ne zs (HO.lst.inj z).symm)
      refine ⟨rfl, _, rfl, _, rfl, r, a, ns, most, rfl, R', mo0, by omega, fun t H'' t0 t1 R'' kp'' => ?_⟩
      have hD2 := kp'' D0 _ hD nDr
      refine ⟨_, hD2, ?_, zs ++ [t], ?_, ?_, ?_, R''.put hD2 nDr, KpR.put (k'.trans kp'') nD rfl⟩
      · rw [List.length_map]
        exact Nat.lt_of_lt_of_le (show zs.length < 20 by omega) (by decide)
      · rw [upd_same, List.map_append]
        rfl
      · rw [List.length_append, hz1]
        rfl
      · intro z hz
        rcases List.mem_append.mp hz with hz | hz
        · exact hz2 z hz
        · have e := List.mem_singleton.mp hz
          exact ⟨by omega, by omega⟩
    rintro H3 ⟨es, hD3, hz1, hz2, R3, kp3⟩
    refine ⟨D0, _, rfl, .inl ⟨SqL.of hD3, fun p np => ?_⟩⟩
    have s5 := same_upd (o := .tup (es.map V.int)) np
    have hp : SqT K (upd H3 p (.tup (es.map V.int))) p (es.map V.int) := SqT.of upd_same
    have R4 := R3.same s5
    have kp4 : KpR r H (upd H3 p (.tup (es.map V.int))) := (kp01.trans kp3).trans (KpR.same s5)
    generalize upd H3 p (.tup (es.map V.int)) = H4 at *
    refine ⟨fun σ H' => ∃ (p : Addr) (es : List Int) (v5 : Option V), σ = [some (.ref r), some (.int (m : Int)), some (.int most), some (.ref p), none, v5] ∧ SqT K H' p (es.map V.int) ∧ es.length = m ∧ (∀ z ∈ es, tame z) ∧ RowAt K H' r a ns ∧ KpR r H H', ?_, ?_⟩
    · have stay : ∀ {H5 : Hp}, KpR r H4 H5 → RowAt K H5 r a ns → ∃ (p' : Addr) (es : List Int) (v5 : Option V), [some (V.ref r), some (.int (m : Int)), some (.int most), some (.ref p), none, none] = [some (.ref r), some (.int (m : Int)), some (.int most), some (.ref p'), none, v5] ∧ SqT K H5 p' (es.map V.int) ∧ es.length = m ∧ (∀ z ∈ es, tame z) ∧ RowAt K H5 r a ns ∧ KpR r H H5 := fun {H5} kp R5 => ⟨p, es, none, rfl, sqT_row hp R4 kp, hz1, hz2, R5, kp4.trans kp⟩
      refine ⟨_, rfl, rfl, _, rfl, ite2 (fun c1 => ?_) (fun c1 => stay (KpR.same (Same.refl _)) R4)⟩
      have em8 : m = 8 := by have := V.int.inj (of_decide_eq_true c1); omega
      refine ⟨_, rfl, r, a, ns, _, rfl, R4, by decide, wd _ (by decide), fun v H5 v0 v1 R5 kp5 => ?_⟩
      refine ⟨rfl, _, rfl, ite2 (fun c2 => ?_) (fun c2 => stay kp5 R5)⟩
      refine ⟨(by show 8 ≤ sizeLine; decide), fun t0 n0 => ⟨(by show 8 ≤ sizeLine; decide), fun t1 n1 => ⟨_, rfl, (by show 8 ≤ sizeLine; decide), fun t2 n2 => ⟨(by show 8 ≤ sizeLine; decide), fun t3 n3 => ⟨(by show 4 ≤ sizeLine; decide), fun l nl => ?_⟩⟩⟩⟩⟩
      have s0 := same_upd (o := .tup [V.int 0, .int 1, .int 1, .int 0, .int 0, .int 0, .int 0, .int 1]) n0
      have s1 := same_upd (o := .tup [V.int 1, .int 0, .int 0, .int 0, .int 0, .int 0, .int 0, .int 1]) n1
      have s2 := same_upd (o := .tup [V.int 0, .int 1, .int (-1), .int 0, .int 0, .int 0, .int 0, .int 1]) n2
      have s3 := same_upd (o := .tup [V.int 0, .int 1, .int 0, .int 0, .int 0, .int 0, .int 1, .int 0]) n3
      have s4 := same_upd (o := .lst [V.ref t0, .ref t1, .ref t2, .ref t3]) nl
      have h0 := sqT_same (K := K) (SqT.of upd_same) (((s1.trans s2).trans s3).trans s4)
      have h1 := sqT_same (K := K) (SqT.of upd_same) ((s2.trans s3).trans s4)
      have h2 := sqT_same (K := K) (SqT.of upd_same) (s3.trans s4)
      have h3 := sqT_same (K := K) (SqT.of upd_same) s4
      have hl := upd_at s4
      have ss := (((s0.trans s1).trans s2).trans s3).trans s4
      have R6 := R5.same ss
      have kp6 : KpR r H _ := (kp4.trans kp5).trans (KpR.same ss)
      have nlr : l ≠ r := by
        obtain ⟨x, xs, e⟩ := R5.at_
        exact (ne_of_none ((((s0.trans s1).trans s2).trans s3) _ _ e) nl).symm
      generalize upd (upd (upd (upd (upd H5 t0 _) t1 _) t2 _) t3 _) l _ = H6 at *
      refine ⟨_, rfl, _, rfl, r, a, ns, _, rfl, R6, by decide, wd _ (by decide), fun v H7 v0 v1 R7 kp7 => ?_⟩
      have hl7 := kp7 l _ hl nlr
      obtain e | e | e | e : v = 0 ∨ v = 1 ∨ v = 2 ∨ v = 3 := by omega
      all_goals subst e
      · exact ⟨l, _, _, _, rfl, rfl, SqL.of hl7, rfl, t0, [0, 1, 1, 0, 0, 0, 0, 1], some (.ref l), rfl, sqT_row h0 R6 kp7, by rw [em8]; rfl, fun z hz => tame_of (by have := dr0.2.1 z hz; omega) (by have := dr0.2.1 z hz; omega), R7, kp6.trans kp7⟩
      · exact ⟨l, _, _, _, rfl, rfl, SqL.of hl7, rfl, t1, [1, 0, 0, 0, 0, 0, 0, 1], some (.ref l), rfl, sqT_row h1 R6 kp7, by rw [em8]; rfl, fun z hz => tame_of (by have := dr1.2.1 z hz; omega) (by have := dr1.2.1 z hz; omega), R7, kp6.trans kp7⟩
      · exact ⟨l, _, _, _, rfl, rfl, SqL.of hl7, rfl, t2, [0, 1, -1, 0, 0, 0, 0, 1], some (.ref l), rfl, sqT_row h2 R6 kp7, by rw [em8]; rfl, fun z hz => tame_of (by have := dr2.2.1 z hz; omega) (by have := dr2.2.1 z hz; omega), R7, kp6.trans kp7⟩
      · exact ⟨l, _, _, _, rfl, rfl, SqL.of hl7, rfl, t3, [0, 1, 0, 0, 0, 0, 1, 0], some (.ref l), rfl, sqT_row h3 R6 kp7, by rw [em8]; rfl, fun z hz => tame_of (by have := dr3.2.1 z hz; omega) (by have := dr3.2.1 z hz; omega), R7, kp6.trans kp7⟩
    · rintro σ H5 ⟨p, es, v5, rfl, hp5, hz1, hz2, R5, kp5⟩
      refine ⟨_, rfl, p, es, rfl, hp5, (by omega), hz2, fun cr => ?_, ?_⟩
      · exact ⟨_, rfl, iteF ⟨_, rfl, k p es H5 hp5 ⟨hz1, hz2, cr⟩ R5 kp5⟩⟩
      · refine ⟨_, rfl, iteT ?_⟩
        refine ⟨(by show 4 ≤ sizeLine; decide), fun t0 n0 => ⟨(by show 8 ≤ sizeLine; decide), fun t1 n1 => ⟨(by show 2 ≤ sizeLine; decide), fun l nl => ?_⟩⟩⟩
        have s0 := same_upd (o := .tup [V.int 1, .int 2, .int 0, .int 1]) n0
        have s1 := same_upd (o := .tup [V.int 0, .int 1, .int 1, .int 0, .int 0, .int 0, .int 0, .int 1]) n1
        have s2 := same_upd (o := .lst [V.ref t0, .ref t1]) nl
        have h0 := sqT_same (K := K) (SqT.of upd_same) (s1.trans s2)
        have h1 := sqT_same (K := K) (SqT.of upd_same) s2
        have hl := upd_at s2
        have ss := (s0.trans s1).trans s2
        have R6 := R5.same ss
        have kp6 := kp5.trans (KpR.same ss)
        generalize upd (upd (upd H5 t0 _) t1 _) l _ = H6 at *
        rcases hm with e | e
        · subst e
          exact ⟨_, rfl, _, _, rfl, rfl, ⟨by decide, by decide⟩, l, _, 0, _, rfl, rfl, SqL.of hl, rfl, k t0 [1, 2, 0, 1] H6 h0 ⟨rfl, fun z hz => (by simp only [List.mem_cons, List.not_mem_nil, or_false] at hz; exact tame_of (by omega) (by omega)), 1, 0, by decide, by decide, by decide⟩ R6 kp6⟩
        · subst e
          exact ⟨_, rfl, _, _, rfl, rfl, ⟨by decide, by decide⟩, l, _, 1, _, rfl, rfl, SqL.of hl, rfl, k t1 [0, 1, 1, 0, 0, 0, 0, 1] H6 h1 ⟨rfl, fun z hz => (by simp only [List.mem_cons, List.not_mem_nil, or_false] at hz; exact tame_of (by omega) (by omega)), dr0.2.2⟩ R6 kp6⟩
end
/-! ### any leaf, any tree -/
section
variable {P : Program} [NoTree P] {w : World} {K : PySem.W.Frag} {mg : Str → Option Value} {base : Heap} {A : Ad}
def sp_any_leaf (K : PySem.W.Frag) : Sp := fun vs H Q _ => ∃ (r a : Addr) (ns : List Int), vs = [.ref r] ∧ RowAt K H r a ns ∧ ∀ v f H', Leaf.At K H' v f → f.Good → RowAt K H' r a ns → KpR r H H' → Q (.ref v) H'
theorem ok_any_leaf (T : CT K mg A) (D : DT K mg A) (G_law_taken : COk P w K mg base CX0 1 "_law_taken" ["_law_row_here", "_law_many"] (sp_law_taken K)) (G_law_signed : COk P w K mg base CX0 2 "_law_signed" ["_law_row_here", "_law_most"] (sp_law_signed K)) : COk P w K mg base CX0 4 "_law_any_leaf" ["_law_row_here"] (sp_any_leaf K) := by
  have G_law_ruled := ok_law_ruled (P := P) (w := w) (base := base) T D G_law_taken G_law_signed
  refine COk.by D.law_any_leaf fun f fd F => ?_
  refine F.ok sc_law_any_leaf (fun vs H Q E h => ?_) (fun cdv Ar outer s H vs Q E hr h => ?_)
  · obtain ⟨r, a, ns, rfl, _⟩ := h
    rfl
  · obtain ⟨r, a, ns, rfl, R, k⟩ := h
    refine ⟨_, (pss_cons (ps_set (i := 1) sc_law_any_leaf.nd rfl (Or.inl rfl) (pe_c G_law_taken (hr.mono (by first | decide | omega)) (pa_cons (pv 0) (pa_cons pe_int pa_nil))))
    (pss_cons (ps_if (pt_cmpR op_eq (pv 1) pe_int (nomark _))
      (pss_one (ps_ret (pe_c G_law_ruled (hr.mono (by first | decide | omega)) (pa_cons (pv 0) pa_nil)))) pss_nil)
    (pss_cons (ps_set (i := 2) sc_law_any_leaf.nd rfl (Or.inl rfl) (pe_c G_law_signed (hr.mono (by first | decide | omega)) (pa_cons (pv 0) (pa_cons (pe_ix (show IxR _ (rIxL K) from ix_list) (pe_lst (pa_cons pe_int (pa_cons pe_int (pa_cons (pe_powc (v := 1000000000000) (by decide) ⟨by decide, by decide, by decide⟩) pa_nil)))) (pe_c G_law_taken (hr.mono (by first | decide | omega)) (pa_cons (pv 0) (pa_cons pe_int pa_nil))) (fun _ _ => rfl)) pa_nil))))
    (pss_cons (ps_set (i := 3) sc_law_any_leaf.nd rfl (Or.inl rfl) (pe_c G_law_signed (hr.mono (by first | decide | omega)) (pa_cons (pv 0) (pa_cons (pe_ix (show IxR _ (rIxL K) from ix_list) (pe_lst (pa_cons pe_int (pa_cons pe_int (pa_cons pe_int (pa_cons (pe_powc (v := 1000000000000) (by decide) ⟨by decide, by decide, by decide⟩) pa_nil))))) (pe_c G_law_taken (hr.mono (by first | decide | omega)) (pa_cons (pv 0) (pa_cons pe_int pa_nil))) (fun _ _ => rfl)) pa_nil))))
    (C8.pss_cut (ps_if (pt_cmpR op_eq (pv 3) pe_int (nomark _))
      (pss_one (ps_set (i := 3) sc_law_any_leaf.nd rfl (Or.inl rfl) pe_int)) pss_nil)
    (pss_cons (ps_if (pt_cmpR op_eq (pv 1) pe_int (nomark _))
      (pss_one (ps_ret (pe_tup (pa_cons pe_str (pa_cons (pv 2) (pa_cons (pv 3) pa_nil)))))) pss_nil)
    (pss_cons (ps_set (i := 4) sc_law_any_leaf.nd rfl (Or.inl rfl) (pe_c G_law_taken (hr.mono (by first | decide | omega)) (pa_cons (pv 0) (pa_cons (pe_ix (show IxR _ (rIxL K) from ix_list) (pe_lst (pa_cons pe_int (pa_cons pe_int (pa_cons (pe_powc (v := 1000000000000) (by decide) ⟨by decide, by decide, by decide⟩) pa_nil)))) (pe_c G_law_taken (hr.mono (by first | decide | omega)) (pa_cons (pv 0) (pa_cons pe_int pa_nil))) (fun _ _ => rfl)) pa_nil))))
    (C8.pss_cut (ps_if (pt_cmpR op_eq (pe_c G_law_taken (hr.mono (by first | decide | omega)) (pa_cons (pv 0) (pa_cons pe_int pa_nil))) pe_int (nomark _))
      (pss_one (ps_set (i := 4) sc_law_any_leaf.nd rfl (Or.inl rfl) (pe_op op_sq (pe_op op_mod (pv 4) (pe_powc (v := 1000000) (by decide) ⟨by decide, by decide, by decide⟩)) pe_int))) pss_nil)
    (pss_one (ps_ret (pe_tup (pa_cons pe_str (pa_cons (pv 2) (pa_cons (pv 4) (pa_cons (pv 3) pa_nil))))))))))))))), ?_⟩
    have wd : ∀ z : Int, z ≤ 1000000000000 → z < 2 ^ 8000 := fun z hz => Int.lt_of_le_of_lt hz (by decide +kernel)
    refine ⟨_, rfl, r, a, ns, _, rfl, R, by decide, wd _ (by decide), fun way H1 w0 w1 R1 kp1 => ?_⟩
    refine ⟨_, rfl, rfl, _, rfl, ite2 (fun c => ?_) (fun c => ?_)⟩
    · exact ⟨_, rfl, r, a, ns, rfl, R1, fun v ps ring steps H2 hv dr R2 kp2 => k v _ H2 hv dr.toRuledGood R2 (KpR.trans kp1 kp2)⟩
    -- the top
    refine ⟨_, rfl, (by show 3 ≤ sizeLine; decide), fun l1 n1 => ?_⟩
    have s1 := same_upd (o := .lst [V.int 9, .int 60, .int 1000000000000]) n1
    have h1 := upd_at s1
    have R1' := R1.same s1
    have nl1 : l1 ≠ r := by
      obtain ⟨x, xs, e⟩ := R1.at_
      exact (ne_of_none e n1).symm
    have kp1' : KpR r H _ := KpR.trans kp1 (KpR.same s1)
    generalize upd H1 l1 (.lst [V.int 9, .int 60, .int 1000000000000]) = H1' at *
    refine ⟨_, rfl, r, a, ns, _, rfl, R1', by decide, wd _ (by decide), fun v H2 v0 v1 R2 kp2 => ?_⟩
    obtain ⟨m1, em1, mo1, mo1'⟩ : ∃ most : Int, atI [V.int 9, .int 60, .int 1000000000000] v = some (.int most) ∧ 0 ≤ most ∧ most ≤ 1000000000000 := by
      obtain e | e | e : v = 0 ∨ v = 1 ∨ v = 2 := by omega
      all_goals subst e
      · exact ⟨9, rfl, by decide, by decide⟩
      · exact ⟨60, rfl, by decide, by decide⟩
      · exact ⟨1000000000000, rfl, by decide, by decide⟩
    refine ⟨l1, _, _, _, rfl, rfl, SqL.of (kp2 _ _ h1 nl1), em1, r, a, ns, m1, rfl, R2, mo1, by omega, fun top H3 t0 t1 R3 kp3 => ?_⟩
    have kp03 : KpR r H H3 := (KpR.trans kp1' (KpR.trans kp2 kp3))
    -- below
    refine ⟨_, rfl, (by show 4 ≤ sizeLine; decide), fun l2 n2 => ?_⟩
    have s2 := same_upd (o := .lst [V.int 3, .int 9, .int 60, .int 1000000000000]) n2
    have h2 := upd_at s2
    have R3' := R3.same s2
    have nl2 : l2 ≠ r := by
      obtain ⟨x, xs, e⟩ := R3.at_
      exact (ne_of_none e n2).symm
    have kp3' : KpR r H _ := KpR.trans kp03 (KpR.same s2)
    generalize upd H3 l2 (.lst [V.int 3, .int 9, .int 60, .int 1000000000000]) = H3' at *
    refine ⟨_, rfl, r, a, ns, _, rfl, R3', by decide, wd _ (by decide), fun v H4 v0 v1 R4 kp4 => ?_⟩
    obtain ⟨m2, em2, mo2, mo2'⟩ : ∃ most : Int, atI [V.int 3, .int 9, .int 60, .int 1000000000000] v = some (.int most) ∧ 0 ≤ most ∧ most ≤ 1000000000000 := by
      obtain e | e | e | e : v = 0 ∨ v = 1 ∨ v = 2 ∨ v = 3 := by omega
      all_goals subst e
      · exact ⟨3, rfl, by decide, by decide⟩
      · exact ⟨9, rfl, by decide, by decide⟩
      · exact ⟨60, rfl, by decide, by decide⟩
      · exact ⟨1000000000000, rfl, by decide, by decide⟩
    refine ⟨l2, _, _, _, rfl, rfl, SqL.of (kp4 _ _ h2 nl2), em2, r, a, ns, m2, rfl, R4, mo2, by omega, fun bel H5 b0 b1 R5 kp5 => ?_⟩
    have kp05 : KpR r H H5 := (KpR.trans kp3' (KpR.trans kp4 kp5))
    have tt : tame top := ⟨by omega, by omega⟩
    refine ⟨fun σ H' => ∃ b : Int, σ = [some (.ref r), some (.int way), some (.int top), some (.int b), none] ∧ tame b ∧ b ≠ 0 ∧ H' = H5, ?_, ?_⟩
    · refine ⟨_, rfl, rfl, _, rfl, ite2 (fun c2 => ?_) (fun c2 => ?_)⟩
      · exact ⟨2, rfl, tame_of (by decide) (by decide), by decide, rfl⟩
      · exact ⟨bel, rfl, ⟨by omega, by omega⟩, fun z => c2 (decide_eq_true (congrArg V.int z)), rfl⟩
    · rintro σ H' ⟨b, rfl, tb_, bz, rfl⟩
      refine ⟨_, rfl, rfl, _, rfl, ite2 (fun c3 => ?_) (fun c3 => ?_)⟩
      · refine ⟨_, rfl, _, rfl, (by show 3 ≤ sizeLine; decide), fun q nq => ?_⟩
        exact k q (.frac top b) _ (show SqT K _ q _ from SqT.of upd_same) ⟨tt, tb_, bz⟩ (R5.same (same_upd nq)) (kp05.trans (KpR.same (same_upd nq)))
      · -- the square
        refine ⟨_, rfl, (by show 3 ≤ sizeLine; decide), fun l3 n3 => ?_⟩
        have s3 := same_upd (o := .lst [V.int 30, .int 400, .int 1000000000000]) n3
        have h3 := upd_at s3
        have R5' := R5.same s3
        have nl3 : l3 ≠ r := by
          obtain ⟨x, xs, e⟩ := R5.at_
          exact (ne_of_none e n3).symm
        have kp5' : KpR r H _ := KpR.trans kp05 (KpR.same s3)
        generalize upd H' l3 (.lst [V.int 30, .int 400, .int 1000000000000]) = H5' at *
        refine ⟨_, rfl, r, a, ns, _, rfl, R5', by decide, wd _ (by decide), fun v H6 v0 v1 R6 kp6 => ?_⟩
        obtain ⟨m3, em3, mo3, mo3'⟩ : ∃ most : Int, atI [V.int 30, .int 400, .int 1000000000000] v = some (.int most) ∧ 0 < most ∧ most ≤ 1000000000000 := by
          obtain e | e | e : v = 0 ∨ v = 1 ∨ v = 2 := by omega
          all_goals subst e
          · exact ⟨30, rfl, by decide, by decide⟩
          · exact ⟨400, rfl, by decide, by decide⟩
          · exact ⟨1000000000000, rfl, by decide, by decide⟩
        refine ⟨l3, _, _, _, rfl, rfl, SqL.of (kp6 _ _ h3 nl3), em3, r, a, ns, m3, rfl, R6, mo3, wd _ mo3', fun sq H7 q0 q1 R7 kp7 => ?_⟩
        have kp07 : KpR r H H7 := (KpR.trans kp5' (KpR.trans kp6 kp7))
        refine ⟨fun σ H' => ∃ s : Int, σ = [some (.ref r), some (.int way), some (.int top), some (.int b), some (.int s)] ∧ 0 ≤ s ∧ s ≤ 1000000000000 ∧ RowAt K H' r a ns ∧ KpR r H H', ?_, ?_⟩
        · refine ⟨_, rfl, r, a, ns, _, rfl, R7, by decide, wd _ (by decide), fun v H8 v0 v1 R8 kp8 => ?_⟩
          refine ⟨rfl, _, rfl, ite2 (fun c4 => ?_) (fun c4 => ?_)⟩
          · have m0 := Int.emod_nonneg sq (show (1000000 : Int) ≠ 0 by decide)
            have m1 := Int.emod_lt_of_pos sq (show (0 : Int) < 1000000 by decide)
            generalize hm : sq % 1000000 = m at *
            have hsq : CSq m := by
              have hbits : Builtin.Int.intBits m ≤ 20 := PyProof.Rows.intBits_le (natAbs_lt_pow m0 (Int.lt_trans m1 (by decide)))
              have : (2 : Int) ^ 27 = 134217728 := by decide
              show ((Builtin.Int.intBits m : Nat) : Int) * 2 ≤ _
              omega
            have mm := Int.mul_le_mul (show m ≤ 1000000 by omega) (show m ≤ 1000000 by omega) m0 (by decide)
            have mm0 := Int.mul_nonneg m0 m0
            refine ⟨_, rfl, _, _, rfl, rfl, (by show (0 : Int) < 1000000; decide), m, congrArg V.int hm, rfl, hsq, m * m, rfl, mm0, by omega, R8, kp07.trans kp8⟩
          · exact ⟨sq, rfl, q0, by omega, R8, kp07.trans kp8⟩
        · rintro σ H8 ⟨s, rfl, s0, s1, R8, kp8⟩
          refine ⟨_, rfl, _, rfl, _, rfl, (by show 4 ≤ sizeLine; decide), fun q nq => ?_⟩
          exact k q (.root top s b) _ (show SqT K _ q _ from SqT.of upd_same) ⟨tt, ⟨by omega, s1⟩, s0, tb_, bz⟩ (R8.same (same_upd nq)) (kp8.trans (KpR.same (same_upd nq)))
def sp_any (K : PySem.W.Frag) (n : Nat) : Sp := fun vs H Q _ => ∃ (r a : Addr) (ns : List Int) (d : Nat), vs = [.ref r, .int ((d + 1 : Nat) : Int)] ∧ d ≤ n ∧ RowAt K H r a ns ∧ ∀ (v : Addr) (t : Tree) (H' : Hp), t.At K H' v → t.Good → t.ht ≤ d → RowAt K H' r a ns → KpR r H H' → Q (.ref v) H'
def sp_anyP (K : PySem.W.Frag) (n : Nat) : Sp := fun vs H Q E => n ≠ 0 ∧ sp_any K (n - 1) vs H Q E
theorem ok_any_step (T : CT K mg A) (D : DT K mg A) {n : Nat} (hn : n ≤ 3) (G_law_taken : COk P w K mg base CX0 1 "_law_taken" ["_law_row_here", "_law_many"] (sp_law_taken K)) (G_law_any_leaf : COk P w K mg base CX0 4 "_law_any_leaf" ["_law_row_here"] (sp_any_leaf K)) (G_law_numbers : COk P w K mg base CX0 3 "_law_numbers" ["_law_row_here", "_law_many"] (sp_law_numbers K))
    (G_law_any : COk P w K mg base CX0 (5 + n) "_law_any" ["_law_row_here", "_law_deep"] (sp_anyP K n)) : COk P w K mg base CX0 (5 + n + 1) "_law_any" ["_law_row_here", "_law_deep"] (sp_any K n) := by
  refine COk.by D.law_any fun f fd F => ?_
  refine F.ok (k := 5 + n) sc_law_any (fun vs H Q E h => ?_) (fun cdv Ar outer s H vs Q E hr h => ?_)
  · obtain ⟨r, a, ns, d, rfl, _⟩ := h
    rfl
  · obtain ⟨r, a, ns, d, rfl, dn, R, k⟩ := h
    refine ⟨_, (pss_cons (ps_set (i := 2) sc_law_any.nd rfl (Or.inl rfl) (pe_c G_law_taken (hr.mono (by first | decide | omega)) (pa_cons (pv 0) (pa_cons pe_int pa_nil))))
    (pss_cons (ps_if (PW.pt (pw_or (pt_cmpR op_lt (pv 1) pe_int (nomark _)) (pw_or1 (pt_cmpR op_eq (pv 2) pe_int (nomark _)))))
      (pss_one (ps_ret (pe_c G_law_any_leaf (hr.mono (by first | decide | omega)) (pa_cons (pv 0) pa_nil)))) pss_nil)
    (pss_cons (ps_if (pt_cmpR op_lt (pv 2) pe_int (nomark _))
      (pss_cons (ps_set (i := 3) sc_law_any.nd rfl (Or.inl rfl) (pe_c G_law_numbers (hr.mono (by first | decide | omega)) (pa_cons (pv 0) (pa_cons pe_int pa_nil))))
    (pss_one (ps_ret (pe_tup (pa_cons pe_str (pa_cons (pv 3) (pa_cons (pe_c G_law_any (hr.mono (by first | decide | omega)) (pa_cons (pv 0) (pa_cons (pe_op op_sub (pv 1) pe_int) pa_nil))) pa_nil))))))) pss_nil)
    (pss_cons (ps_if (pt_cmpR op_eq (pv 2) pe_int (nomark _))
      (pss_one (ps_ret (pe_tup (pa_cons pe_str (pa_cons (pe_c G_law_any (hr.mono (by first | decide | omega)) (pa_cons (pv 0) (pa_cons (pe_callB (call_min2 rfl) (by rfl) T.b_min (by decide +kernel) (pa_cons (pe_op op_sub (pv 1) pe_int) (pa_cons pe_int pa_nil))) pa_nil))) (pa_cons (pe_op op_add pe_int (pe_c G_law_taken (hr.mono (by first | decide | omega)) (pa_cons (pv 0) (pa_cons pe_int pa_nil)))) pa_nil)))))) pss_nil)
    (pss_cons (ps_set (i := 3) sc_law_any.nd rfl (Or.inl rfl) (pe_c G_law_numbers (hr.mono (by first | decide | omega)) (pa_cons (pv 0) (pa_cons pe_int pa_nil))))
    (pss_cons (ps_set (i := 4) sc_law_any.nd rfl (Or.inl rfl) (pe_c G_law_any (hr.mono (by first | decide | omega)) (pa_cons (pv 0) (pa_cons (pe_op op_sub (pv 1) pe_int) pa_nil))))
    (pss_one (ps_ret (pe_tup (pa_cons pe_str (pa_cons (pv 3) (pa_cons (pv 4) (pa_cons (pe_c G_law_any (hr.mono (by first | decide | omega)) (pa_cons (pv 0) (pa_cons (pe_op op_sub (pv 1) pe_int) pa_nil))) pa_nil))))))))))))), ?_⟩
    have wd : ∀ z : Int, z ≤ 1000 → z < 2 ^ 8000 := fun z hz => Int.lt_of_le_of_lt hz (by decide +kernel)
    refine ⟨_, rfl, r, a, ns, _, rfl, R, by decide, wd _ (by decide), fun way H1 w0 w1 R1 kp1 => ?_⟩
    have leafy : ∀ v f H', Leaf.At K H' v f → f.Good → RowAt K H' r a ns → KpR r H1 H' → Q (.ref v) H' := fun v f H' hv g R' kp' => k v (.leaf f) H' hv g (Nat.zero_le _) R' (KpR.trans kp1 kp')
    refine ⟨_, rfl, _, _, rfl, rfl, _, rfl, ite2 (fun c => ?_) (fun c => ?_)⟩
    · exact iteT ⟨_, rfl, r, a, ns, rfl, R1, leafy⟩
    have d1 : 1 ≤ d := by
      rcases Nat.lt_or_ge d 1 with z | z
      · exfalso
        exact c (decide_eq_true (by omega))
      · exact z
    obtain ⟨e, rfl⟩ : ∃ e, d = e + 1 := ⟨d - 1, by omega⟩
    refine ⟨_, rfl, rfl, _, rfl, ite2 (fun c2 => ⟨_, rfl, r, a, ns, rfl, R1, leafy⟩) (fun c2 => ?_)⟩
    have n0 : n ≠ 0 := by omega
    have ed : (((e + 1 + 1 : Nat) : Int) - 1) = ((e + 1 : Nat) : Int) := by omega
    refine ⟨_, rfl, _, _, rfl, rfl, _, rfl, ite2 (fun c3 => ?_) (fun c3 => ?_)⟩
    · -- a four
      refine ⟨_, rfl, r, a, ns, 4, rfl, .inl rfl, R1, fun p es H2 hp ne R2 kp2 => ?_⟩
      refine ⟨_, rfl, _, rfl, _, rfl, _, _, rfl, rfl, n0, r, a, ns, e, (by show [V.ref r, V.int (((e + 1 + 1 : Nat) : Int) - 1)] = _; rw [ed]), by omega, R2, fun v t H3 ht g hh R3 kp3 => ?_⟩
      refine ⟨(by show 3 ≤ sizeLine; decide), fun q nq => ?_⟩
      have s4 := same_upd (o := .tup [V.str "four", .ref p, .ref v]) nq
      exact k q (.four es t) _ ⟨p, v, SqT.of upd_same, sqT_same (sqT_row hp R2 kp3) s4, ht.same s4⟩ ⟨ne.1, ne.2.1, ne.2.2, g⟩ (by show t.ht + 1 ≤ e + 1; omega) (R3.same s4) (KpR.trans kp1 (KpR.trans kp2 (KpR.trans kp3 (KpR.same s4))))
    refine ⟨_, rfl, rfl, _, rfl, ite2 (fun c4 => ?_) (fun c4 => ?_)⟩
    · -- a power
      obtain ⟨b, hb, be, b1⟩ : ∃ b : Nat, (if (2 : Int) < (((e + 1 + 1 : Nat) : Int) - 1) then (2 : Int) else (((e + 1 + 1 : Nat) : Int) - 1)) = ((b + 1 : Nat) : Int) ∧ b ≤ e ∧ b ≤ 1 := by
        by_cases z : (2 : Int) < (((e + 1 + 1 : Nat) : Int) - 1)
        · exact ⟨1, by rw [if_pos z]; rfl, by omega, by omega⟩
        · exact ⟨e, by rw [if_neg z]; omega, by omega, by omega⟩
      refine ⟨_, rfl, _, rfl, _, _, rfl, rfl, _, _, rfl, n0, r, a, ns, b, (by show [V.ref r, V.int (if (2 : Int) < (((e + 1 + 1 : Nat) : Int) - 1) then (2 : Int) else (((e + 1 + 1 : Nat) : Int) - 1))] = _; rw [hb]), by omega, R1, fun v t H2 ht g hh R2 kp2 => ?_⟩
      refine ⟨_, rfl, r, a, ns, _, rfl, R2, by decide, wd _ (by decide), fun m H3 m0 m1 R3 kp3 => ⟨_, _, rfl, rfl, (by show 3 ≤ sizeLine; decide), fun q nq => ?_⟩⟩
      have s4 := same_upd (o := .tup [V.str "power", .ref v, .int (1 + m)]) nq
      obtain ⟨mn, rfl⟩ : ∃ mn : Nat, m = (mn : Int) := ⟨m.toNat, by omega⟩
      have em : (1 + (mn : Int)) = ((mn + 1 : Nat) : Int) := by omega
      refine k q (.power t (mn + 1)) _ ⟨v, ?_, (ht.row R2 kp3).same s4⟩ ⟨by omega, by omega, g⟩ (by show t.ht + 1 ≤ e + 1; omega) (R3.same s4) (KpR.trans kp1 (KpR.trans kp2 (KpR.trans kp3 (KpR.same s4))))
      rw [← em]
      exact SqT.of upd_same
    · -- an eight
      refine ⟨_, rfl, r, a, ns, 8, rfl, .inr rfl, R1, fun p es H2 hp ne R2 kp2 => ?_⟩
      refine ⟨_, rfl, _, rfl, _, _, rfl, rfl, n0, r, a, ns, e, (by show [V.ref r, V.int (((e + 1 + 1 : Nat) : Int) - 1)] = _; rw [ed]), by omega, R2, fun v t H3 ht g hh R3 kp3 => ?_⟩
      refine ⟨_, rfl, _, rfl, _, rfl, _, rfl, _, _, rfl, rfl, n0, r, a, ns, e, (by show [V.ref r, V.int (((e + 1 + 1 : Nat) : Int) - 1)] = _; rw [ed]), by omega, R3, fun v' t' H4 ht' g' hh' R4 kp4 => ?_⟩
      refine ⟨(by show 4 ≤ sizeLine; decide), fun q nq => ?_⟩
      have s5 := same_upd (o := .tup [V.str "eight", .ref p, .ref v, .ref v']) nq
      exact k q (.eight es t t') _ ⟨p, v, v', SqT.of upd_same, sqT_same (sqT_row (sqT_row hp R2 kp3) R3 kp4) s5, (ht.row R3 kp4).same s5, ht'.same s5⟩ ⟨ne.1, ne.2.1, ne.2.2, g, g'⟩ (by show max t.ht t'.ht + 1 ≤ e + 1; omega) (R4.same s5) (KpR.trans kp1 (KpR.trans kp2 (KpR.trans kp3 (KpR.trans kp4 (KpR.same s5)))))
theorem ok_any (T : CT K mg A) (D : DT K mg A) (G_law_taken : COk P w K mg base CX0 1 "_law_taken" ["_law_row_here", "_law_many"] (sp_law_taken K)) (G_law_any_leaf : COk P w K mg base CX0 4 "_law_any_leaf" ["_law_row_here"] (sp_any_leaf K)) (G_law_numbers : COk P w K mg base CX0 3 "_law_numbers" ["_law_row_here", "_law_many"] (sp_law_numbers K)) :
    ∀ n, n ≤ 3 → COk P w K mg base CX0 (5 + n + 1) "_law_any" ["_law_row_here", "_law_deep"] (sp_any K n)
  | 0, h => ok_any_step T D h G_law_taken G_law_any_leaf G_law_numbers (cok_no D.law_any fun _ _ _ _ z => z.1 rfl)
  | n + 1, h => by
    have ih := ok_any T D G_law_taken G_law_any_leaf G_law_numbers n (by omega)
    refine ok_any_step T D h G_law_taken G_law_any_leaf G_law_numbers (ih.imp fun vs H Q E z => ?_)
    exact z.2
end
/-! ### the machine: a chain has ended -/
section
variable {P : Program} [NoTree P] {w : World} {K : PySem.W.Frag} {mg : Str → Option Value} {base : Heap} {A : Ad}
def sp_law_ended (K : PySem.W.Frag) : Sp := fun vs H Q _ => ∃ (m tk : Addr) (kvs : List (Key × V)) (M : LM) (which : Nat), vs = [.ref m, .int which] ∧ DB K H m tk kvs M ∧ which ≤ 1 ∧ M.rest = none ∧ (M.ns.length = 4 ∨ M.ns.length = 8) ∧ (∀ z ∈ M.ns, fits z) ∧
  ∀ H' kvs', DB K H' m tk kvs' (M.end_ which) → Oth kvs kvs' → FrD m H H' → Q .non H'
theorem ok_law_ended (T : CT K mg A) (D : DT K mg A) : COk P w K mg base CX0 1 "_law_ended" ["_law_m", "_law_which"] (sp_law_ended K) := by
  refine COk.by D.law_ended fun f fd F => ?_
  refine F.ok sc_law_ended (fun vs H Q E h => ?_) (fun cdv Ar outer s H vs Q E hr h => ?_)
  · obtain ⟨m, tk, kvs, M, which, rfl, _⟩ := h
    rfl
  · obtain ⟨m, tk, kvs, M, which, rfl, hM, hwh, hrest, hl, hf, k⟩ := h
    refine ⟨_, (pss_cons (ps_set (i := 2) sc_law_ended.nd rfl (Or.inl rfl) (pe_dget (hu_of hr) (pv 0) pe_str (fun _ _ => rfl)))
    (pss_cons (ps_if (pt_cmpR op_eq (pe_callB call_len_seq (by rfl) T.b_len (by decide +kernel) (pa_cons (pv 2) pa_nil)) pe_int (nomark _))
      (pss_cons (ps_dput (hu_of hr) (pv 0) pe_str (pe_tup (pa_cons (pe_ix ix_tup (pv 2) pe_int (fun _ _ => rfl)) (pa_cons (pe_ix ix_tup (pv 2) pe_int (fun _ _ => rfl)) pa_nil))) rfl)
    (pss_one ps_retN)) pss_nil)
    (pss_cons (ps_set (i := 3) sc_law_ended.nd rfl (Or.inl rfl) (pe_ix ix_list (pe_lst (pa_cons (pe_tup (pa_cons (pe_ix ix_tup (pv 2) pe_int (fun _ _ => rfl)) (pa_cons (pe_ix ix_tup (pv 2) pe_int (fun _ _ => rfl)) (pa_cons (pe_ix ix_tup (pv 2) pe_int (fun _ _ => rfl)) (pa_cons (pe_ix ix_tup (pv 2) pe_int (fun _ _ => rfl)) pa_nil))))) (pa_cons (pe_tup (pa_cons (pe_ix ix_tup (pv 2) pe_int (fun _ _ => rfl)) (pa_cons (pe_ix ix_tup (pv 2) pe_int (fun _ _ => rfl)) (pa_cons (pe_ix ix_tup (pv 2) pe_int (fun _ _ => rfl)) (pa_cons (pe_ix ix_tup (pv 2) pe_int (fun _ _ => rfl)) pa_nil))))) pa_nil))) (pv 1) (fun _ _ => rfl)))
    (pss_one (ps_if (pt_cmpR op_ne (pe_op op_mulW (pe_ix ix_tup (pv 3) pe_int (fun _ _ => rfl)) (pe_ix ix_tup (pv 3) pe_int (fun _ _ => rfl))) (pe_op op_mulW (pe_ix ix_tup (pv 3) pe_int (fun _ _ => rfl)) (pe_ix ix_tup (pv 3) pe_int (fun _ _ => rfl))) (nomark _))
      (pss_cons (ps_dput (hu_of hr) (pv 0) pe_str (pv 3) rfl)
    (pss_one (ps_dput (hu_of hr) (pv 0) pe_str (pe_op op_sub pe_int (pv 1)) rfl))) (pss_one (ps_if (PW.pt (pw_and (pt_cmpR op_eq (pe_ix ix_tup (pv 3) pe_int (fun _ _ => rfl)) pe_int (nomark _)) (pw_and1 (pt_cmpR op_eq (pe_ix ix_tup (pv 3) pe_int (fun _ _ => rfl)) pe_int (nomark _)))))
      (pss_one (ps_dput (hu_of hr) (pv 0) pe_str (pe_tup (pa_cons (pe_ix ix_tup (pv 3) pe_int (fun _ _ => rfl)) (pa_cons (pe_ix ix_tup (pv 3) pe_int (fun _ _ => rfl)) pa_nil))) rfl)) (pss_one (ps_dput (hu_of hr) (pv 0) pe_str (pe_tup (pa_cons (pe_ix ix_tup (pv 3) pe_int (fun _ _ => rfl)) (pa_cons (pe_ix ix_tup (pv 3) pe_int (fun _ _ => rfl)) pa_nil))) rfl))))))))), ?_⟩
    have hM0 := hM
    obtain ⟨em, len, ⟨p, n1, hp⟩, wh, tkn, rst, bgn, ht⟩ := hM
    refine ⟨_, rfl, _, _, rfl, dget em n1, ?_⟩
    rcases hl with hl | hl
    · match hns : M.ns, hl with
      | [a, b, c, d], _ =>
      rw [hns] at hp hf
      have eE : M.end_ which = { M with rest := some (a, c) } := by
        unfold LM.end_
        rw [if_pos (by rw [hns]; rfl), hns]
        rfl
      rw [eE] at k
      refine ⟨_, rfl, p, _, rfl, .inr hp, rfl, _, rfl, iteT ?_⟩
      refine ⟨_, rfl, p, _, 0, _, rfl, rfl, hp, atI_nat (j := 0) rfl, _, rfl, p, _, 2, _, rfl, rfl, hp, atI_nat (j := 2) rfl, (by show 2 ≤ sizeLine; decide), fun q nq => ?_⟩
      have s1 := same_upd (o := .tup [V.int a, .int c]) nq
      obtain ⟨d1, o1⟩ := (hM0.same s1).putRest (q := q) (t := a) (b := c) (SqT.of upd_same)
      refine ⟨_, rfl, _, _, rfl, dput (s1 _ _ em) len, ?_⟩
      exact k _ _ d1 o1 ((FrD.same s1).trans FrD.put)
    · match hns : M.ns, hl with
      | [a, b, c, d, e, f, g, h], _ =>
      rw [hns] at hp hf
      refine ⟨_, rfl, p, _, rfl, .inr hp, rfl, _, rfl, iteF ?_⟩
      refine ⟨_, rfl, p, _, 0, _, rfl, rfl, hp, atI_nat (j := 0) rfl, _, rfl, p, _, 1, _, rfl, rfl, hp, atI_nat (j := 1) rfl, _, rfl, p, _, 4, _, rfl, rfl, hp, atI_nat (j := 4) rfl, _, rfl, p, _, 5, _, rfl, rfl, hp, atI_nat (j := 5) rfl, (by show 4 ≤ sizeLine; decide), fun q0 nq0 => ?_⟩
      have s1 := same_upd (o := .tup [V.int a, .int b, .int e, .int f]) nq0
      have hp1 := sqT_same hp s1
      refine ⟨_, rfl, p, _, 0, _, rfl, rfl, hp1, atI_nat (j := 0) rfl, _, rfl, p, _, 2, _, rfl, rfl, hp1, atI_nat (j := 2) rfl, _, rfl, p, _, 4, _, rfl, rfl, hp1, atI_nat (j := 4) rfl, _, rfl, p, _, 6, _, rfl, rfl, hp1, atI_nat (j := 6) rfl, (by show 4 ≤ sizeLine; decide), fun q1 nq1 => ?_⟩
      have s2 := same_upd (o := .tup [V.int a, .int c, .int e, .int g]) nq1
      refine ⟨(by show 2 ≤ sizeLine; decide), fun l nl => ?_⟩
      have s3 := same_upd (o := .lst [V.ref q0, .ref q1]) nl
      have h0 := sqT_same (K := K) (SqT.of upd_same) (s2.trans s3)
      have h1 := sqT_same (K := K) (SqT.of upd_same) s3
      have hll := upd_at s3
      have ss := (s1.trans s2).trans s3
      have hM3 := hM0.same ss
      generalize upd (upd (upd H q0 _) q1 _) l _ = H3 at *
      have em3 := hM3.em
      have hL : ∃ (qx : Addr) (x1 x3 : Int), atI [V.ref q0, .ref q1] (which : Int) = some (.ref qx) ∧ SqT K H3 qx [.int a, .int x1, .int e, .int x3] ∧ leftOf [a, b, c, d, e, f, g, h] which = [a, x1, e, x3] ∧ fits x1 ∧ fits x3 := by
        obtain z | z : which = 0 ∨ which = 1 := by omega
        · subst z
          exact ⟨q0, b, f, rfl, h0, rfl, hf b (by simp), hf f (by simp)⟩
        · subst z
          exact ⟨q1, c, g, rfl, h1, rfl, hf c (by simp), hf g (by simp)⟩
      obtain ⟨qx, x1, x3, hat, hqx, eL, f1, f3⟩ := hL
      refine ⟨_, rfl, l, _, _, _, rfl, rfl, SqL.of hll, hat, ?_⟩
      have fa := hf a (by simp)
      have e8 := LM.end8 (M := M) (k := which) (by rw [hns]; rfl) (by rw [hns]; exact eL)
      rw [e8] at k
      refine ⟨_, rfl, qx, _, 0, _, rfl, rfl, hqx, atI_nat (j := 0) rfl, _, rfl, qx, _, 3, _, rfl, rfl, hqx, atI_nat (j := 3) rfl, _, _, rfl, rfl, fits_mul fa f3, ?_⟩
      refine ⟨_, rfl, qx, _, 1, _, rfl, rfl, hqx, atI_nat (j := 1) rfl, _, rfl, qx, _, 2, _, rfl, rfl, hqx, atI_nat (j := 2) rfl, _, _, rfl, rfl, fits_mul f1 (hf e (by simp)), rfl, _, rfl, ite2 (fun z => ?_) (fun z => ?_)⟩
      · have z' : a * x3 ≠ x1 * e := fun y => by rw [decide_eq_true (congrArg V.int y)] at z; cases z
        rw [if_pos z'] at k
        obtain ⟨d1, o1⟩ := hM3.putNums (q := qx) (ns' := [a, x1, e, x3]) hqx
        refine ⟨_, rfl, _, rfl, _, _, rfl, dput em3 len, ?_⟩
        obtain ⟨d2, o2⟩ := d1.putWh (w' := 1 - which)
        have ew : (1 - (which : Int)) = ((1 - which : Nat) : Int) := by omega
        refine ⟨_, rfl, _, _, rfl, rfl, _, rfl, _, _, rfl, dput d1.em d1.len, ?_⟩
        have kk := k _ _ d2 (o1.trans o2) ((FrD.same ss).trans (FrD.put.trans FrD.put))
        rw [← ew] at kk
        exact kk
      · have z' : ¬ a * x3 ≠ x1 * e := fun y => z (by rw [decide_eq_false (fun x => y (V.int.inj x))]; rfl)
        rw [if_neg z'] at k
        have fin : ∀ (y0 y1 : Int) (q : Addr) (H' : Hp), Same H3 H' → SqT K H' q [.int y0, .int y1] → (if a = 0 ∧ e = 0 then { M with rest := some (x1, x3) } else { M with rest := some (a, e) } : LM) = { M with rest := some (y0, y1) } → Q .non (upd H' m (.dK (putK kvs (.inr "rest") (.ref q)))) := fun y0 y1 q H' s' hq e => by
          obtain ⟨d1, o1⟩ := (hM3.same s').putRest (q := q) (t := y0) (b := y1) hq
          exact k _ _ (by rw [e]; exact d1) o1 ((FrD.same ss).trans ((FrD.same s').trans FrD.put))
        refine ⟨_, rfl, qx, _, 0, _, rfl, rfl, hqx, atI_nat (j := 0) rfl, rfl, _, rfl, ite2 (fun y => ?_) (fun y => ?_)⟩
        · have y' : a = 0 := V.int.inj (of_decide_eq_true y)
          refine ⟨_, rfl, qx, _, 2, _, rfl, rfl, hqx, atI_nat (j := 2) rfl, rfl, _, rfl, ite2 (fun x => ?_) (fun x => ?_)⟩
          · have x' : e = 0 := V.int.inj (of_decide_eq_true x)
            refine ⟨_, rfl, qx, _, 1, _, rfl, rfl, hqx, atI_nat (j := 1) rfl, _, rfl, qx, _, 3, _, rfl, rfl, hqx, atI_nat (j := 3) rfl, (by show 2 ≤ sizeLine; decide), fun q nq => ?_⟩
            have s4 := same_upd (o := .tup [V.int x1, .int x3]) nq
            exact ⟨_, rfl, _, _, rfl, dput (s4 _ _ em3) len, fin _ _ q _ s4 (SqT.of upd_same) (if_pos ⟨y', x'⟩)⟩
          · have x' : ¬ e = 0 := fun u => x (decide_eq_true (congrArg V.int u))
            refine ⟨_, rfl, qx, _, 0, _, rfl, rfl, hqx, atI_nat (j := 0) rfl, _, rfl, qx, _, 2, _, rfl, rfl, hqx, atI_nat (j := 2) rfl, (by show 2 ≤ sizeLine; decide), fun q nq => ?_⟩
            have s4 := same_upd (o := .tup [V.int a, .int e]) nq
            exact ⟨_, rfl, _, _, rfl, dput (s4 _ _ em3) len, fin _ _ q _ s4 (SqT.of upd_same) (if_neg (fun u => x' u.2))⟩
        · have y' : ¬ a = 0 := fun u => y (decide_eq_true (congrArg V.int u))
          refine iteF ?_
          refine ⟨_, rfl, qx, _, 0, _, rfl, rfl, hqx, atI_nat (j := 0) rfl, _, rfl, qx, _, 2, _, rfl, rfl, hqx, atI_nat (j := 2) rfl, (by show 2 ≤ sizeLine; decide), fun q nq => ?_⟩
          have s4 := same_upd (o := .tup [V.int a, .int e]) nq
          exact ⟨_, rfl, _, _, rfl, dput (s4 _ _ em3) len, fin _ _ q _ s4 (SqT.of upd_same) (if_neg (fun u => y' u.1))⟩
end
/-! ### the machine in the heap -/
def kindOf : Leaf → Str
  | .frac _ _ => "fraction"
  | .root _ _ _ => "root"
  | .ruled _ _ _ => "ruled"
section
variable {P : Program} [NoTree P] {w : World} {K : PySem.W.Frag} {mg : Str → Option Value} {base : Heap} {A : Ad}
/-- what a leaf's machine keeps of its chain -/
def KeepAt (K : PySem.W.Frag) (H : Hp) (kvs : List (Key × V)) (f : Leaf) (n : Nat) (c : Chain) : Prop := match c with
  | .frac t b => (∀ ps ring steps, f ≠ .ruled ps ring steps) ∧ ∃ q, valV kvs (.inr "rest") = some (.ref q) ∧ SqT K H q [.int t, .int b]
  | .root t s b r => valV kvs (.inr "rest") = some .non ∧ ∃ t0 s0 b0 lf x, f = .root t0 s0 b0 ∧ valV kvs (.inr "left") = some (.ref lf) ∧ N3 K H lf x ∧ QRel s0 x.1 x.2.1 x.2.2 (.root t s b r) ∧ Prim x.1 x.2.1 x.2.2 ∧ 0 < x.2.2
  | .ruled ps ring steps i => valV kvs (.inr "rest") = some .non ∧ f = .ruled ps ring steps ∧ i = n ∧ (ring = [] → n ≤ ps.length)
structure LfAt (K : PySem.W.Frag) (H : Hp) (m tk : Addr) (kvs : List (Key × V)) (f : Leaf) (n : Nat) (c : Chain) : Prop where
  em : H m = some (.dK kvs)
  len : kvs.length ≤ 9
  kd : valV kvs (.inr "kind") = some (.str (kindOf f))
  tkn : valV kvs (.inr "taken") = some (.ref tk)
  tr : ∃ v, valV kvs (.inr "tree") = some (.ref v) ∧ f.At K H v
  tk : H tk = some (.lst [.int n, .int 0])
  keep : KeepAt K H kvs f n c
  ok : c.Ok
  good : f.Good
def MacAt (K : PySem.W.Frag) (H : Hp) : Mac → Addr → List Addr → Prop
  | .leaf f n c, m, fp => ∃ tk kvs, fp = [m, tk] ∧ LfAt K H m tk kvs f n c
  | .box ev M x y, m, fp => ∃ tk il kvs, DB K H m tk kvs M ∧ valV kvs (.inr "kind") = some (.str (if ev = true then "eight" else "four")) ∧ valV kvs (.inr "inners") = some (.ref il) ∧
      ((ev = true ∧ ∃ mx my fx fy, H il = some (.lst [.ref mx, .ref my]) ∧ MacAt K H x mx fx ∧ MacAt K H y my fy ∧ fp = m :: tk :: il :: (fx ++ fy) ∧ fp.Nodup) ∨
       (ev = false ∧ ∃ mx fx, H il = some (.lst [.ref mx]) ∧ MacAt K H x mx fx ∧ fp = m :: tk :: il :: fx ∧ fp.Nodup))
/-- what a machine owns is no tuple -/
def Soft2 (H : Hp) (c : Addr) : Prop := (∃ kvs, H c = some (.dK kvs)) ∨ ∃ xs, H c = some (.lst xs)
theorem Soft2.no {H : Hp} {c : Addr} {o : HO} (h : Soft2 H c) (e : H c = some o) : (∀ ys, o ≠ .tup ys) ∧ ∀ ob u, o ≠ .frz ob u := by
  rcases h with ⟨kvs, z⟩ | ⟨xs, z⟩
  · rw [z] at e; cases e; exact ⟨fun _ q => (by cases q), fun _ _ q => (by cases q)⟩
  · rw [z] at e; cases e; exact ⟨fun _ q => (by cases q), fun _ _ q => (by cases q)⟩
theorem MacAt.soft {H : Hp} : ∀ {M : Mac} {m : Addr} {fp : List Addr}, MacAt K H M m fp → ∀ c ∈ fp, Soft2 H c
  | .leaf f n c, m, fp, h => by
    obtain ⟨tk, kvs, rfl, h⟩ := h
    intro c hc
    simp only [List.mem_cons, List.not_mem_nil, or_false] at hc
    rcases hc with rfl | rfl
    · exact .inl ⟨_, h.em⟩
    · exact .inr ⟨_, h.tk⟩
  | .box ev M x y, m, fp, h => by
    obtain ⟨tk, il, kvs, db, _, _, ⟨_, mx, my, fx, fy, hil, hx, hy, rfl, _⟩ | ⟨_, mx, fx, hil, hx, rfl, _⟩⟩ := h
    · intro c hc
      simp only [List.mem_cons, List.mem_append] at hc
      rcases hc with rfl | rfl | rfl | hc | hc
      · exact .inl ⟨_, db.em⟩
      · exact .inr ⟨_, db.tk⟩
      · exact .inr ⟨_, hil⟩
      · exact MacAt.soft hx c hc
      · exact MacAt.soft hy c hc
    · intro c hc
      simp only [List.mem_cons] at hc
      rcases hc with rfl | rfl | rfl | hc
      · exact .inl ⟨_, db.em⟩
      · exact .inr ⟨_, db.tk⟩
      · exact .inr ⟨_, hil⟩
      · exact MacAt.soft hx c hc
theorem KeepAt.imp {H H' : Hp} {kvs : List (Key × V)} {f : Leaf} {n : Nat} {c : Chain} (k : ∀ t xs, SqT K H t xs → SqT K H' t xs) (h : KeepAt K H kvs f n c) : KeepAt K H' kvs f n c := by
  cases c with
  | frac t b => obtain ⟨h0, q, h1, h2⟩ := h; exact ⟨h0, q, h1, k _ _ h2⟩
  | root t s b r => obtain ⟨h0, t0, s0, b0, lf, x, h1, h2, h3, h4⟩ := h; exact ⟨h0, t0, s0, b0, lf, x, h1, h2, k _ _ h3, h4⟩
  | ruled ps ring steps i => exact h
theorem Leaf.At.imp {H H' : Hp} {f : Leaf} {v : Addr} (k : ∀ t xs, SqT K H t xs → SqT K H' t xs) (h : f.At K H v) : f.At K H' v := by
  cases f with
  | frac t b => exact k _ _ h
  | root t s b => exact k _ _ h
  | ruled ps ring steps => obtain ⟨p, q, u, h1, h2, h3, h4⟩ := h; exact ⟨p, q, u, k _ _ h1, k _ _ h2, k _ _ h3, k _ _ h4⟩
theorem DB.imp {H H' : Hp} {m tk : Addr} {kvs : List (Key × V)} {M : LM} (h : DB K H m tk kvs M) (k : ∀ t xs, SqT K H t xs → SqT K H' t xs) (e1 : H' m = some (.dK kvs)) (e2 : H' tk = some (.lst [.int M.i, .int M.j])) : DB K H' m tk kvs M := by
  obtain ⟨em, len, ⟨p, n1, n2⟩, wh, tkn, ⟨rv, r1, r2⟩, bgn, ht⟩ := h
  exact ⟨e1, len, ⟨p, n1, k _ _ n2⟩, wh, tkn, ⟨rv, r1, r2.imp k⟩, bgn, e2⟩
/-- a machine stays where what it owns stays, and all tuples -/
theorem MacAt.imp {H H' : Hp} (k : ∀ t xs, SqT K H t xs → SqT K H' t xs) : ∀ {M : Mac} {m : Addr} {fp : List Addr}, MacAt K H M m fp → (∀ c ∈ fp, ∀ o, H c = some o → H' c = some o) → MacAt K H' M m fp
  | .leaf f n c, m, fp, h, e => by
    obtain ⟨tk, kvs, rfl, ⟨em, len, kd, tkn, ⟨v, v1, v2⟩, ht, keep, ok, good⟩⟩ := h
    exact ⟨tk, kvs, rfl, ⟨e m (by simp) _ em, len, kd, tkn, ⟨v, v1, v2.imp k⟩, e tk (by simp) _ ht, keep.imp k, ok, good⟩⟩
  | .box ev M x y, m, fp, h, e => by
    obtain ⟨tk, il, kvs, db, kd, inn, ⟨hev, mx, my, fx, fy, hil, hx, hy, rfl, nd⟩ | ⟨hev, mx, fx, hil, hx, rfl, nd⟩⟩ := h
    · exact ⟨tk, il, kvs, db.imp k (e m (by simp) _ db.em) (e tk (by simp) _ db.tk), kd, inn, .inl ⟨hev, mx, my, fx, fy, e il (by simp) _ hil, MacAt.imp k hx fun c hc => e c (by simp [hc]), MacAt.imp k hy fun c hc => e c (by simp [hc]), rfl, nd⟩⟩
    · exact ⟨tk, il, kvs, db.imp k (e m (by simp) _ db.em) (e tk (by simp) _ db.tk), kd, inn, .inr ⟨hev, mx, fx, e il (by simp) _ hil, MacAt.imp k hx fun c hc => e c (by simp [hc]), rfl, nd⟩⟩
theorem MacAt.same {H H' : Hp} {M : Mac} {m : Addr} {fp : List Addr} (h : MacAt K H M m fp) (s : Same H H') : MacAt K H' M m fp := h.imp (fun t xs z => sqT_same z s) fun c _ o e => s _ _ e
theorem MacAt.head {H : Hp} {M : Mac} {m : Addr} {fp : List Addr} (h : MacAt K H M m fp) : m ∈ fp := by
  cases M with
  | leaf f n c => obtain ⟨tk, kvs, rfl, _⟩ := h; simp
  | box ev M x y => obtain ⟨tk, il, kvs, _, _, _, ⟨_, mx, my, fx, fy, _, _, _, rfl, _⟩ | ⟨_, mx, fx, _, _, rfl, _⟩⟩ := h <;> simp
end
/-! ### the machine: what an asking within, and what is written, leaves of it -/
def FrF (fp : List Addr) (pu : Addr) (H H' : Hp) : Prop := ∀ c z, H c = some z → c ∉ fp → c ≠ pu → H' c = some z
theorem FrF.trans {fp : List Addr} {pu : Addr} {H H1 H2 : Hp} (a : FrF fp pu H H1) (b : FrF fp pu H1 H2) : FrF fp pu H H2 := fun c o e n n' => b c o (a c o e n n') n n'
theorem FrF.same {fp : List Addr} {pu : Addr} {H H' : Hp} (s : Same H H') : FrF fp pu H H' := fun c o e _ _ => s c o e
theorem FrF.sub {fi fp : List Addr} {pu : Addr} {H H' : Hp} (a : FrF fi pu H H') (h : ∀ c ∈ fi, c ∈ fp) : FrF fp pu H H' := fun c o e n n' => a c o e (fun z => n (h c z)) n'
section
variable {K : PySem.W.Frag}
/-- tuples stay -/
theorem FrF.tups {fp : List Addr} {pu : Addr} {H H' : Hp} {ps : List V} (a : FrF fp pu H H') (hs : ∀ c ∈ fp, Soft2 H c) (hp : H pu = some (.lst ps)) : ∀ t xs, SqT K H t xs → SqT K H' t xs := fun t xs h => sqT_but (N := fun c => c ∈ fp ∨ c = pu) h (fun b o e n => a b o e (fun z => n (.inl z)) fun z => n (.inr z)) fun b o hb e => by
  rcases hb with z | rfl
  · exact (hs b z).no e
  · rw [hp] at e
    cases e
    exact ⟨fun _ q => (by cases q), fun _ _ q => (by cases q)⟩
theorem MacAt.redo {H : Hp} {ev : Bool} {M : LM} {x y : Mac} {m : Addr} {fp : List Addr} (h : MacAt K H (.box ev M x y) m fp) : ∃ tk kvs, DB K H m tk kvs M ∧ tk ∈ fp ∧ m ∈ fp ∧ valV kvs (.inr "kind") = some (.str (if ev = true then "eight" else "four")) ∧
    ∀ H' kvs' M', DB K H' m tk kvs' M' → Oth kvs kvs' → (∀ c z, H c = some z → c ≠ m → c ≠ tk → H' c = some z) → MacAt K H' (.box ev M' x y) m fp := by
  have soft := h.soft
  obtain ⟨tk, il, kvs, db, kd, inn, hc⟩ := h
  have ntm := db.ne
  refine ⟨tk, kvs, db, ?_, ?_, kd, fun H' kvs' M' db' oth kp => ?_⟩
  · rcases hc with ⟨_, mx, my, fx, fy, hil, hx, hy, rfl, nd⟩ | ⟨_, mx, fx, hil, hx, rfl, nd⟩ <;> simp
  · rcases hc with ⟨_, mx, my, fx, fy, hil, hx, hy, rfl, nd⟩ | ⟨_, mx, fx, hil, hx, rfl, nd⟩ <;> simp
  · have kt : ∀ t xs, SqT K H t xs → SqT K H' t xs := fun t xs h => sqT_but (N := fun c => c = m ∨ c = tk) h (fun b o e n => kp b o e (fun z => n (.inl z)) fun z => n (.inr z)) fun b o hb e => by
      rcases hb with rfl | rfl
      · rw [db.em] at e; cases e; exact ⟨fun _ q => (by cases q), fun _ _ q => (by cases q)⟩
      · rw [db.tk] at e; cases e; exact ⟨fun _ q => (by cases q), fun _ _ q => (by cases q)⟩
    have kd' : valV kvs' (.inr "kind") = some (.str (if ev = true then "eight" else "four")) := by rw [oth.2 _ (kne (by decide +kernel)) (kne (by decide +kernel)) (kne (by decide +kernel)) (kne (by decide +kernel))]; exact kd
    have in' : valV kvs' (.inr "inners") = some (.ref il) := by rw [oth.2 _ (kne (by decide +kernel)) (kne (by decide +kernel)) (kne (by decide +kernel)) (kne (by decide +kernel))]; exact inn
    refine ⟨tk, il, kvs', db', kd', in', ?_⟩
    rcases hc with ⟨hev, mx, my, fx, fy, hil, hx, hy, rfl, nd⟩ | ⟨hev, mx, fx, hil, hx, rfl, nd⟩
    · have nd0 := nd
      simp only [List.nodup_cons, List.mem_cons, List.mem_append, not_or] at nd
      obtain ⟨⟨_, n1, n2, n3⟩, ⟨n4, n5, n6⟩, _⟩ := nd
      have sx : ∀ c ∈ fx, ∀ o, H c = some o → H' c = some o := fun c hc o e => kp c o e (fun z => n2 (z ▸ hc)) fun z => n5 (z ▸ hc)
      have sy : ∀ c ∈ fy, ∀ o, H c = some o → H' c = some o := fun c hc o e => kp c o e (fun z => n3 (z ▸ hc)) fun z => n6 (z ▸ hc)
      exact .inl ⟨hev, mx, my, fx, fy, kp il _ hil (fun z => n1 z.symm) (fun z => n4 z.symm), hx.imp kt sx, hy.imp kt sy, rfl, nd0⟩
    · have nd0 := nd
      simp only [List.nodup_cons, List.mem_cons, not_or] at nd
      obtain ⟨⟨_, n1, n2⟩, ⟨n4, n5⟩, _⟩ := nd
      have sx : ∀ c ∈ fx, ∀ o, H c = some o → H' c = some o := fun c hc o e => kp c o e (fun z => n2 (z ▸ hc)) fun z => n5 (z ▸ hc)
      exact .inr ⟨hev, mx, fx, kp il _ hil (fun z => n1 z.symm) (fun z => n4 z.symm), hx.imp kt sx, rfl, nd0⟩
theorem MacAt.inner {H : Hp} {ev : Bool} {M : LM} {x y : Mac} {m : Addr} {fp : List Addr} {k : Nat} (h : MacAt K H (.box ev M x y) m fp) (hk : k = 0 ∨ (k = 1 ∧ ev = true)) : ∃ tk kvs il xs mi fi, DB K H m tk kvs M ∧ valV kvs (.inr "inners") = some (.ref il) ∧ H il = some (.lst xs) ∧ atI xs (k : Int) = some (.ref mi) ∧ MacAt K H (inn k x y) mi fi ∧ (∀ c ∈ fi, c ∈ fp) ∧
    ∀ pu ps H' z, pu ∉ fp → H pu = some (.lst ps) → FrF fi pu H H' → MacAt K H' z mi fi → MacAt K H' (.box ev M (setX k z x) (setY k z y)) m fp := by
  obtain ⟨tk, il, kvs, db, kd, inn_, hc⟩ := h
  rcases hc with ⟨hev, mx, my, fx, fy, hil, hx, hy, rfl, nd⟩ | ⟨hev, mx, fx, hil, hx, rfl, nd⟩
  · have nd0 := nd
    simp only [List.nodup_cons, List.mem_cons, List.mem_append, not_or, List.nodup_append] at nd
    obtain ⟨⟨n0, n1, n2, n3⟩, ⟨n4, n5, n6⟩, ⟨n7, n8⟩, _, _, dis⟩ := nd
    rcases hk with rfl | ⟨rfl, _⟩
    · refine ⟨tk, kvs, il, _, mx, fx, db, inn_, hil, rfl, hx, fun c hc => by simp [hc], fun pu ps H' z np hp fr hz => ?_⟩
      simp only [List.mem_cons, List.mem_append, not_or] at np
      obtain ⟨p0, p1, p2, p3, p4⟩ := np
      have kt := fr.tups (K := K) hx.soft hp
      exact ⟨tk, il, kvs, db.imp kt (fr _ _ db.em n2 (fun z => p0 z.symm)) (fr _ _ db.tk n5 (fun z => p1 z.symm)), kd, inn_, .inl ⟨hev, mx, my, fx, fy, fr _ _ hil n7 (fun z => p2 z.symm), hz, hy.imp kt fun c hc o e => fr c o e (fun z => dis c z c hc rfl) (fun z => p4 (z ▸ hc)), rfl, nd0⟩⟩
    · refine ⟨tk, kvs, il, _, my, fy, db, inn_, hil, rfl, hy, fun c hc => by simp [hc], fun pu ps H' z np hp fr hz => ?_⟩
      simp only [List.mem_cons, List.mem_append, not_or] at np
      obtain ⟨p0, p1, p2, p3, p4⟩ := np
      have kt := fr.tups (K := K) hy.soft hp
      exact ⟨tk, il, kvs, db.imp kt (fr _ _ db.em n3 (fun z => p0 z.symm)) (fr _ _ db.tk n6 (fun z => p1 z.symm)), kd, inn_, .inl ⟨hev, mx, my, fx, fy, fr _ _ hil n8 (fun z => p2 z.symm), hx.imp kt fun c hc o e => fr c o e (fun z => dis c hc c z rfl) (fun z => p3 (z ▸ hc)), hz, rfl, nd0⟩⟩
  · rcases hk with rfl | ⟨_, z⟩
    · have nd0 := nd
      simp only [List.nodup_cons, List.mem_cons, not_or] at nd
      obtain ⟨⟨n0, n1, n2⟩, ⟨n4, n5⟩, n7, _⟩ := nd
      refine ⟨tk, kvs, il, _, mx, fx, db, inn_, hil, rfl, hx, fun c hc => by simp [hc], fun pu ps H' z np hp fr hz => ?_⟩
      simp only [List.mem_cons, not_or] at np
      obtain ⟨p0, p1, p2, p3⟩ := np
      have kt := fr.tups (K := K) hx.soft hp
      exact ⟨tk, il, kvs, db.imp kt (fr _ _ db.em n2 (fun z => p0 z.symm)) (fr _ _ db.tk n5 (fun z => p1 z.symm)), kd, inn_, .inr ⟨hev, mx, fx, fr _ _ hil n7 (fun z => p2 z.symm), hz, rfl, nd0⟩⟩
    · rw [hev] at z
      cases z
end
def ToldK (K : PySem.W.Frag) (H : Hp) (m pu : Addr) (fp : List Addr) (M : Mac) (l : Int) (o : Option Ans) (B' : Box) (l' : Int) (Q : VK) : Prop := ∀ t H' M', SqT K H' t (oVals o) → MacAt K H' M' m fp → Sim M' B' → (M'.took : Int) + l' = (M.took : Int) + l → M'.told = (M.told || isPart o) → (o = some .fin → M.told = true) → H' pu = some (.lst [.int l']) → 0 ≤ l' → FrF fp pu H H' → M'.ht = M.ht → Q (.ref t) H'
def sp_told (K : PySem.W.Frag) (d : Nat) : Sp := fun vs H Q _ => ∃ (m pu : Addr) (M : Mac) (fp : List Addr) (B : Box) (l : Int) (n : Nat) (o : Option Ans) (B' : Box) (l' : Int), vs = [.ref m, .ref pu] ∧ MacAt K H M m fp ∧ M.ht ≤ d ∧ Sim M B ∧ H pu = some (.lst [.int l]) ∧ pu ∉ fp ∧ 0 ≤ l ∧ askF n B l = some (o, B', l') ∧ ToldK K H m pu fp M l o B' l' Q
def sp_leaf_told (K : PySem.W.Frag) : Sp := fun vs H Q _ => ∃ (m pu : Addr) (f : Leaf) (nn : Nat) (c : Chain) (fp : List Addr) (l : Int), vs = [.ref m, .ref pu] ∧ MacAt K H (.leaf f nn c) m fp ∧ (nn = 0 → c.ended = false) ∧ H pu = some (.lst [.int l]) ∧ pu ∉ fp ∧ 0 ≤ l ∧ ToldK K H m pu fp (.leaf f nn c) l (some (c.ans l)) (.leaf (c.then_ l)) (l - c.took l) Q
def sp_toldP (K : PySem.W.Frag) (d : Nat) : Sp := fun vs H Q E => d ≠ 0 ∧ sp_told K (d - 1) vs H Q E
/-! ### what a box's reading tells is what is due -/
theorem passX0 {X : Cx} : Passes (L2.CX X.prog X.w) X E0 := fun _ _ _ _ _ _ _ h => by
  obtain ⟨_, _, _, _, _, _, _, _, _, _, _, _, hE⟩ := h
  exact hE.elim
theorem while_nat {c : TT} {tb : TS} {D : Ends} {σ : St} {H : Hp} (Pv : Nat → St → Hp → Prop) {m0 : Nat} (h0 : Pv m0 σ H)
    (hs : ∀ m σ H, Pv m σ H → c σ H fun b H1 => if b = true then tb { D with nx := fun σ' H' => ∃ m', m' < m ∧ Pv m' σ' H', ct := fun σ' H' => ∃ m', m' < m ∧ Pv m' σ' H', bk := D.nx } σ H1 else D.nx σ H1)
    (mono : ∀ σ H Q Q', (∀ b H1, Q b H1 → Q' b H1) → c σ H Q → c σ H Q') : tWhile c tb D σ H := by
  refine ⟨Pv, ⟨_, h0⟩, ?_⟩
  intro m σ H p
  refine mono σ H _ _ (fun b H1 q => ?_) (hs m σ H p)
  cases b with
  | true => exact ⟨_, fun σ' H' z => z, q⟩
  | false => exact q
section
variable {P : Program} [NoTree P] {w : World} {K : PySem.W.Frag} {mg : Str → Option Value} {base : Heap} {A : Ad}
/-- what a reading changes is no tuple -/
theorem sqT_frame {H H' : Hp} {b m : Addr} {fp : List Addr} {xs : List V} (h : SqT K H b xs) (hf : ∀ c ∈ fp, Soft H c) (hm : ∃ C dx fs, H m = some (.ins C dx fs)) (k : ∀ c z, H c = some z → c ∉ fp → c ≠ m → H' c = some z) : SqT K H' b xs :=
  sqT_but (N := fun z => z ∈ fp ∨ z = m) h (fun b o e n => k b o e (fun z => n (.inl z)) fun z => n (.inr z)) fun b o e z => by
    rcases e with e | rfl
    · exact (hf b e).no z
    · obtain ⟨C, dx, fs, e⟩ := hm; rw [e] at z; exact ins_no (Option.some.inj z).symm
end
/-! ### what the machine tells -/
section
variable {P : Program} [NoTree P] {w : World} {K : PySem.W.Frag} {mg : Str → Option Value} {base : Heap} {A : Ad}
theorem notZero (i j : Nat) : (!inV (.int 0) [V.int (i : Int), .int (j : Int)]) = decide (0 < i ∧ 0 < j) := by
  show (!(((i : Int) == 0) || (((j : Int) == 0) || false))) = _
  rcases Nat.eq_zero_or_pos i with h | h
  · subst h
    rw [decide_eq_false (by omega)]
    rfl
  · rcases Nat.eq_zero_or_pos j with h' | h'
    · subst h'
      rw [decide_eq_false (by omega), show ((i : Int) == 0) = false from beq_eq_false_iff_ne.mpr (by omega)]
      rfl
    · rw [decide_eq_true ⟨h, h'⟩, show ((i : Int) == 0) = false from beq_eq_false_iff_ne.mpr (by omega), show ((j : Int) == 0) = false from beq_eq_false_iff_ne.mpr (by omega)]
      rfl
theorem corners_len {ns : List Int} : 0 < (cornersOf ns).length ∧ (cornersOf ns).length ≤ 4 := by
  unfold cornersOf fourCorners eightCorners
  split <;> simp
theorem turned_len {ns : List Int} {q : Int} {h : Nat} (hl : ns.length = 2 * h) : turnedOver ns q = ns.drop h ++ (List.range h).map fun k => (ns.take h).getD k 0 - q * (ns.drop h).getD k 0 := by
  unfold turnedOver
  rw [show ns.length / 2 = h by omega]
  congr 1
  apply List.ext_getElem
  · rw [List.length_zipWith, List.length_map, List.length_range, List.length_take, List.length_drop]
    omega
  · intro i h1 h2
    rw [List.length_zipWith, List.length_take, List.length_drop] at h1
    rw [List.getElem_zipWith, List.getElem_map, List.getElem_range, List.getD_eq_getElem?_getD, List.getD_eq_getElem?_getD, List.getElem?_eq_getElem (show i < (ns.take h).length by rw [List.length_take]; omega), List.getElem?_eq_getElem (show i < (ns.drop h).length by rw [List.length_drop]; omega)]
    rfl
theorem kind_box (ev : Bool) : inV (.str (if ev = true then "eight" else "four")) [.str "four", .str "eight"] = true := by cases ev <;> decide +kernel
theorem kind_leaf (f : Leaf) : inV (.str (kindOf f)) [.str "four", .str "eight"] = false := by
  cases f with
  | frac t b => show inV (.str "fraction") [.str "four", .str "eight"] = false; decide +kernel
  | root t q b => show inV (.str "root") [.str "four", .str "eight"] = false; decide +kernel
  | ruled a b c => show inV (.str "ruled") [.str "four", .str "eight"] = false; decide +kernel
theorem took_set {k : Nat} {ev : Bool} {M M' : LM} {x y z : Mac} (hk : k = 0 ∨ (k = 1 ∧ ev = true)) : ((Mac.box ev M' (setX k z x) (setY k z y)).took : Int) = (Mac.box ev M x y).took - (inn k x y).took + z.took := by
  rcases hk with rfl | ⟨rfl, rfl⟩
  · cases ev with
    | true => show ((z.took + y.took : Nat) : Int) = ((x.took + y.took : Nat) : Int) - (x.took : Int) + (z.took : Int); omega
    | false => show ((z.took : Nat) : Int) = ((x.took : Nat) : Int) - (x.took : Int) + (z.took : Int); omega
  · show ((x.took + z.took : Nat) : Int) = ((x.took + y.took : Nat) : Int) - (y.took : Int) + (z.took : Int); omega
theorem ht_set {k : Nat} {ev : Bool} {M M' : LM} {x y z : Mac} (hk : k = 0 ∨ (k = 1 ∧ ev = true)) (hz : z.ht = (inn k x y).ht) : (Mac.box ev M' (setX k z x) (setY k z y)).ht = (Mac.box ev M x y).ht := by
  rcases hk with rfl | ⟨rfl, rfl⟩
  · have hz : z.ht = x.ht := hz
    cases ev with
    | true => show max z.ht y.ht + 1 = max x.ht y.ht + 1; rw [hz]
    | false => show z.ht + 1 = x.ht + 1; rw [hz]
  · have hz : z.ht = y.ht := hz
    show max x.ht z.ht + 1 = max x.ht y.ht + 1
    rw [hz]
theorem inn_ht {k : Nat} {ev : Bool} {M : LM} {x y : Mac} (hk : k = 0 ∨ (k = 1 ∧ ev = true)) : (inn k x y).ht + 1 ≤ (Mac.box ev M x y).ht := by
  rcases hk with rfl | ⟨rfl, rfl⟩
  · cases ev with
    | true => show x.ht + 1 ≤ max x.ht y.ht + 1; omega
    | false => exact Nat.le_refl _
  · show y.ht + 1 ≤ max x.ht y.ht + 1; omega
theorem ok_told_step (T : CT K mg A) (D : DT K mg A) {d : Nat} (G_law_leaf_told : COk P w K mg base CX0 40 "_law_leaf_told" ["_law_m", "_law_purse"] (sp_leaf_told K)) (G_law_told : COk P w K mg base CX0 (40 + d) "_law_told" ["_law_m", "_law_purse"] (sp_toldP K d)) : COk P w K mg base CX0 (40 + d + 1) "_law_told" ["_law_m", "_law_purse"] (sp_told K d) := by
  have G_law_corners := ok_law_corners (P := P) (w := w) (base := base) T D
  have G_law_sure := ok_law_sure (P := P) (w := w) (base := base) T D
  have G_law_moved := ok_law_moved (P := P) (w := w) (base := base) T D
  have G_law_ended := ok_law_ended (P := P) (w := w) (base := base) T D
  have G_law_rest := ok_law_rest (P := P) (w := w) (base := base) T D
  refine COk.by D.law_told fun f fd F => ?_
  refine F.ok (k := 40 + d) sc_law_told (fun vs H Q E h => ?_) (fun cdv Ar outer s H vs Q E hr h => ?_)
  · obtain ⟨m, pu, M, fp, B, l, n, o, B', l', rfl, _⟩ := h
    rfl
  · obtain ⟨m, pu, M0, fp, B0, l0, n0, o, B', l', rfl, hM0, hd0, hS0, hpu0, npu, l00, ha0, k⟩ := h
    refine ⟨_, (pss_cons (ps_if (pt_cmpR op_notIn_seq (pe_dget (hu_of hr) (pv 0) pe_str (fun _ _ => rfl)) (pe_lst (pa_cons pe_str (pa_cons pe_str pa_nil))) rfl)
      (pss_one (ps_ret (pe_c G_law_leaf_told (hr.mono (by first | decide | omega)) (pa_cons (pv 0) (pa_cons (pv 1) pa_nil))))) pss_nil)
    (pss_cons (ps_while PassesOwn.never (pt_cmpR op_isN (pe_dget (hu_of hr) (pv 0) pe_str (fun _ _ => rfl)) pe_non (nomark _))
      (pss_cons (ps_set (i := 2) sc_law_told.nd rfl (Or.inl rfl) (pe_dget (hu_of hr) (pv 0) pe_str (fun _ _ => rfl)))
    (pss_cons (ps_set (i := 3) sc_law_told.nd rfl (Or.inl rfl) (pe_ix ix_list (pe_lst (pa_cons (pe_cmpR op_gt (pe_ix ix_list (pe_dget (hu_of hr) (pv 0) pe_str (fun _ _ => rfl)) (pv 2) (fun _ _ => rfl)) pe_int (nomark _)) (pa_cons (pe_cmpR op_notIn_seq pe_int (pe_dget (hu_of hr) (pv 0) pe_str (fun _ _ => rfl)) rfl) pa_nil))) (pe_callTy call_int1 (by rfl) T.b_int (by decide +kernel) (pa_cons (pe_cmpR op_eq (pe_callB call_len_seq (by rfl) T.b_len (by decide +kernel) (pa_cons (pe_dget (hu_of hr) (pv 0) pe_str (fun _ _ => rfl)) pa_nil)) pe_int (nomark _)) pa_nil)) (fun _ _ => rfl)))
    (pss_cons (ps_set (i := 4) sc_law_told.nd rfl (Or.inr rfl) pe_non)
    (C8.pss_cut (ps_if (pt_val (pv 3))
      (pss_one (ps_set (i := 4) sc_law_told.nd rfl (Or.inr rfl) (pe_c G_law_sure (hr.mono (by first | decide | omega)) (pa_cons (pe_c G_law_corners (hr.mono (by first | decide | omega)) (pa_cons (pe_dget (hu_of hr) (pv 0) pe_str (fun _ _ => rfl)) pa_nil)) pa_nil)))) pss_nil)
    (pss_cons (ps_if (pt_cmpR op_notN (pv 4) pe_non (nomark _))
      (pss_cons (ps_set (i := 5) sc_law_told.nd rfl (Or.inl rfl) (pe_op op_fdiv (pe_callB call_len_seq (by rfl) T.b_len (by decide +kernel) (pa_cons (pe_dget (hu_of hr) (pv 0) pe_str (fun _ _ => rfl)) pa_nil)) pe_int))
    (pss_cons (ps_set (i := 6) sc_law_told.nd rfl (Or.inr rfl) (pe_slice sl_tupA (pe_dget (hu_of hr) (pv 0) pe_str (fun _ _ => rfl)) po_none (po_some (pv 5))))
    (pss_cons (ps_set (i := 7) sc_law_told.nd rfl (Or.inr rfl) (pe_slice sl_tupA (pe_dget (hu_of hr) (pv 0) pe_str (fun _ _ => rfl)) (po_some (pv 5)) po_none))
    (pss_cons (ps_dput (hu_of hr) (pv 0) pe_str (pe_op op_catC (pv 7) (pe_callTy call_tuple_of (by rfl) T.b_tuple (by decide +kernel) (pa_cons (pe_lc (own := [("_law_k", 8)]) (g := gName 8) (tt := tYes) rfl sc_law_told.nd (pi_range1 rfl T.b_range (pa_cons (pv 5) pa_nil)) (blkOk_by (own := [("_law_k", 8)]) (N := ["_law_m", "_law_purse", "_law_which", "_law_ready", "_law_part", "_law_half", "_law_ahead", "_law_under", "_law_k", "_law_got"]) (sc := defScope s_law_told) (by decide +kernel)) (fun _ _ _ _ _ => (pg_name (i := 8) sc_law_told.nd rfl (Or.inl rfl))) (fun _ _ _ _ _ => pts_nil) (fun _ _ _ _ _ => (pe_op op_sub (pe_ix (show IxR _ (rIxT K) from ix_tup) (pv 6) (pv 8) (fun _ _ => rfl)) (pe_op op_mulW (pv 4) (pe_ix (show IxR _ (rIxT K) from ix_tup) (pv 7) (pv 8) (fun _ _ => rfl)))))) pa_nil))) rfl)
    (pss_cons (ps_dput (hu_of hr) (pv 0) pe_str pe_bl rfl)
    (pss_one (ps_ret (pe_tup (pa_cons pe_str (pa_cons (pv 4) pa_nil)))))))))) pss_nil)
    (C8.pss_cut (ps_if (pt_cmpR op_eq (pe_callB call_len_seq (by rfl) T.b_len (by decide +kernel) (pa_cons (pe_dget (hu_of hr) (pv 0) pe_str (fun _ _ => rfl)) pa_nil)) pe_int (nomark _))
      (pss_one (ps_set (i := 2) sc_law_told.nd rfl (Or.inl rfl) (pe_callTy call_int1 (by rfl) T.b_int (by decide +kernel) (pa_cons (pe_cmpR op_lt (pe_ix ix_list (pe_dget (hu_of hr) (pv 0) pe_str (fun _ _ => rfl)) pe_int (fun _ _ => rfl)) (pe_ix ix_list (pe_dget (hu_of hr) (pv 0) pe_str (fun _ _ => rfl)) pe_int (fun _ _ => rfl)) (nomark _)) pa_nil)))) pss_nil)
    (pss_cons (ps_set (i := 9) sc_law_told.nd rfl (Or.inl rfl) (pe_c G_law_told (hr.mono (by first | decide | omega)) (pa_cons (pe_ix ix_list (pe_dget (hu_of hr) (pv 0) pe_str (fun _ _ => rfl)) (pv 2) (fun _ _ => rfl)) (pa_cons (pv 1) pa_nil))))
    (pss_one (ps_if (pt_cmpR op_eq (pe_ix ix_tup (pv 9) pe_int (fun _ _ => rfl)) pe_str (nomark _))
      (pss_one (ps_expr (pe_c G_law_ended (hr.mono (by first | decide | omega)) (pa_cons (pv 0) (pa_cons (pv 2) pa_nil))))) (pss_one (ps_if (pt_cmpR op_ne (pe_ix ix_tup (pv 9) pe_int (fun _ _ => rfl)) pe_str (nomark _))
      (pss_one (ps_ret (pv 9))) (pss_cons (ps_dput (hu_of hr) (pv 0) pe_str (pe_c G_law_moved (hr.mono (by first | decide | omega)) (pa_cons (pe_dget (hu_of hr) (pv 0) pe_str (fun _ _ => rfl)) (pa_cons (pv 2) (pa_cons (pe_ix ix_tup (pv 9) pe_int (fun _ _ => rfl)) pa_nil)))) rfl)
    (pss_one (ps_asg (pe_op op_add (pe_ix ix_list (pe_dget (hu_of hr) (pv 0) pe_str (fun _ _ => rfl)) (pv 2) (fun _ _ => rfl)) pe_int) (pg_sub (pe_dget (hu_of hr) (pv 0) pe_str (fun _ _ => rfl)) (pv 2) set_list))))))))))))))))
    (pss_one (ps_ret (pe_c G_law_rest (hr.mono (by first | decide | omega)) (pa_cons (pv 0) pa_nil)))))), ?_⟩
    match M0, hM0, hd0, hS0, k with
    | .leaf f nn c, hM0, hd0, hS0, k =>
      obtain ⟨tk, kvs, rfl, lf⟩ := id hM0
      obtain ⟨rfl, hc0⟩ := hS0
      obtain ⟨n1, rfl⟩ := askF_pos ha0
      rw [askF_leaf] at ha0
      cases ha0
      refine ⟨_, rfl, _, _, rfl, dget lf.em lf.kd, (by show 2 ≤ sizeLine; decide), fun lk nlk => ?_⟩
      have s1 := same_upd (o := .lst [V.str "four", .str "eight"]) nlk
      refine ⟨lk, _, rfl, .inl (SqL.of upd_same), rfl, rfl, _, rfl, ?_⟩
      have eo : (if true = true then !inV (.str (kindOf f)) [.str "four", .str "eight"] else inV (.str (kindOf f)) [.str "four", .str "eight"]) = true := by rw [if_pos rfl, kind_leaf]; rfl
      refine cast (congrArg (fun b : Bool => if b = true then _ else _) eo.symm) (iteT ?_)
      exact ⟨_, rfl, _, rfl, m, pu, f, nn, c, _, l0, rfl, hM0.same s1, hc0, s1 _ _ hpu0, npu, l00, fun t H' M' h1 h2 h3 h4 h5 h6 h7 h8 h9 h10 => k t H' M' h1 h2 h3 h4 h5 h6 h7 h8 ((FrF.same s1).trans h9) h10⟩
    | .box ev M0 x0 y0, hM0, hd0, hS0, k =>
      obtain ⟨tk0, kvs0, db0, tkfp, mfp, kd0, _⟩ := hM0.redo
      refine ⟨_, rfl, _, _, rfl, dget db0.em kd0, (by show 2 ≤ sizeLine; decide), fun lk nlk => ?_⟩
      have s1 := same_upd (o := .lst [V.str "four", .str "eight"]) nlk
      refine ⟨lk, _, rfl, .inl (SqL.of upd_same), rfl, rfl, _, rfl, ?_⟩
      have eo : (if true = true then !inV (.str (if ev = true then "eight" else "four")) [.str "four", .str "eight"] else inV (.str (if ev = true then "eight" else "four")) [.str "four", .str "eight"]) = false := by rw [if_pos rfl, kind_box]; rfl
      refine cast (congrArg (fun b : Bool => if b = true then _ else _) eo.symm) (iteF ?_)
      have hM1 := hM0.same s1
      have hpu1 := s1 _ _ hpu0
      have k1 : ToldK K (upd H lk (.lst [V.str "four", .str "eight"])) m pu fp (.box ev M0 x0 y0) l0 o B' l' Q := fun t H' M' h1 h2 h3 h4 h5 h6 h7 h8 h9 h10 => k t H' M' h1 h2 h3 h4 h5 h6 h7 h8 ((FrF.same s1).trans h9) h10
      generalize upd H lk (.lst [V.str "four", .str "eight"]) = Hs at *
      refine while_nat (fun μ σ H1 => ∃ (M : LM) (x y : Mac) (C : Box) (l : Int) (v2 v3 v4 v5 v6 v7 v9 : Option V), σ = [some (.ref m), some (.ref pu), v2, v3, v4, v5, v6, v7, none, v9] ∧ MacAt K H1 (.box ev M x y) m fp ∧ Sim (.box ev M x y) C ∧ askF μ C l = some (o, B', l') ∧ H1 pu = some (.lst [.int l]) ∧ 0 ≤ l ∧ ((Mac.box ev M x y).took : Int) + l = (Mac.box ev M0 x0 y0).took + l0 ∧ M.bg = M0.bg ∧ FrF fp pu Hs H1 ∧ (Mac.box ev M x y).ht = (Mac.box ev M0 x0 y0).ht)
        ⟨M0, x0, y0, B0, l0, none, none, none, none, none, none, none, rfl, hM1, hS0, ha0, hpu1, l00, rfl, rfl, FrF.same (Same.refl _), rfl⟩ ?_ ?_
      · rintro μ σ H1 ⟨M, x, y, C, l, v2, v3, v4, v5, v6, v7, v9, rfl, hM, hS, ha, hpu, lnn, htook, hbg, fr, hht⟩
        obtain ⟨tk, kvs, db, tkf, mf, kd, redo⟩ := hM.redo
        have db1 := db
        obtain ⟨em, len, ⟨p, n1, hp⟩, wh, tkn, ⟨rv, r1, hrv⟩, bgn, ht⟩ := db
        refine ⟨_, rfl, _, _, rfl, dget em r1, rfl, _, rfl, ?_⟩
        cases hrest : M.rest with
        | some tb =>
          obtain ⟨t, b⟩ := tb
          rw [hrest] at hrv
          obtain ⟨qv, rfl, _⟩ := hrv
          obtain ⟨ho, hl', hS', ft, fb⟩ := sim_restN hS hrest ha
          refine iteF ⟨_, rfl, m, tk, kvs, M, t, b, rfl, db1, hrest, ft, fb, fun q H2 kvs2 hq db2 oth2 fr2 => ?_⟩
          have hM2 := redo H2 kvs2 _ db2 oth2 fun c z e n _ => fr2 c z e n
          subst hl'
          refine k1 q H2 _ (by rw [ho]; exact SqT.of hq) hM2 hS' htook ?_ ?_ ?_ lnn (fr.trans fun c z e n n' => fr2 c z e fun y => n (y ▸ mf)) hht
          · show (M.onward t b).bg = (M0.bg || isPart o)
            rw [ho, ← hbg]
            unfold LM.onward restO
            by_cases hb : b = 0
            · rw [if_pos hb, if_pos hb]
              cases M.bg <;> rfl
            · rw [if_neg hb, if_neg hb]
              cases M.bg <;> rfl
          · intro z
            show M0.bg = true
            rw [ho] at z
            unfold restO at z
            by_cases hb : b = 0
            · rw [if_pos hb] at z
              rw [← hbg]
              by_cases y : M.bg = true
              · exact y
              · rw [if_neg y] at z; cases z
            · rw [if_neg hb] at z; cases z
          · refine fr2 _ _ hpu fun y => npu (y ▸ mf)
        | none =>
          rw [hrest] at hrv
          obtain rfl : rv = .non := hrv
          obtain ⟨hl, hf, hcf, hwh1, hwhe, _, hw1⟩ := sim_fitsN hS hrest ha
          have lenI : (((M.ns.map V.int).length : Nat) : Int) = ((M.ns.length : Nat) : Int) := by rw [List.length_map]
          refine iteT ⟨_, rfl, _, _, rfl, dget em wh, ?_⟩
          -- ready
          have atT : ∀ k : Nat, k ≤ 1 → atI [V.int (M.i : Int), .int (M.j : Int)] (k : Int) = some (.int (M.tk k : Int)) := fun k hk => by
            obtain z | z : k = 0 ∨ k = 1 := by omega
            · subst z; rfl
            · subst z; rfl
          refine ⟨_, rfl, _, _, rfl, dget em tkn, _, rfl, tk, _, _, _, rfl, rfl, SqL.of ht, atT M.w hw1, _, _, rfl, rfl, ?_⟩
          refine ⟨_, rfl, _, _, rfl, dget em tkn, tk, _, rfl, .inl (SqL.of ht), rfl, rfl, (by show 2 ≤ sizeLine; decide), fun rl nrl => ?_⟩
          have s1 := same_upd (o := .lst [V.bl (decide ((0 : Int) < (M.tk M.w : Int))), V.bl (!inV (.int 0) [V.int (M.i : Int), .int (M.j : Int)])]) nrl
          have hrl := upd_at s1
          have em1 := s1 _ _ em
          have hp1 := sqT_same hp s1
          have hsel : atI [V.bl (decide ((0 : Int) < (M.tk M.w : Int))), V.bl (!inV (.int 0) [V.int (M.i : Int), .int (M.j : Int)])] (if decide (V.int (((M.ns.map V.int).length : Nat) : Int) = V.int 8) = true then 1 else 0) = some (.bl M.ready) := by
            rw [notZero, lenI]
            rcases hl with hl | hl
            · rw [hl]
              show some (V.bl (decide ((0 : Int) < (M.tk M.w : Int)))) = _
              have e2 : M.ready = decide (0 < M.tk M.w) := if_neg (by rw [hl]; decide)
              rw [e2]
              congr 2
              exact decide_eq_decide.mpr (by omega)
            · rw [hl]
              show some (V.bl (decide (0 < M.i ∧ 0 < M.j))) = _
              have e2 : M.ready = decide (0 < M.i ∧ 0 < M.j) := if_pos hl
              rw [e2]
          refine ⟨_, rfl, _, _, rfl, dget em1 n1, p, _, rfl, .inr hp1, rfl, .inr ⟨_, rfl, rl, _, _, _, rfl, rfl, SqL.of hrl, hsel, ?_⟩⟩
          -- the sure part
          refine ⟨fun σ H3 => σ = [some (.ref m), some (.ref pu), some (.int (M.w : Int)), some (.bl M.ready), some (optV M.sure), v5, v6, v7, none, v9] ∧ Same H1 H3, ?_, ?_⟩
          · refine ⟨_, rfl, _, rfl, ite2 (fun z => ?_) (fun z => ?_)⟩
            · refine ⟨_, rfl, _, _, rfl, dget em1 n1, p, M.ns, rfl, hp1, hl, fun lx H3 hcn s3 => ⟨lx, cornersOf M.ns, rfl, hcn, ?_, ?_, hcf, fun H4 s4 => ⟨?_, s1.trans (s3.trans s4)⟩⟩⟩
              · exact corners_len.1
              · exact corners_len.2
              · unfold LM.sure
                rw [if_pos z]
                rfl
            · refine ⟨?_, s1⟩
              unfold LM.sure
              rw [if_neg z]
              rfl
          rintro σ H3 ⟨rfl, s3⟩
          have db3 := db1.same s3
          have em3 := db3.em
          have hp3 := sqT_same hp s3
          have ht3 := db3.tk
          have hM3 := hM.same s3
          have hpu3 := s3 _ _ hpu
          have fr3 := fr.trans (FrF.same s3)
          have redo3 : ∀ H' kvs' M', DB K H' m tk kvs' M' → Oth kvs kvs' → (∀ c z, H3 c = some z → c ≠ m → c ≠ tk → H' c = some z) → MacAt K H' (.box ev M' x y) m fp := fun H' kvs' M' h1 h2 h3 => redo H' kvs' M' h1 h2 fun c z e n n' => h3 c z (s3 _ _ e) n n'
          cases hsure : M.sure with
          | some qs =>
            obtain ⟨ho, hl', hS'⟩ := sim_tellN hS hrest hsure ha
            subst hl'
            refine ⟨_, rfl, rfl, _, rfl, iteT ?_⟩
            obtain ⟨h, hh, h0, h4⟩ : ∃ h, M.ns.length = 2 * h ∧ 0 < h ∧ h ≤ 4 := by
              rcases hl with hl | hl
              · exact ⟨2, hl, by decide, by decide⟩
              · exact ⟨4, hl, by decide, by decide⟩
            have e1 : (((M.ns.map V.int).length : Nat) : Int) / 2 = ((h : Nat) : Int) := by rw [List.length_map, hh]; omega
            refine ⟨_, rfl, _, _, rfl, dget em3 n1, p, _, rfl, .inr hp3, _, _, rfl, rfl, ⟨by decide, by decide⟩, ?_⟩
            show tSeq _ _ _ [some (V.ref m), some (.ref pu), some (.int (M.w : Int)), some (.bl M.ready), some (V.int qs), some (V.int ((((M.ns.map V.int).length : Nat) : Int) / 2)), v6, v7, none, v9] H3
            rw [e1]
            have hml : (M.ns.map V.int).length = M.ns.length := List.length_map _
            have nf : ¬ (HT.sIx (M.ns.map V.int).length 0 none = 0 ∧ HT.sIx (M.ns.map V.int).length (M.ns.map V.int).length (some (h : Int)) = (M.ns.map V.int).length) := fun z => by
              have := z.2
              rw [HT.sIx_nat, hml] at this
              omega
            refine ⟨_, rfl, _, _, rfl, dget em3 n1, _, rfl, _, rfl, p, _, rfl, hp3, fun z => absurd z nf, fun _ ah nah => ?_⟩
            have c1 : cutV (M.ns.map V.int) none (some (h : Int)) = (M.ns.take h).map V.int := by rw [cut_takeB, List.map_take]
            have s4 := same_upd (o := .tup (cutV (M.ns.map V.int) none (some (h : Int)))) nah
            have hah : SqT K (upd H3 ah (.tup (cutV (M.ns.map V.int) none (some (h : Int))))) ah ((M.ns.take h).map V.int) := by rw [← c1]; exact SqT.of upd_same
            generalize upd H3 ah _ = H4 at *
            have em4 := s4 _ _ em3
            have hp4 := sqT_same hp3 s4
            refine ⟨_, rfl, _, _, rfl, dget em4 n1, _, rfl, _, rfl, p, _, rfl, hp4, fun z => absurd z (not_whole h0 (by rw [List.length_map]; omega)), fun _ bl nbl => ?_⟩
            have c2 : cutV (M.ns.map V.int) (some (h : Int)) none = (M.ns.drop h).map V.int := by rw [cut_dropB, List.map_drop]
            have s5 := same_upd (o := .tup (cutV (M.ns.map V.int) (some (h : Int)) none)) nbl
            have hbl : SqT K (upd H4 bl (.tup (cutV (M.ns.map V.int) (some (h : Int)) none))) bl ((M.ns.drop h).map V.int) := by rw [← c2]; exact SqT.of upd_same
            have hah5 := sqT_same hah s5
            generalize upd H4 bl _ = H5 at *
            have s35 := s4.trans s5
            have fqs : fits qs := by
              have := hsure
              unfold LM.sure at this
              split at this
              · exact surePart_fits this hcf corners_len.1
              · cases this
            have lt' : (M.ns.take h).length = h := by rw [List.length_take]; omega
            have ld : (M.ns.drop h).length = h := by rw [List.length_drop]; omega
            have at1 : ∀ i : Nat, i < h → ((M.ns.take h).map V.int)[i]? = some (.int ((M.ns.take h).getD i 0)) := fun i hi => int_at (by omega)
            have at2 : ∀ i : Nat, i < h → ((M.ns.drop h).map V.int)[i]? = some (.int ((M.ns.drop h).getD i 0)) := fun i hi => int_at (by omega)
            refine ⟨_, rfl, _, rfl, (h : Int), rfl, by omega, by omega, fun D0 nD => lc_range (lo := 0) (n := h) (fun i H' => Same H5 H' ∧ H' D0 = some (.lst (((List.range i).map fun k => (M.ns.take h).getD k 0 - qs * (M.ns.drop h).getD k 0).map V.int))) ⟨same_upd nD, upd_same⟩ ?_ ?_⟩
            · rintro i H' hi' ⟨sx, hD⟩
              refine ⟨rfl, _, rfl, _, rfl, ah, _, _, _, rfl, rfl, sqT_same hah5 sx, at_of (j := i) (by omega) (at1 i hi'), _, rfl, _, rfl, _, rfl, bl, _, _, _, rfl, rfl, sqT_same hbl sx, at_of (j := i) (by omega) (at2 i hi'), _, _, rfl, rfl, fits_mul fqs (hf _ ?_), _, _, rfl, rfl, _, hD, ?_, ?_, ?_⟩
              · exact List.mem_of_mem_drop (getD_mem' (xs := M.ns.drop h) (by omega))
              · rw [List.length_map, List.length_map, List.length_range]
                exact Nat.lt_of_lt_of_le (show i < 20 by omega) (by decide)
              · intro b o z
                rw [upd_ne (ne_of_none z nD)]
                exact sx _ _ z
              · rw [upd_same, List.range_succ, List.map_append, List.map_append]
                rfl
            rintro H6 ⟨s6, hD6⟩
            refine ⟨D0, _, rfl, .inl ⟨SqL.of hD6, fun lt nlt => ?_⟩⟩
            have s7 := same_upd (o := .tup (((List.range h).map fun k => (M.ns.take h).getD k 0 - qs * (M.ns.drop h).getD k 0).map V.int)) nlt
            refine ⟨bl, lt, _, _, rfl, rfl, sqT_same hbl (s6.trans s7), SqT.of upd_same, ?_, fun np H8 s8 hnp => ?_⟩
            · rw [List.length_map, List.length_map, List.length_map, List.length_range, ld]
              exact Nat.le_trans (show h + h ≤ 8 by omega) (by decide)
            have sA := s35.trans ((s6.trans s7).trans s8)
            have hnp6 : SqT K H8 np ((turnedOver M.ns qs).map V.int) := by
              rw [turned_len hh, List.map_append]
              exact hnp
            obtain ⟨d1, o1⟩ := (db3.same sA).putNums (q := np) hnp6
            refine ⟨_, rfl, _, _, rfl, dput (sA _ _ em3) len, ?_⟩
            obtain ⟨d2, o2⟩ := d1.putBg (b' := true)
            refine ⟨_, rfl, _, _, rfl, dput d1.em d1.len, ?_⟩
            refine ⟨_, rfl, (by show 2 ≤ sizeLine; decide), fun qt nqt => ?_⟩
            have s9 := same_upd (o := .tup [V.str "part", .int qs]) nqt
            have frm : ∀ c z, H3 c = some z → c ≠ m → c ≠ tk → (upd (upd (upd H8 m (.dK (putK kvs (.inr "numbers") (.ref np)))) m (.dK (putK (putK kvs (.inr "numbers") (.ref np)) (.inr "begun") (.bl true)))) qt (.tup [V.str "part", .int qs])) c = some z := fun c z e n _ => s9 _ _ (by rw [upd_ne n, upd_ne n]; exact sA _ _ e)
            have frc : FrF fp pu H3 (upd (upd (upd H8 m (.dK (putK kvs (.inr "numbers") (.ref np)))) m (.dK (putK (putK kvs (.inr "numbers") (.ref np)) (.inr "begun") (.bl true)))) qt (.tup [V.str "part", .int qs])) := fun c z e n n' => by
              have nc : c ≠ m := fun y => n (by rw [y]; exact mf)
              exact s9 _ _ (by rw [upd_ne nc, upd_ne nc]; exact sA _ _ e)
            have hM9 := redo3 _ _ (M.tell qs) (d2.same s9) (o1.trans o2) frm
            refine k1 qt _ (.box ev (M.tell qs) x y) ?_ hM9 hS' htook ?_ (fun z => ?_) ?_ lnn (fr3.trans frc) hht
            · rw [ho]
              exact SqT.of upd_same
            · rw [ho]
              show true = (M0.bg || true)
              rw [Bool.or_true]
            · rw [ho] at z
              cases z
            · have nc : pu ≠ m := fun y => npu (by rw [y]; exact mf)
              exact s9 _ _ (by rw [upd_ne nc, upd_ne nc]; exact sA _ _ hpu3)
          | none =>
            refine ⟨_, rfl, rfl, _, rfl, iteF ?_⟩
            -- of which one
            refine ⟨fun σ H4 => H3 = H4 ∧ σ = [some (.ref m), some (.ref pu), some (.int (M.wh : Int)), some (.bl M.ready), some .non, v5, v6, v7, none, v9], ?_, ?_⟩
            · refine ⟨_, rfl, _, _, rfl, dget em3 n1, p, _, rfl, .inr hp3, rfl, _, rfl, ?_⟩
              rcases hl with hl | hl
              · rw [lenI, hl]
                refine iteF ⟨rfl, ?_⟩
                have e : M.wh = M.w := if_neg (by rw [hl]; decide)
                rw [e]
                rfl
              · rw [lenI, hl]
                refine iteT ⟨_, rfl, _, _, rfl, dget em3 tkn, tk, _, _, _, rfl, rfl, SqL.of ht3, atI_nat (j := 1) rfl, _, rfl, _, _, rfl, dget em3 tkn, tk, _, _, _, rfl, rfl, SqL.of ht3, atI_nat (j := 0) rfl, _, _, rfl, rfl, .inr ⟨_, rfl, rfl, ?_⟩⟩
                have e : M.wh = if M.j < M.i then 1 else 0 := if_pos hl
                rw [e]
                by_cases z : M.j < M.i
                · rw [if_pos z, decide_eq_true (show (M.j : Int) < (M.i : Int) by omega)]
                  rfl
                · rw [if_neg z, decide_eq_false (show ¬ (M.j : Int) < (M.i : Int) by omega)]
                  rfl
            rintro σ H4 ⟨rfl, rfl⟩
            have hk : M.wh = 0 ∨ (M.wh = 1 ∧ ev = true) := by
              rcases hwhe with z | z
              · exact .inl z
              · have : M.wh = 0 ∨ M.wh = 1 := by omega
                rcases this with y | y
                · exact .inl y
                · exact .inr ⟨y, z⟩
            obtain ⟨X, n2, o1, X', l1, sX, ln2, ha1, turn⟩ := sim_innN hS hrest hsure ha
            obtain ⟨tk', kvs', il, xs, mi, fi, db', hin, hil, hat, hMi, sub, back⟩ := hM3.inner hk
            obtain rfl : kvs' = kvs := by
              have := db'.em
              rw [em3] at this
              cases this
              rfl
            have d0 : d ≠ 0 := by
              have := inn_ht (M := M) (x := x) (y := y) hk
              omega
            refine ⟨_, rfl, _, _, rfl, dget em3 hin, _, rfl, il, xs, _, _, rfl, rfl, SqL.of hil, hat, _, rfl, d0, mi, pu, inn M.wh x y, fi, X, l, n2, o1, X', l1, rfl, hMi, ?_, sX, hpu3, fun z => npu (sub _ z), lnn, ha1, fun t H5 z ht5 hz sz tk5 told5 fin5 hpu5 l15 fr5 hh5 => ?_⟩
            · have := inn_ht (M := M) (x := x) (y := y) hk
              omega
            have hM5 := back pu _ H5 z npu hpu3 fr5 hz
            have tn := turn z sz told5
            have fr5' := fr3.trans (fr5.sub sub)
            have took5 : ((Mac.box ev M (setX M.wh z x) (setY M.wh z y)).took : Int) + l1 = (Mac.box ev M0 x0 y0).took + l0 := by
              have := took_set (M := M) (M' := M) (x := x) (y := y) (z := z) hk
              omega
            have ht5' : (Mac.box ev M (setX M.wh z x) (setY M.wh z y)).ht = (Mac.box ev M0 x0 y0).ht := (ht_set (M := M) hk hh5).trans hht
            have early : (o1 = none ∨ o1 = some .waits) → Q (.ref t) H5 := fun h => by
              have tn2 : o = o1 ∧ l' = l1 ∧ Sim (.box ev M (setX M.wh z x) (setY M.wh z y)) B' := by
                rcases h with rfl | rfl
                · exact tn
                · exact tn
              obtain ⟨ho, hl', hS'⟩ := tn2
              subst ho hl'
              refine k1 t H5 _ ht5 hM5 hS' took5 ?_ (fun y => ?_) hpu5 l15 fr5' ht5'
              · show M.bg = (M0.bg || isPart o)
                rw [hbg]
                rcases h with rfl | rfl <;> exact (Bool.or_false _).symm
              · rcases h with rfl | rfl <;> cases y
            have npm : pu ≠ m := fun y => npu (by rw [y]; exact mf)
            have endbg : ∀ k : Nat, (M.end_ k).bg = M.bg := fun k => by
              unfold LM.end_
              split
              · rfl
              · split
                · rfl
                · split <;> rfl
            match o1, ht5, tn, fin5, early with
            | none, ht5, tn, fin5, early =>
              refine ⟨_, rfl, t, _, 0, _, rfl, rfl, ht5, atI_nat (j := 0) rfl, rfl, _, rfl, ite2 (fun c => absurd (of_decide_eq_true c) (by decide +kernel)) (fun _ => ?_)⟩
              refine ⟨_, rfl, t, _, 0, _, rfl, rfl, ht5, atI_nat (j := 0) rfl, rfl, _, rfl, ite2 (fun _ => ⟨_, rfl, early (.inl rfl)⟩) (fun c => ?_)⟩
              exact absurd (by decide +kernel) c
            | some .waits, ht5, tn, fin5, early =>
              refine ⟨_, rfl, t, _, 0, _, rfl, rfl, ht5, atI_nat (j := 0) rfl, rfl, _, rfl, ite2 (fun c => absurd (of_decide_eq_true c) (by decide +kernel)) (fun _ => ?_)⟩
              refine ⟨_, rfl, t, _, 0, _, rfl, rfl, ht5, atI_nat (j := 0) rfl, rfl, _, rfl, ite2 (fun _ => ⟨_, rfl, early (.inr rfl)⟩) (fun c => ?_)⟩
              exact absurd (by decide +kernel) c
            | some .fin, ht5, tn, fin5, early =>
              refine ⟨_, rfl, t, _, 0, _, rfl, rfl, ht5, atI_nat (j := 0) rfl, rfl, _, rfl, ite2 (fun _ => ?_) (fun c => absurd (decide_eq_true rfl) c)⟩
              obtain ⟨C, n3, ln3, hSC, haC⟩ := tn (fin5 rfl)
              obtain ⟨tk5, kvs5, db5, _, _, _, redo5⟩ := hM5.redo
              refine ⟨_, rfl, _, rfl, m, tk5, kvs5, M, M.wh, rfl, db5, hwh1, hrest, hl, hf, fun H6 kvs6 db6 oth6 fr6 => ?_⟩
              exact ⟨n3, ln3, M.end_ M.wh, _, _, C, l1, _, _, _, _, _, _, _, rfl, redo5 H6 kvs6 _ db6 oth6 (fun c z e n _ => fr6 c z e n), hSC, haC, fr6 _ _ hpu5 npm, l15, took5, (endbg _).trans hbg, fr5'.trans (fun c z e n _ => fr6 c z e fun y => n (by rw [y]; exact mf)), ht5'⟩
            | some (.part q), ht5, tn, fin5, early =>
              refine ⟨_, rfl, t, _, 0, _, rfl, rfl, ht5, atI_nat (j := 0) rfl, rfl, _, rfl, ite2 (fun c => absurd (of_decide_eq_true c) (by decide +kernel)) (fun _ => ?_)⟩
              refine ⟨_, rfl, t, _, 0, _, rfl, rfl, ht5, atI_nat (j := 0) rfl, rfl, _, rfl, ite2 (fun c => absurd c (by decide +kernel)) (fun _ => ?_)⟩
              obtain ⟨hq, C, n3, ln3, hSC, haC⟩ := tn
              obtain ⟨tk5, kvs5, db5, tkf5, _, _, redo5⟩ := hM5.redo
              have db5' := db5
              obtain ⟨em5, len5, ⟨p5, n15, hp5⟩, _, tkn5, _, _, htk5⟩ := db5
              refine ⟨_, rfl, _, _, rfl, dget em5 n15, _, rfl, _, rfl, t, _, 1, _, rfl, rfl, ht5, atI_nat (j := 1) rfl, ?_⟩
              refine ⟨p5, M.ns, M.wh, q, rfl, hp5, hl, hf, hq, fun np H6 hnp s6 => ?_⟩
              obtain ⟨d1, o1'⟩ := (db5'.same s6).putNums (q := np) (ns' := movedBy M.ns M.wh q) hnp
              refine ⟨_, rfl, _, _, rfl, dput (s6 _ _ em5) len5, ?_⟩
              have nt5 := d1.ne
              have fr6 : ∀ c z, H5 c = some z → c ≠ m → (upd H6 m (.dK (putK kvs5 (.inr "numbers") (.ref np)))) c = some z := fun c z e n => by rw [upd_ne n]; exact s6 _ _ e
              generalize upd H6 m (.dK (putK kvs5 (.inr "numbers") (.ref np))) = H7 at *
              have hl7 := d1.len
              have em7 := d1.em
              have tkn7 := d1.tkn
              have ht7 := d1.tk
              refine ⟨_, rfl, _, _, rfl, dget em7 tkn7, _, rfl, tk5, _, _, _, rfl, rfl, SqL.of ht7, atT _ hwh1, _, _, rfl, rfl, ?_⟩
              have hix : ixN [V.int (M.i : Int), .int (M.j : Int)].length (M.wh : Int) = some M.wh := by
                obtain z | z : M.wh = 0 ∨ M.wh = 1 := by omega
                · rw [z]; rfl
                · rw [z]; rfl
              refine ⟨_, rfl, _, _, rfl, dget em7 tkn7, _, rfl, tk5, _, _, _, rfl, rfl, ht7, hix, ?_⟩
              have npk : pu ≠ tk5 := fun y => npu (by rw [y]; exact tkf5)
              obtain ⟨kvs7, hk7⟩ : ∃ kvs7, kvs7 = putK kvs5 (.inr "numbers") (.ref np) := ⟨_, rfl⟩
              rw [← hk7] at d1 o1'
              have dT : DB K (upd H7 tk5 (.lst ([V.int (M.i : Int), .int (M.j : Int)].set M.wh (V.int ((M.tk M.wh : Int) + 1))))) m tk5 kvs7 (M.take M.wh q) := by
                obtain ⟨e1, len1, ⟨p1, a1, a2⟩, w1, t1, ⟨rv1, b1, b2⟩, g1, h1⟩ := d1
                unfold LM.take
                split
                · rename_i z
                  refine ⟨by rw [upd_ne nt5.symm]; exact e1, len1, ⟨p1, a1, sqT_lst a2 h1⟩, w1, t1, ⟨rv1, b1, b2.imp fun t xs h => sqT_lst h h1⟩, g1, ?_⟩
                  rw [upd_same, z]
                  rfl
                · rename_i z
                  have z1 : M.wh = 1 := by omega
                  refine ⟨by rw [upd_ne nt5.symm]; exact e1, len1, ⟨p1, a1, sqT_lst a2 h1⟩, w1, t1, ⟨rv1, b1, b2.imp fun t xs h => sqT_lst h h1⟩, g1, ?_⟩
                  rw [upd_same, z1]
                  rfl
              have bgT : (M.take M.wh q).bg = M.bg := by
                unfold LM.take
                split <;> rfl
              refine ⟨n3, ln3, M.take M.wh q, _, _, C, l1, _, _, _, _, _, _, _, rfl, redo5 _ kvs7 _ dT o1' (fun c z e n n' => by rw [upd_ne n']; exact fr6 c z e n), hSC, haC, ?_, l15, took5, bgT.trans hbg, fr5'.trans (fun c z e n _ => ?_), ht5'⟩
              · rw [upd_ne npk]
                exact fr6 _ _ hpu5 npm
              · rw [upd_ne (fun y => n (by rw [y]; exact tkf5))]
                exact fr6 _ _ e fun y => n (by rw [y]; exact mf)
      · intro σ H2 Q1 Q2 im hq
        obtain ⟨x, e, a, v, e1, g, e2, b, eb, z⟩ := hq
        exact ⟨x, e, a, v, e1, g, e2, b, eb, im _ _ z⟩
end
/-! ### triples beside a root's chain -/
theorem qrel_bd {d A B C : Int} {ch : Chain} (R : QRel d A B C ch) (ok : ch.Ok) : bd 1000 A ∧ bd 1000 B ∧ bd 1000 C := by
  cases ch with
  | frac t b =>
    obtain ⟨rfl, g, hg, rfl, rfl⟩ := R
    exact ⟨bd.of_dvd (a := g * A) ok.1 rfl hg, bd0, bd.of_dvd (a := g * C) ok.2 rfl hg⟩
  | root Pn s Qn r =>
    obtain ⟨g, hg, gB, rfl, rfl, hs⟩ := R
    obtain ⟨st, sb, _⟩ := root_small ok
    refine ⟨bd.of_dvd (a := g * A) st rfl hg, ?_, bd.of_dvd (a := g * C) sb rfl hg⟩
    have d0 : 0 < d := by
      rcases Int.lt_or_le 0 d with z | z
      · exact z
      · exfalso
        have k := Int.mul_nonneg (Int.mul_nonneg (show 0 ≤ g * B by omega) (show 0 ≤ g * B by omega)) (show 0 ≤ -d by omega)
        have e : g * B * (g * B) * -d = -(g * B * (g * B) * d) := by grind
        have rr := ok.rt
        have := sq_nonneg r
        have s0 : s = 0 := by have := rr.2.1; omega
        have r0 : r = 0 := by
          have := rr.2.1
          rcases Int.mul_eq_zero.mp (show r * r = 0 by omega) with y | y <;> exact y
        exact ok.ns (by rw [r0, s0]; rfl)
    have le : g * B * (g * B) ≤ s := by
      rw [hs]
      have := Int.mul_le_mul_of_nonneg_left (show 1 ≤ d from d0) (sq_nonneg (g * B))
      omega
    have lt : g * B < 2 ^ 200 := lt_of_sq (k := 200) (Int.le_of_lt gB) le ok.sw
    have z : bd 200 (g * B) := natAbs_lt_pow (Int.le_of_lt gB) lt
    exact (z.of_dvd rfl hg).mono (by decide)
  | ruled _ _ _ _ => exact R.elim
theorem qrel_end {d A B C : Int} {ch : Chain} (R : QRel d A B C ch) (hC : 0 < C) : ch.ended = false := by
  cases ch with
  | frac t b =>
    obtain ⟨_, g, hg, _, rfl⟩ := R
    refine decide_eq_false fun z => ?_
    rcases Int.mul_eq_zero.mp z with y | y
    · exact hg y
    · omega
  | root _ _ _ _ => rfl
  | ruled _ _ _ _ => exact R.elim
theorem qrel_part {d A B C r' : Int} {ch : Chain} (R : QRel d A B C ch) (ok : ch.Ok) (hC : 0 < C) (hr' : IsRoot (B * B * d) r') : qbelow A B C d r' = ch.part := by
  cases ch with
  | frac t b =>
    obtain ⟨rfl, g, hg, rfl, rfl⟩ := R
    have e0 : (0 : Int) * 0 * d = 0 := by grind
    rw [e0] at hr'
    have r0 : r' = 0 := hr'.unique ⟨by decide, by decide, by decide⟩
    have e : qbelow A 0 C d r' = A.fdiv C := by
      unfold qbelow qroot
      rw [if_neg (by decide), r0, Int.add_zero]
    rw [e]
    exact (fdiv_scale (A := A) hg hC).1.symm
  | root Pn s Qn r =>
    obtain ⟨g, hg, gB, rfl, rfl, rfl⟩ := R
    exact qfloor hg hC gB ok.rt ok.ns hr'
  | ruled _ _ _ _ => exact R.elim
theorem IsRoot.sq_of {s r z : Int} (h : IsRoot s r) (e : s = z * z) : r * r = s := by
  have h2 := IsRoot.abs (s := s) (t := z) e.symm
  have := h.unique h2
  rw [this, e]
  have : ((z.natAbs : Int)) * (z.natAbs : Int) = z * z := by
    rcases Int.natAbs_eq z with y | y
    · rw [← y]
    · have y2 : (z.natAbs : Int) = -z := by omega
      rw [y2]
      grind
  exact this
/-- one over what is left of a triple -/
theorem qrel_step {d : Int} {x : Tri} {P s Q r : Int} (ok : RootOk P s Q r) (R : QRel d x.1 x.2.1 x.2.2 (.root P s Q r)) (hC : 0 < x.2.2) : ∃ y, qquot d (1, 0, 1) (qsum x (rootPart P Q r, 0, 1) (-1)) = some y ∧ QRel d y.1 y.2.1 y.2.2 (Chain.next (.root P s Q r)) ∧ Prim y.1 y.2.1 y.2.2 ∧ 0 < y.2.2 := by
  obtain ⟨A, B, C⟩ := x
  dsimp only at R hC
  have B0 : B ≠ 0 := fun z => by
    obtain ⟨g, _, gB, _⟩ := R
    rw [z, Int.mul_zero] at gB
    omega
  generalize ha : rootPart P Q r = a at *
  have eu : qsum (A, B, C) (a, 0, 1) (-1) = qmade (A * 1 + -1 * a * C) (B * 1 + -1 * 0 * C) (C * 1) := rfl
  obtain ⟨g1, g10, _, u1, u2, u3, uC, _⟩ := qmade_spec (a := A * 1 + -1 * a * C) (b := B * 1 + -1 * 0 * C) (c := C * 1) (by omega)
  rw [eu]
  generalize qmade (A * 1 + -1 * a * C) (B * 1 + -1 * 0 * C) (C * 1) = u at *
  obtain ⟨U1, U2, U3⟩ := u
  dsimp only at u1 u2 u3 uC
  have U20 : U2 ≠ 0 := fun z => by
    rw [z, Int.mul_zero] at u2
    omega
  have e3' : (A - a * C) * (A - a * C) - d * B * B = g1 * g1 * (U1 * U1 - d * U2 * U2) := by
    have h1 : A - a * C = g1 * U1 := by rw [← u1]; grind
    have h2 : B = g1 * U2 := by rw [← u2]; grind
    rw [h1, h2]
    grind
  have n0 : U1 * U1 - d * U2 * U2 ≠ 0 := fun z => by
    rw [z, Int.mul_zero] at e3'
    obtain ⟨g, hg, gB, hP, hQ, hs⟩ := R
    have nx := root_next ok
    have dv := ok.dv
    have : s = (g * (A - a * C)) * (g * (A - a * C)) := by
      rw [hs]
      have : g * B * (g * B) * d = g * g * (d * B * B) := by grind
      rw [this, show d * B * B = (A - a * C) * (A - a * C) by omega]
      grind
    exact ok.ns (IsRoot.sq_of ok.rt this)
  obtain ⟨g2, g20, _, v1, v2, v3, vC, _⟩ := qmade_spec (a := U3 * U1) (b := 0 - U3 * U2) (c := U1 * U1 - d * U2 * U2) n0
  have ev : qinv d (U1, U2, U3) = qmade (U3 * U1) (0 - U3 * U2) (U1 * U1 - d * U2 * U2) := rfl
  unfold qquot
  rw [if_neg (fun z => U20 z.2), ev]
  generalize qmade (U3 * U1) (0 - U3 * U2) (U1 * U1 - d * U2 * U2) = v at *
  obtain ⟨V1, V2, V3⟩ := v
  dsimp only at v1 v2 v3 vC
  have ew : qprod d (1, 0, 1) (V1, V2, V3) = qmade (1 * V1 + d * 0 * V2) (1 * V2 + 0 * V1) (1 * V3) := rfl
  obtain ⟨g3, g30, _, w1, w2, w3, wC, wP⟩ := qmade_spec (a := 1 * V1 + d * 0 * V2) (b := 1 * V2 + 0 * V1) (c := 1 * V3) (by omega)
  rw [ew]
  generalize qmade (1 * V1 + d * 0 * V2) (1 * V2 + 0 * V1) (1 * V3) = y at *
  refine ⟨y, rfl, ?_, wP, wC⟩
  have W1 : V1 = g3 * y.1 := by rw [← w1]; grind
  have W2 : V2 = g3 * y.2.1 := by rw [← w2]; grind
  have W3 : V3 = g3 * y.2.2 := by rw [← w3]; grind
  have h1 : A - a * C = g1 * U1 := by rw [← u1]; grind
  have h2 : B = g1 * U2 := by rw [← u2]; grind
  have h3 : C = g1 * U3 := by rw [← u3]; grind
  refine qrel_next_root (h := g1 * g1 * g2 * g3) ok R hC ha.symm wP ?_ ?_ ?_ wC
  · have : C * (A - a * C) = g1 * g1 * (U3 * U1) := by rw [h1, h3]; grind
    rw [this, v1, W1]
    grind
  · have : -(C * B) = g1 * g1 * (0 - U3 * U2) := by rw [h2, h3]; grind
    rw [this, v2, W2]
    grind
  · rw [e3', v3, W3]
    grind
theorem nonsq_of {d : Int} (h : ∀ r : Int, r * r ≠ d) : NonSq d := fun x y e => by
  by_cases hy : y = 0
  · subst hy
    have : x * x = 0 := by
      have : d * 0 * 0 = 0 := by grind
      omega
    rcases Int.mul_eq_zero.mp this with z | z <;> exact ⟨z, rfl⟩
  · exfalso
    have e1 : x * x = d * (y * y) := by
      have : d * y * y = d * (y * y) := Int.mul_assoc _ _ _
      omega
    have dv : y ^ 2 ∣ x ^ 2 := ⟨d, by rw [Int.pow_succ, Int.pow_succ, Int.pow_zero, Int.one_mul, Int.pow_succ, Int.pow_succ, Int.pow_zero, Int.one_mul, e1, Int.mul_comm]⟩
    obtain ⟨k, hk⟩ := (Int.pow_dvd_pow_iff (by decide)).mp dv
    have e2 : k * k * (y * y) = d * (y * y) := by
      rw [← e1, hk]
      grind
    have y2 : y * y ≠ 0 := fun z => by rcases Int.mul_eq_zero.mp z with z | z <;> exact hy z
    exact h k (Int.eq_of_mul_eq_mul_right y2 e2)
theorem nonsq_rel {d : Int} {x : Tri} {P s Q r : Int} (ok : RootOk P s Q r) (R : QRel d x.1 x.2.1 x.2.2 (.root P s Q r)) : NonSq d := nonsq_of fun z e => by
  obtain ⟨g, _, _, _, _, hs⟩ := R
  refine ok.ns (IsRoot.sq_of ok.rt (z := g * x.2.1 * z) ?_)
  rw [hs, ← e]
  grind
/-! ### the root below, and the whole part of a triple, squares to 10 ** 12 -/
theorem root_bd {n r : Int} {k : Nat} (hr : IsRoot n r) (h : bd (k + k) n) : bd k r := by
  refine natAbs_lt_pow hr.1 (lt_of_sq (k := k) hr.1 hr.2.1 ?_)
  have z : n.natAbs < 2 ^ (k + k) := h
  have e2 : ((2 ^ (k + k) : Nat) : Int) = 2 ^ (k + k) := by norm_cast
  omega
theorem qb_bd {N : Nat} {d r' : Int} {x : Tri} (h : tb N x) (hd : bd 100 d) (hr : IsRoot (x.2.1 * x.2.1 * d) r') : bd (N + 50) r' ∧ bd (N + 52) (qbelow x.1 x.2.1 x.2.2 d r') := by
  obtain ⟨b1, b2, b3, hC⟩ := h
  have br : bd (N + 50) r' := root_bd hr (((b2.mul b2).mul hd).mono (by omega))
  refine ⟨br, ?_⟩
  have bq : bd (N + 51) (qroot x.2.1 d r') := by
    have z : r'.natAbs < 2 ^ (N + 50) := br
    have p : 2 ^ (N + 51) = 2 ^ (N + 50) * 2 := Nat.pow_succ ..
    have p0 : 0 < 2 ^ (N + 50) := Nat.pow_pos (by decide)
    show (qroot x.2.1 d r').natAbs < 2 ^ (N + 51)
    rw [p]
    generalize 2 ^ (N + 50) = Z at *
    have r0 := hr.1
    unfold qroot
    split
    · split <;> omega
    · omega
  exact Nat.lt_of_le_of_lt (fdiv_abs (by omega)) ((b1.mono (show N ≤ N + 51 by omega)).add bq)
section
variable {P : Program} [NoTree P] {w : World} {K : PySem.W.Frag} {mg : Str → Option Value} {base : Heap} {A : Ad}
def sp_qroot : Sp := fun vs H Q _ => ∃ (n : Int) (M : Nat), vs = [.int n] ∧ 0 ≤ n ∧ bd M n ∧ M ≤ 1999990 ∧ ∀ r, IsRoot n r → Q (.int r) H
theorem ok_qroot (D : DT K mg A) : COk P w K mg base CX0 1 "_law_root" ["_law_number"] sp_qroot := by
  refine COk.by D.law_root fun f fd F => ?_
  refine F.ok sc_law_root (fun vs H Q E h => ?_) (fun cdv Ar outer s H vs Q E hr h => ?_)
  · obtain ⟨n, M, rfl, _⟩ := h
    rfl
  · obtain ⟨n, M, rfl, h0, hw, hM, k⟩ := h
    refine ⟨_, (pss_cons (ps_set (i := 1) sc_law_root.nd rfl (Or.inl rfl) pe_int)
    (pss_cons (ps_set (i := 2) sc_law_root.nd rfl (Or.inl rfl) (pe_op op_shl pe_int (pe_op op_add (pe_op op_fdiv (pe_bits (pv 0)) pe_int) pe_int)))
    (pss_cons (ps_while PassesOwn.never (pt_cmpR op_gt (pe_op op_sub (pv 2) (pv 1)) pe_int (nomark _))
      (pss_cons (ps_set (i := 3) sc_law_root.nd rfl (Or.inl rfl) (pe_op op_fdiv (pe_op op_add (pv 1) (pv 2)) pe_int))
    (pss_one (ps_if (pt_cmpR op_le (pe_op op_mulW (pv 3) (pv 3)) (pv 0) (nomark _))
      (pss_one (ps_set (i := 1) sc_law_root.nd rfl (Or.inl rfl) (pv 3))) (pss_one (ps_set (i := 2) sc_law_root.nd rfl (Or.inl rfl) (pv 3)))))))
    (pss_one (ps_ret (pv 1)))))), ?_⟩
    have hbits : Builtin.Int.intBits n ≤ M := PyProof.Rows.intBits_le hw
    obtain ⟨W, hW⟩ : ∃ W : Nat, W = 1000000 := ⟨_, rfl⟩
    have hb : n < (2 : Int) ^ Builtin.Int.intBits n := by
      unfold Builtin.Int.intBits
      split
      · rename_i z
        have : n = 0 := by simpa using z
        subst this
        decide
      · have := Nat.lt_log2_self (n := n.natAbs)
        have e : ((2 ^ (n.natAbs.log2 + 1) : Nat) : Int) = 2 ^ (n.natAbs.log2 + 1) := by norm_cast
        omega
    refine ⟨_, rfl, _, rfl, _, _, rfl, rfl, ⟨by decide, by decide⟩, _, _, rfl, rfl, _, _, rfl, rfl, ⟨by omega, by omega, by decide⟩, ?_⟩
    have e0 : ((Builtin.Int.intBits n : Nat) : Int) / 2 + 1 = ((Builtin.Int.intBits n / 2 + 1 : Nat) : Int) := by omega
    have e1 : (1 : Int) * 2 ^ (((Builtin.Int.intBits n : Nat) : Int) / 2 + 1).toNat = 2 ^ (Builtin.Int.intBits n / 2 + 1) := by rw [e0, Int.toNat_natCast, Int.one_mul]
    show tSeq _ _ _ [some (V.int n), some (V.int 0), some (V.int ((1 : Int) * 2 ^ (((Builtin.Int.intBits n : Nat) : Int) / 2 + 1).toNat)), none] H
    rw [e1]
    generalize Builtin.Int.intBits n = m at *
    have hsq : n < (2 : Int) ^ (m / 2 + 1) * 2 ^ (m / 2 + 1) := by
      rw [← Int.pow_add]
      have z := Nat.pow_le_pow_right (n := 2) (by decide) (show m ≤ m / 2 + 1 + (m / 2 + 1) by omega)
      have z2 : (2 : Int) ^ m ≤ 2 ^ (m / 2 + 1 + (m / 2 + 1)) := by exact_mod_cast z
      omega
    have hpos : (0 : Int) < 2 ^ (m / 2 + 1) := Int.pow_pos (by decide)
    have hbig : (2 : Int) ^ (m / 2 + 1) < 2 ^ W := Int.pow_lt_pow_of_lt (by decide) (by omega)
    generalize (2 : Int) ^ (m / 2 + 1) = hi at *
    refine while_by (fun σ H2 => ∃ (lo hi : Int) (v : Option V), σ = [some (.int n), some (.int lo), some (.int hi), v] ∧ 0 ≤ lo ∧ lo < hi ∧ hi < 2 ^ W ∧ lo * lo ≤ n ∧ n < hi * hi ∧ H2 = H)
      (fun σ _ => match σ with | [_, some (.int lo), some (.int hi), _] => (hi - lo).toNat | _ => 0) ⟨0, hi, none, rfl, by decide, hpos, hbig, by omega, hsq, rfl⟩ ?_ ?_
    · rintro σ H2 ⟨lo, hi, v, rfl, l0, lh, hb2, l1, h1, rfl⟩
      refine ⟨_, rfl, _, rfl, _, _, rfl, rfl, _, _, rfl, rfl, _, rfl, ite2 (fun c => ?_) (fun c => ?_)⟩
      · have c' : 1 < hi - lo := of_decide_eq_true c
        have mid0 : 0 ≤ (lo + hi) / 2 := by omega
        have midb : (lo + hi) / 2 < 2 ^ W := by omega
        have cm : CMulW ((lo + hi) / 2) ((lo + hi) / 2) := wide_mul (a := W) (b := W) (natAbs_lt_pow mid0 midb) (natAbs_lt_pow mid0 midb) (by omega) (by omega) (by omega)
        refine ⟨_, rfl, _, rfl, _, _, rfl, rfl, _, _, rfl, rfl, ⟨by decide, by decide⟩, ?_⟩
        refine ⟨_, rfl, _, rfl, _, _, rfl, rfl, cm, _, rfl, _, _, rfl, rfl, _, rfl, ite2 (fun c2 => ?_) (fun c2 => ?_)⟩
        · have c2' : (lo + hi) / 2 * ((lo + hi) / 2) ≤ n := of_decide_eq_true c2
          exact ⟨_, rfl, ⟨_, _, _, rfl, mid0, by omega, hb2, c2', h1, rfl⟩, by show (hi - (lo + hi) / 2).toNat < (hi - lo).toNat; omega⟩
        · have c2' : ¬ (lo + hi) / 2 * ((lo + hi) / 2) ≤ n := fun z => c2 (decide_eq_true z)
          exact ⟨_, rfl, ⟨_, _, _, rfl, l0, by omega, midb, l1, by omega, rfl⟩, by show ((lo + hi) / 2 - lo).toNat < (hi - lo).toNat; omega⟩
      · have c' : ¬ 1 < hi - lo := fun z => c (decide_eq_true z)
        have e : hi = lo + 1 := by omega
        subst e
        exact ⟨_, rfl, k lo ⟨l0, l1, h1⟩⟩
    · intro σ H2 Q1 Q2 im hq
      obtain ⟨x, e, y, e2, i, j, e3, e4, i2, j2, e5, e6, b, e7, z⟩ := hq
      exact ⟨x, e, y, e2, i, j, e3, e4, i2, j2, e5, e6, b, e7, im _ _ z⟩
def sp_qbelow (K : PySem.W.Frag) : Sp := fun vs H Q _ => ∃ (p : Addr) (x : Tri) (d : Int), vs = [.ref p, .int d] ∧ N3 K H p x ∧ tb 730000 x ∧ 0 ≤ d ∧ bd 100 d ∧ ∀ r', IsRoot (x.2.1 * x.2.1 * d) r' → Q (.int (qbelow x.1 x.2.1 x.2.2 d r')) H
theorem ok_qbelow (T : CT K mg A) (D : DT K mg A) : COk P w K mg base CX0 36 "_law_below" ["_law_one", "_law_d"] (sp_qbelow K) := by
  have G_law_root := ok_qroot (P := P) (w := w) (base := base) D
  refine COk.by D.law_below fun f fd F => ?_
  refine F.ok (k := 35) sc_law_below (fun vs H Q E h => ?_) (fun cdv Ar outer s H vs Q E hr h => ?_)
  · obtain ⟨p, x, d, rfl, _⟩ := h
    rfl
  · obtain ⟨p, ⟨a, b, c⟩, d, rfl, hp, htb, hd, hz, k⟩ := h
    refine ⟨_, (pss_cons (ps_set (i := 2) sc_law_below.nd rfl (Or.inl rfl) (pe_op op_mulW (pe_op op_mulW (pe_ix ix_tup (pv 0) pe_int (fun _ _ => rfl)) (pe_ix ix_tup (pv 0) pe_int (fun _ _ => rfl))) (pv 1)))
    (pss_cons (ps_set (i := 3) sc_law_below.nd rfl (Or.inl rfl) (pe_c G_law_root (hr.mono (by first | decide | omega)) (pa_cons (pv 2) pa_nil)))
    (C8.pss_cut (ps_if (pt_cmpR op_lt (pe_ix ix_tup (pv 0) pe_int (fun _ _ => rfl)) pe_int (nomark _))
      (pss_one (ps_set (i := 3) sc_law_below.nd rfl (Or.inl rfl) (pe_op op_sub (pe_op op_sub pe_int (pv 3)) (pe_callTy call_int1 (by rfl) T.b_int (by decide +kernel) (pa_cons (pe_cmpR op_lt (pe_op op_mulW (pv 3) (pv 3)) (pv 2) (nomark _)) pa_nil))))) pss_nil)
    (pss_one (ps_ret (pe_op (op_fdivM T.seer (NoTree.tree (P := P)) hr (by first | decide | omega) rfl rfl rfl) (pe_op op_add (pe_ix ix_tup (pv 0) pe_int (fun _ _ => rfl)) (pv 3)) (pe_ix ix_tup (pv 0) pe_int (fun _ _ => rfl)))))))), ?_⟩
    have qbb := fun r' h => (qb_bd (r' := r') htb hz h).1
    obtain ⟨x0, x1, x2, hc⟩ := htb
    dsimp only at x0 x1 x2 hc k qbb
    have n0 : 0 ≤ b * b * d := Int.mul_nonneg (sq_nonneg b) hd
    have nb : bd (730000 + 730000 + 100) (b * b * d) := (x1.mul x1).mul hz
    refine ⟨_, rfl, p, _, 1, _, rfl, rfl, hp, atI_nat (j := 1) rfl, _, rfl, p, _, 1, _, rfl, rfl, hp, atI_nat (j := 1) rfl, _, _, rfl, rfl, x1.cm x1 (by decide) (by decide) (by decide), _, rfl, _, _, rfl, rfl, (x1.mul x1).cm hz (by decide) (by decide) (by decide), ?_⟩
    refine ⟨_, rfl, _, _, rfl, n0, nb, by decide, fun r' hr' => ?_⟩
    have br : bd 730050 r' := qbb r' hr'
    have hk := k r' hr'
    refine ⟨fun σ H2 => σ = [some (.ref p), some (.int d), some (.int (b * b * d)), some (.int (qroot b d r'))] ∧ H2 = H, ?_, ?_⟩
    · refine ⟨_, rfl, p, _, 1, _, rfl, rfl, hp, atI_nat (j := 1) rfl, _, _, rfl, rfl, _, rfl, ite2 (fun cc => ?_) (fun cc => ?_)⟩
      · have c' : b < 0 := of_decide_eq_true cc
        refine ⟨_, rfl, _, _, rfl, rfl, _, rfl, _, rfl, _, _, rfl, rfl, br.cm br (by decide) (by decide) (by decide), _, rfl, _, _, rfl, rfl, .inr ⟨_, rfl, _, _, rfl, rfl, ?_, rfl⟩⟩
        show [some (V.ref p), some (V.int d), some (V.int (b * b * d)), some (V.int (0 - r' - (if decide (r' * r' < b * b * d) = true then 1 else 0)))] = _
        unfold qroot
        rw [if_pos c']
        by_cases y : r' * r' < b * b * d
        · rw [decide_eq_true y, if_pos rfl, if_pos y]
        · rw [decide_eq_false y, if_neg (by decide), if_neg y]
      · have c' : ¬ b < 0 := fun z => cc (decide_eq_true z)
        refine ⟨?_, rfl⟩
        unfold qroot
        rw [if_neg c']
        rfl
    · rintro σ H2 ⟨rfl, rfl⟩
      refine ⟨_, rfl, p, _, 0, _, rfl, rfl, hp, atI_nat (j := 0) rfl, _, rfl, _, _, rfl, rfl, _, rfl, p, _, 2, _, rfl, rfl, hp, atI_nat (j := 2) rfl, _, _, rfl, rfl, (show c ≠ 0 by omega), hk⟩
end
/-! ### what a leaf's machine tells -/
section
variable {P : Program} [NoTree P] {w : World} {K : PySem.W.Frag} {mg : Str → Option Value} {base : Heap} {A : Ad}
theorem shaped_tints (ns : List Int) : SeqAt.shaped (.tuple (ns.map PyData.int)) = true := by
  simp [SeqAt.shaped, PyData.canLay0, PyData.depth, PySem.W.ke_canLayAll0, PySem.W.ke_depthAll]
theorem eqv_empty (ns : List Int) : PyData.eqv (.tuple (ns.map PyData.int)) (.tuple []) = decide (ns = []) := by
  cases ns with
  | nil => rfl
  | cons x r => rfl
theorem small_fits {z : Int} (h : small z) : fits z := fits_of (Nat.lt_of_lt_of_le h (Nat.pow_le_pow_right (by decide) (by decide)))
theorem ok_leaf_told (T : CT K mg A) (D : DT K mg A) (G_law_common : COk P w K mg base CX0 1 "_law_common" ["_law_one", "_law_other"] sp_law_common) : COk P w K mg base CX0 40 "_law_leaf_told" ["_law_m", "_law_purse"] (sp_leaf_told K) := by
  have G_law_made := ok_qmade (P := P) (w := w) (base := base) T D G_law_common
  have G_law_sum : COk P w K mg base CX0 37 "_law_sum" ["_law_one", "_law_other", "_law_by"] (sp_qsum K) := ok_qsum D G_law_made
  have G_law_product : COk P w K mg base CX0 37 "_law_product" ["_law_one", "_law_other", "_law_d"] (sp_qprod K) := ok_qprod D G_law_made
  have G_law_quotient := ok_qquot (P := P) (w := w) (base := base) D G_law_made G_law_product
  have G_law_below := ok_qbelow (P := P) (w := w) (base := base) T D
  refine COk.by D.law_leaf_told fun f fd F => ?_
  refine F.ok (k := 39) sc_law_leaf_told (fun vs H Q E h => ?_) (fun cdv Ar outer s H vs Q E hr h => ?_)
  · obtain ⟨m, pu, f, nn, c, fp, l, rfl, _⟩ := h
    rfl
  · obtain ⟨m, pu, f, nn, c, fp, l, rfl, hM, hc0, hpu, npu, l0, k⟩ := h
    refine ⟨_, (pss_cons (ps_set (i := 2) sc_law_leaf_told.nd rfl (Or.inl rfl) (pe_dget (hu_of hr) (pv 0) pe_str (fun _ _ => rfl)))
    (pss_cons (ps_set (i := 3) sc_law_leaf_told.nd rfl (Or.inl rfl) (pe_ix ix_list (pe_dget (hu_of hr) (pv 0) pe_str (fun _ _ => rfl)) pe_int (fun _ _ => rfl)))
    (pss_cons (ps_if (PW.pt (pw_or (PW.pt (pw_and (pt_cmpR op_notN (pe_dget (hu_of hr) (pv 0) pe_str (fun _ _ => rfl)) pe_non (nomark _)) (pw_and1 (pt_cmpR op_eq (pe_ix ix_tup (pe_dget (hu_of hr) (pv 0) pe_str (fun _ _ => rfl)) pe_int (fun _ _ => rfl)) pe_int (nomark _))))) (pw_or1 (PW.pt (pw_and (pt_cmpR op_eq (pe_dget (hu_of hr) (pv 0) pe_str (fun _ _ => rfl)) pe_str (nomark _)) (pw_and (pt_cmpR (op_eqD hr.units) (pe_ix ix_tup (pv 2) pe_int (fun _ _ => rfl)) (pe_tup pa_nil) (nomark _)) (pw_and1 (pt_cmpR op_eq (pv 3) (pe_callB call_len_seq (by rfl) T.b_len (by decide +kernel) (pa_cons (pe_ix ix_tup (pv 2) pe_int (fun _ _ => rfl)) pa_nil)) (nomark _)))))))))
      (pss_one (ps_ret (pe_tup (pa_cons pe_str pa_nil)))) pss_nil)
    (pss_cons (ps_if (pt_cmpR op_eq (pe_ix ix_list (pv 1) pe_int (fun _ _ => rfl)) pe_int (nomark _))
      (pss_one (ps_ret (pe_tup (pa_cons pe_str pa_nil)))) pss_nil)
    (pss_cons (ps_asg (pe_op op_sub (pe_ix ix_list (pv 1) pe_int (fun _ _ => rfl)) pe_int) (pg_sub (pv 1) pe_int set_list))
    (pss_cons (ps_asg (pe_op op_add (pv 3) pe_int) (pg_sub (pe_dget (hu_of hr) (pv 0) pe_str (fun _ _ => rfl)) pe_int set_list))
    (pss_cons (ps_if (pt_cmpR op_eq (pe_dget (hu_of hr) (pv 0) pe_str (fun _ _ => rfl)) pe_str (nomark _))
      (pss_cons (ps_if (pt_cmpR op_lt (pv 3) (pe_callB call_len_seq (by rfl) T.b_len (by decide +kernel) (pa_cons (pe_ix ix_tup (pv 2) pe_int (fun _ _ => rfl)) pa_nil)) (nomark _))
      (pss_one (ps_ret (pe_tup (pa_cons pe_str (pa_cons (pe_ix ix_tup (pe_ix ix_tup (pv 2) pe_int (fun _ _ => rfl)) (pv 3) (fun _ _ => rfl)) pa_nil))))) pss_nil)
    (pss_cons (ps_asg (pe_callB call_divmod (by rfl) T.b_divmod (by decide +kernel) (pa_cons (pe_op op_sub (pv 3) (pe_callB call_len_seq (by rfl) T.b_len (by decide +kernel) (pa_cons (pe_ix ix_tup (pv 2) pe_int (fun _ _ => rfl)) pa_nil))) (pa_cons (pe_callB call_len_seq (by rfl) T.b_len (by decide +kernel) (pa_cons (pe_ix ix_tup (pv 2) pe_int (fun _ _ => rfl)) pa_nil)) pa_nil))) (pg_tup rfl (pgs_cons (pg_name (i := 4) sc_law_leaf_told.nd rfl (Or.inl rfl)) (pgs_cons (pg_name (i := 5) sc_law_leaf_told.nd rfl (Or.inl rfl)) pgs_nil))))
    (pss_one (ps_ret (pe_tup (pa_cons pe_str (pa_cons (pe_op op_add (pe_ix ix_tup (pe_ix ix_tup (pv 2) pe_int (fun _ _ => rfl)) (pv 5) (fun _ _ => rfl)) (pe_op op_mul (pv 4) (pe_ix ix_tup (pe_ix ix_tup (pv 2) pe_int (fun _ _ => rfl)) (pv 5) (fun _ _ => rfl)))) pa_nil))))))) pss_nil)
    (pss_cons (ps_if (pt_cmpR op_notN (pe_dget (hu_of hr) (pv 0) pe_str (fun _ _ => rfl)) pe_non (nomark _))
      (pss_cons (ps_asg (pe_dget (hu_of hr) (pv 0) pe_str (fun _ _ => rfl)) (pg_tup rfl (pgs_cons (pg_name (i := 6) sc_law_leaf_told.nd rfl (Or.inl rfl)) (pgs_cons (pg_name (i := 7) sc_law_leaf_told.nd rfl (Or.inl rfl)) pgs_nil))))
    (pss_cons (ps_set (i := 8) sc_law_leaf_told.nd rfl (Or.inl rfl) (pe_op (op_fdivM T.seer (NoTree.tree (P := P)) hr (by first | decide | omega) rfl rfl rfl) (pv 6) (pv 7)))
    (pss_cons (ps_dput (hu_of hr) (pv 0) pe_str (pe_tup (pa_cons (pv 7) (pa_cons (pe_op op_sub (pv 6) (pe_op op_mulW (pv 8) (pv 7))) pa_nil))) rfl)
    (pss_one (ps_ret (pe_tup (pa_cons pe_str (pa_cons (pv 8) pa_nil)))))))) pss_nil)
    (pss_cons (ps_set (i := 8) sc_law_leaf_told.nd rfl (Or.inl rfl) (pe_c G_law_below (hr.mono (by first | decide | omega)) (pa_cons (pe_dget (hu_of hr) (pv 0) pe_str (fun _ _ => rfl)) (pa_cons (pe_ix ix_tup (pv 2) pe_int (fun _ _ => rfl)) pa_nil))))
    (pss_cons (ps_dput (hu_of hr) (pv 0) pe_str (pe_c G_law_quotient (hr.mono (by first | decide | omega)) (pa_cons (pe_tup (pa_cons pe_int (pa_cons pe_int (pa_cons pe_int pa_nil)))) (pa_cons (pe_c G_law_sum (hr.mono (by first | decide | omega)) (pa_cons (pe_dget (hu_of hr) (pv 0) pe_str (fun _ _ => rfl)) (pa_cons (pe_tup (pa_cons (pv 8) (pa_cons pe_int (pa_cons pe_int pa_nil)))) (pa_cons (pe_un un_neg pe_int) pa_nil)))) (pa_cons (pe_ix ix_tup (pv 2) pe_int (fun _ _ => rfl)) pa_nil)))) rfl)
    (pss_one (ps_ret (pe_tup (pa_cons pe_str (pa_cons (pv 8) pa_nil))))))))))))))), ?_⟩
    obtain ⟨tk, kvs, rfl, lf⟩ := id hM
    obtain ⟨em, len, kd, tkn, ⟨v, hv, hvt⟩, htk, keep, ok, good⟩ := lf
    have nmt : m ≠ tk := fun z => by rw [z, htk] at em; cases em
    have npm : pu ≠ m := fun z => npu (by rw [z]; simp)
    have npt : pu ≠ tk := fun z => npu (by rw [z]; simp)
    refine ⟨_, rfl, _, _, rfl, dget em hv, ?_⟩
    refine ⟨_, rfl, _, _, rfl, dget em tkn, tk, _, 0, _, rfl, rfl, SqL.of htk, atI_nat (j := 0) rfl, ?_⟩
    -- how it is told
    have fin : c.ended = true → ∀ (t : Addr) (H' : Hp), Same H H' → SqT K H' t [.str "end"] → Q (.ref t) H' := fun he t H' ss ht => by
      have e1 : c.ans l = .fin := by unfold Chain.ans; rw [if_pos he]
      have e2 : c.then_ l = c := by unfold Chain.then_; rw [if_pos he]
      have e3 : c.took l = 0 := by unfold Chain.took; rw [if_pos he]
      rw [e1, e2, e3] at k
      have n1 : 0 < nn := by
        rcases Nat.eq_zero_or_pos nn with z | z
        · rw [hc0 z] at he; cases he
        · exact z
      refine k t H' (.leaf f nn c) ht (hM.same ss) ⟨rfl, hc0⟩ (by omega) ?_ (fun _ => decide_eq_true n1) (by rw [show l - 0 = l by omega]; exact ss _ _ hpu) (by omega) (FrF.same ss) rfl
      show decide (0 < nn) = (decide (0 < nn) || false)
      rw [Bool.or_false]
    have waits : c.ended = false → l = 0 → ∀ (t : Addr) (H' : Hp), Same H H' → SqT K H' t [.str "waits"] → Q (.ref t) H' := fun he hl t H' ss ht => by
      have e1 : c.ans l = .waits := by unfold Chain.ans; rw [if_neg (by rw [he]; decide), if_pos (by omega)]
      have e2 : c.then_ l = c := by unfold Chain.then_; rw [if_neg (by rw [he]; decide), if_pos (by omega)]
      have e3 : c.took l = 0 := by unfold Chain.took; rw [if_neg (by rw [he]; decide), if_pos (by omega)]
      rw [e1, e2, e3] at k
      refine k t H' (.leaf f nn c) ht (hM.same ss) ⟨rfl, hc0⟩ (by omega) ?_ (fun z => nomatch z) (by rw [show l - 0 = l by omega]; exact ss _ _ hpu) (by omega) (FrF.same ss) rfl
      show decide (0 < nn) = (decide (0 < nn) || false)
      rw [Bool.or_false]
    have part : c.ended = false → l ≠ 0 → ∀ (t : Addr) (H' : Hp) (kvs' : List (Key × V)), LfAt K H' m tk kvs' f (nn + 1) c.next → H' pu = some (.lst [.int (l - 1)]) → (∀ b z, H b = some z → b ≠ m → b ≠ tk → b ≠ pu → H' b = some z) → SqT K H' t [.str "part", .int c.part] → Q (.ref t) H' := fun he hl t H' kvs' lf' hp' fr ht => by
      have nl : ¬ l < 1 := by omega
      have e1 : c.ans l = .part c.part := by unfold Chain.ans; rw [if_neg (by rw [he]; decide), if_neg nl]
      have e2 : c.then_ l = c.next := by unfold Chain.then_; rw [if_neg (by rw [he]; decide), if_neg nl]
      have e3 : c.took l = 1 := by unfold Chain.took; rw [if_neg (by rw [he]; decide), if_neg nl]
      rw [e1, e2, e3] at k
      refine k t H' (.leaf f (nn + 1) c.next) ht ⟨tk, kvs', rfl, lf'⟩ ⟨rfl, fun z => by omega⟩ ?_ ?_ (fun z => nomatch z) hp' (by omega) (fun b z e n n' => ?_) rfl
      · show ((nn + 1 : Nat) : Int) + (l - 1) = (nn : Int) + l
        omega
      · show decide (0 < nn + 1) = (decide (0 < nn) || true)
        rw [Bool.or_true, decide_eq_true (by omega)]
      · simp only [List.mem_cons, List.not_mem_nil, or_false, not_or] at n
        exact fr b z e n.1 n.2 n'
    -- purse and parts taken
    have H2at : ∀ b z, H b = some z → b ≠ pu → b ≠ tk → (upd (upd H pu (.lst [V.int (l - 1)])) tk (.lst [V.int ((nn : Int) + 1), .int 0])) b = some z := fun b z e n n' => by rw [upd_ne n', upd_ne n]; exact e
    have H2tk : (upd (upd H pu (.lst [V.int (l - 1)])) tk (.lst [V.int ((nn : Int) + 1), .int 0])) tk = some (.lst [.int ((nn + 1 : Nat) : Int), .int 0]) := upd_same
    have H2pu : (upd (upd H pu (.lst [V.int (l - 1)])) tk (.lst [V.int ((nn : Int) + 1), .int 0])) pu = some (.lst [.int (l - 1)]) := by rw [upd_ne npt, upd_same]
    have H2t : ∀ t xs, SqT K H t xs → SqT K (upd (upd H pu (.lst [V.int (l - 1)])) tk (.lst [V.int ((nn : Int) + 1), .int 0])) t xs := fun t xs h => sqT_lst (sqT_lst h hpu) (by rw [upd_ne npt.symm]; exact htk)
    match c, keep, ok, hc0, fin, waits, part with
    | .frac t b, ⟨nru, q, r1, hq⟩, ok, hc0, fin, waits, part =>
      have kn : V.str (kindOf f) ≠ V.str "ruled" := by
        cases f with
        | frac _ _ => show V.str "fraction" ≠ V.str "ruled"; decide +kernel
        | root _ _ _ => show V.str "root" ≠ V.str "ruled"; decide +kernel
        | ruled ps ring steps => exact absurd rfl (nru ps ring steps)
      refine ⟨_, rfl, _, _, rfl, dget em r1, rfl, _, rfl, iteT ⟨_, rfl, _, _, rfl, dget em r1, q, _, 1, _, rfl, rfl, hq, atI_nat (j := 1) rfl, rfl, _, rfl, ite2 (fun z => ?_) (fun z => ?_)⟩⟩
      · have z' : b = 0 := V.int.inj (of_decide_eq_true z)
        exact iteT ⟨(by show 1 ≤ sizeLine; decide), fun te nte => fin (decide_eq_true z') te _ (same_upd nte) (SqT.of upd_same)⟩
      · have z' : b ≠ 0 := fun u => z (decide_eq_true (congrArg V.int u))
        have hne : Chain.ended (.frac t b) = false := decide_eq_false z'
        refine ⟨_, rfl, _, _, rfl, dget em kd, rfl, _, rfl, ite2 (fun y => absurd (of_decide_eq_true y) kn) (fun _ => ?_)⟩
        refine iteF ?_
        refine ⟨_, rfl, pu, _, 0, _, rfl, rfl, SqL.of hpu, atI_nat (j := 0) rfl, rfl, _, rfl, ite2 (fun y => ?_) (fun y => ?_)⟩
        · exact ⟨(by show 1 ≤ sizeLine; decide), fun te nte => waits hne (V.int.inj (of_decide_eq_true y)) te _ (same_upd nte) (SqT.of upd_same)⟩
        have ly : l ≠ 0 := fun u => y (decide_eq_true (congrArg V.int u))
        have em1 : (upd H pu (.lst [V.int (l - 1)])) m = some (.dK kvs) := by rw [upd_ne npm.symm]; exact em
        have htk1 : (upd H pu (.lst [V.int (l - 1)])) tk = some (.lst [.int (nn : Int), .int 0]) := by rw [upd_ne npt.symm]; exact htk
        refine ⟨_, rfl, pu, _, 0, _, rfl, rfl, SqL.of hpu, atI_nat (j := 0) rfl, _, _, rfl, rfl, _, rfl, pu, _, 0, 0, rfl, rfl, hpu, rfl, ?_⟩
        refine ⟨_, rfl, _, _, rfl, rfl, _, rfl, _, _, rfl, dget em1 tkn, tk, _, 0, 0, rfl, rfl, htk1, rfl, ?_⟩
        have em2 := H2at m _ em npm.symm nmt
        have hq2 := H2t _ _ hq
        have hvt2 : f.At K _ v := hvt.imp H2t
        show tSeq _ _ _ [some (V.ref m), some (.ref pu), some (.ref v), some (.int (nn : Int)), none, none, none, none, none] (upd (upd H pu (.lst [V.int (l - 1)])) tk (.lst [V.int ((nn : Int) + 1), .int 0]))
        generalize upd (upd H pu (.lst [V.int (l - 1)])) tk (.lst [V.int ((nn : Int) + 1), .int 0]) = H2 at *
        refine ⟨_, rfl, _, _, rfl, dget em2 kd, rfl, _, rfl, ite2 (fun y => absurd (of_decide_eq_true y) kn) (fun _ => ?_)⟩
        refine ⟨_, rfl, _, _, rfl, dget em2 r1, rfl, _, rfl, iteT ?_⟩
        refine ⟨_, rfl, _, _, rfl, dget em2 r1, q, _, rfl, hq2, rfl, _, _, rfl, _, _, rfl, rfl, ?_⟩
        have ft : fits t := small_fits ok.1
        have fb : fits b := small_fits ok.2
        have fq : fits (t.fdiv b) := Nat.lt_of_le_of_lt (fdiv_abs z') ft
        refine ⟨_, rfl, _, rfl, _, _, rfl, rfl, z', ?_⟩
        refine ⟨_, rfl, _, rfl, _, rfl, _, rfl, _, _, rfl, rfl, fits_mul fq fb, _, _, rfl, rfl, (by show 2 ≤ sizeLine; decide), fun q1 nq1 => ?_⟩
        have s1 := same_upd (o := .tup [V.int b, .int (t - t.fdiv b * b)]) nq1
        have em3 := s1 _ _ em2
        refine ⟨_, rfl, _, _, rfl, dput em3 len, ?_⟩
        refine ⟨_, rfl, (by show 2 ≤ sizeLine; decide), fun te nte => ?_⟩
        have s3 := same_upd (o := .tup [V.str "part", .int (t.fdiv b)]) nte
        have emod : t - t.fdiv b * b = t.fmod b := by
          have := Int.mul_fdiv_add_fmod t b
          have e2 : b * t.fdiv b = t.fdiv b * b := Int.mul_comm ..
          omega
        have kt : ∀ t' xs, SqT K H2 t' xs → SqT K (upd (upd (upd H2 q1 (.tup [V.int b, .int (t - t.fdiv b * b)])) m (.dK (putK kvs (.inr "rest") (.ref q1)))) te (.tup [V.str "part", .int (t.fdiv b)])) t' xs := fun t' xs h => sqT_same (sqT_dk (sqT_same h s1) em3) s3
        refine part hne ly te _ (putK kvs (.inr "rest") (.ref q1)) ⟨s3 _ _ upd_same, by rw [put_len r1]; exact len, ?_, ?_, ⟨v, ?_, hvt2.imp kt⟩, s3 _ _ (by rw [upd_ne nmt.symm]; exact s1 _ _ H2tk), ⟨nru, q1, by rw [valV_put, if_pos rfl], ?_⟩, Chain.Ok.next (ch := .frac t b) ok hne, good⟩ (s3 _ _ (by rw [upd_ne npm]; exact s1 _ _ H2pu)) (fun b' z e n n' n'' => s3 _ _ (by rw [upd_ne n]; exact s1 _ _ (H2at _ _ e n'' n'))) (SqT.of upd_same)
        · rw [valV_put, if_neg (kne (by decide +kernel))]; exact kd
        · rw [valV_put, if_neg (kne (by decide +kernel))]; exact tkn
        · rw [valV_put, if_neg (kne (by decide +kernel))]; exact hv
        · show SqT K _ q1 [.int b, .int (t.fmod b)]
          rw [← emod]
          exact sqT_same (sqT_dk (SqT.of upd_same) em3) s3
    | .root t s b r, keep, ok, hc0, fin, waits, part =>
      obtain ⟨r1, t0, s0, b0, lfa, x, hff, hleft, hx, R, prim, C0⟩ := keep
      subst hff
      have ok : RootOk t s b r := ok
      have good : tame t0 ∧ tame s0 ∧ 0 ≤ s0 ∧ tame b0 ∧ b0 ≠ 0 := good
      have hvt : SqT K H v [.str "root", .int t0, .int s0, .int b0] := hvt
      have kn : V.str (kindOf (.root t0 s0 b0)) ≠ V.str "ruled" := by show V.str "root" ≠ V.str "ruled"; decide +kernel
      have hne : Chain.ended (.root t s b r) = false := rfl
      refine ⟨_, rfl, _, _, rfl, dget em r1, rfl, _, rfl, iteF ?_⟩
      refine ⟨_, rfl, _, _, rfl, dget em kd, rfl, _, rfl, ite2 (fun y => absurd (of_decide_eq_true y) kn) (fun _ => iteF ?_)⟩
      refine ⟨_, rfl, pu, _, 0, _, rfl, rfl, SqL.of hpu, atI_nat (j := 0) rfl, rfl, _, rfl, ite2 (fun y => ?_) (fun y => ?_)⟩
      · exact ⟨(by show 1 ≤ sizeLine; decide), fun te nte => waits hne (V.int.inj (of_decide_eq_true y)) te _ (same_upd nte) (SqT.of upd_same)⟩
      have ly : l ≠ 0 := fun u => y (decide_eq_true (congrArg V.int u))
      have em1 : (upd H pu (.lst [V.int (l - 1)])) m = some (.dK kvs) := by rw [upd_ne npm.symm]; exact em
      have htk1 : (upd H pu (.lst [V.int (l - 1)])) tk = some (.lst [.int (nn : Int), .int 0]) := by rw [upd_ne npt.symm]; exact htk
      refine ⟨_, rfl, pu, _, 0, _, rfl, rfl, SqL.of hpu, atI_nat (j := 0) rfl, _, _, rfl, rfl, _, rfl, pu, _, 0, 0, rfl, rfl, hpu, rfl, ?_⟩
      refine ⟨_, rfl, _, _, rfl, rfl, _, rfl, _, _, rfl, dget em1 tkn, tk, _, 0, 0, rfl, rfl, htk1, rfl, ?_⟩
      have em2 := H2at m _ em npm.symm nmt
      have hx2 : N3 K _ lfa x := H2t _ _ hx
      have hvt2 := H2t _ _ hvt
      show tSeq _ _ _ [some (V.ref m), some (.ref pu), some (.ref v), some (.int (nn : Int)), none, none, none, none, none] (upd (upd H pu (.lst [V.int (l - 1)])) tk (.lst [V.int ((nn : Int) + 1), .int 0]))
      generalize upd (upd H pu (.lst [V.int (l - 1)])) tk (.lst [V.int ((nn : Int) + 1), .int 0]) = H2 at *
      refine ⟨_, rfl, _, _, rfl, dget em2 kd, rfl, _, rfl, ite2 (fun y => absurd (of_decide_eq_true y) kn) (fun _ => ?_)⟩
      refine ⟨_, rfl, _, _, rfl, dget em2 r1, rfl, _, rfl, iteF ?_⟩
      obtain ⟨bA, bB, bC⟩ := qrel_bd R ok
      have tbx : tb 1000 x := ⟨bA, bB, bC, C0⟩
      have bds : bd 100 s0 := by
        have := good.2.1.1
        have := good.2.1.2
        have e : (2 : Nat) ^ 40 = 1099511627776 := by decide
        exact Nat.lt_of_lt_of_le (show s0.natAbs < 2 ^ 40 by omega) (Nat.pow_le_pow_right (by decide) (by decide))
      have nsq := nonsq_rel ok R
      refine ⟨_, rfl, _, _, rfl, dget em2 hleft, _, rfl, v, _, 2, _, rfl, rfl, hvt2, atI_nat (j := 2) rfl, lfa, x, s0, rfl, hx2, tbx.mono (by decide), good.2.2.1, bds, fun r' hr' => ?_⟩
      have epart := qrel_part R ok C0 hr'
      have epart : qbelow x.1 x.2.1 x.2.2 s0 r' = rootPart t b r := epart
      have bpart := (qb_bd tbx bds hr').2
      rw [epart] at bpart ⊢
      obtain ⟨yt, ey, Ry, Py, Cy⟩ := qrel_step ok R C0
      -- one over what is left
      refine ⟨(by show 3 ≤ sizeLine; decide), fun q1 nq1 => ?_⟩
      have s4 := same_upd (o := .tup [V.int 1, .int 0, .int 1]) nq1
      have em4 := s4 _ _ em2
      refine ⟨_, rfl, _, _, rfl, dget em4 hleft, _, rfl, (by show 3 ≤ sizeLine; decide), fun q2 nq2 => ?_⟩
      have s5 := same_upd (o := .tup [V.int (rootPart t b r), .int 0, .int 1]) nq2
      have q1h : N3 K (upd (upd H2 q1 (.tup [V.int 1, .int 0, .int 1])) q2 (.tup [V.int (rootPart t b r), .int 0, .int 1])) q1 (1, 0, 1) := SqT.of (s5 _ _ upd_same)
      have q2h : N3 K (upd (upd H2 q1 (.tup [V.int 1, .int 0, .int 1])) q2 (.tup [V.int (rootPart t b r), .int 0, .int 1])) q2 (rootPart t b r, 0, 1) := SqT.of upd_same
      have s25 := s4.trans s5
      generalize upd (upd H2 q1 (.tup [V.int 1, .int 0, .int 1])) q2 (.tup [V.int (rootPart t b r), .int 0, .int 1]) = H5 at *
      have b1 : bd 1 (1 : Int) := bd1 (by decide)
      have bm1 : bd 1 (-1 : Int) := bd.neg b1
      have tq : tb 1052 ((rootPart t b r, 0, 1) : Tri) := ⟨bpart, bd0, b1.mono (by decide), (show (0 : Int) < 1 by decide)⟩
      refine ⟨1, rfl, lfa, q2, x, (rootPart t b r, 0, 1), -1, rfl, sqT_same hx2 s25, q2h, tbx.mono (by decide), tq.mono (by decide), bm1.mono (by decide), fun q3 H6 s6 nq3 q3h => ?_⟩
      refine ⟨_, rfl, v, _, 2, _, rfl, rfl, sqT_same hvt2 (s25.trans s6), atI_nat (j := 2) rfl, ?_⟩
      refine ⟨q1, q3, (1, 0, 1), qsum x (rootPart t b r, 0, 1) (-1), s0, rfl, sqT_same q1h s6, q3h, tb1.mono (by decide), (tb_sum tbx tq bm1).mono (by decide), bds, nsq, fun vq H7 s7 hv7 => ?_⟩
      rw [ey] at hv7
      obtain ⟨py, rfl, hpy⟩ := hv7
      have s27 := (s25.trans s6).trans s7
      have em7 := s27 _ _ em2
      refine ⟨_, rfl, _, _, rfl, dput em7 len, ?_⟩
      refine ⟨_, rfl, (by show 2 ≤ sizeLine; decide), fun te nte => ?_⟩
      have s3 := same_upd (o := .tup [V.str "part", .int (rootPart t b r)]) nte
      have kt : ∀ t' xs, SqT K H7 t' xs → SqT K (upd (upd H7 m (.dK (putK kvs (.inr "left") (.ref py)))) te (.tup [V.str "part", .int (rootPart t b r)])) t' xs := fun t' xs h => sqT_same (sqT_dk h em7) s3
      refine part hne ly te _ (putK kvs (.inr "left") (.ref py)) ⟨s3 _ _ upd_same, by rw [put_len hleft]; exact len, ?_, ?_, ⟨v, ?_, show SqT K _ v _ from kt _ _ (sqT_same hvt2 s27)⟩, s3 _ _ (by rw [upd_ne nmt.symm]; exact s27 _ _ H2tk), ⟨?_, t0, s0, b0, py, yt, rfl, by rw [valV_put, if_pos rfl], kt _ _ hpy, Ry, Py, Cy⟩, Chain.Ok.next (ch := .root t s b r) ok hne, good⟩ (s3 _ _ (by rw [upd_ne npm]; exact s27 _ _ H2pu)) (fun b' z e n n' n'' => s3 _ _ (by rw [upd_ne n]; exact s27 _ _ (H2at _ _ e n'' n'))) (SqT.of upd_same)
      · rw [valV_put, if_neg (kne (by decide +kernel))]; exact kd
      · rw [valV_put, if_neg (kne (by decide +kernel))]; exact tkn
      · rw [valV_put, if_neg (kne (by decide +kernel))]; exact hv
      · rw [valV_put, if_neg (kne (by decide +kernel))]; exact r1
    | .ruled ps ring steps i, keep, ok, hc0, fin, waits, part =>
      obtain ⟨r1, hff, hin, hle⟩ := keep
      subst hff hin
      have ok : RuledOk ps ring steps := ok
      obtain ⟨p, q, u, e, hp, hq, hu⟩ := id hvt
      have hlp : (ps.map V.int).length = ps.length := List.length_map _
      have hlr : (ring.map V.int).length = ring.length := List.length_map _
      refine ⟨_, rfl, _, _, rfl, dget em r1, rfl, _, rfl, iteF ?_⟩
      refine ⟨_, rfl, _, _, rfl, dget em kd, rfl, _, rfl, ite2 (fun _ => ?_) (fun y => absurd (decide_eq_true rfl) y)⟩
      refine ⟨_, rfl, v, _, 2, _, rfl, rfl, e, atI_nat (j := 2) rfl, (by show 0 ≤ sizeLine; decide), fun t0 nt0 => ?_⟩
      have s1 := same_upd (o := .tup []) nt0
      refine ⟨_, _, .tup (sqT_same hq s1) (dpAll_ints ring), .tup (SqT.of upd_same) .nil, shaped_tints ring, rfl, _, rfl, ?_⟩
      rw [eqv_empty]
      -- what follows where it has not ended
      have hM1 := hM.same s1
      have hpu1 := s1 _ _ hpu
      have em1 := s1 _ _ em
      have htk1 := s1 _ _ htk
      have e1 := sqT_same e s1
      have hp1 := sqT_same hp s1
      have hq1 := sqT_same hq s1
      have hu1 := sqT_same hu s1
      have fin1 : Chain.ended (.ruled ps ring steps i) = true → ∀ (t : Addr) (H' : Hp), Same (upd H t0 (.tup [])) H' → SqT K H' t [.str "end"] → Q (.ref t) H' := fun he t H' ss => fin he t H' (s1.trans ss)
      have waits1 : Chain.ended (.ruled ps ring steps i) = false → l = 0 → ∀ (t : Addr) (H' : Hp), Same (upd H t0 (.tup [])) H' → SqT K H' t [.str "waits"] → Q (.ref t) H' := fun he hl t H' ss => waits he hl t H' (s1.trans ss)
      have fr1 : ∀ b z, H b = some z → (upd H t0 (.tup [])) b = some z := fun b z e => s1 _ _ e
      generalize upd H t0 (.tup []) = H1 at *
      by_cases cr : ring = []
      · rw [decide_eq_true cr]
        refine iteT ⟨_, rfl, _, rfl, v, _, 1, _, rfl, rfl, e1, atI_nat (j := 1) rfl, p, _, rfl, .inr hp1, rfl, _, rfl, ite2 (fun y => ?_) (fun y => ?_)⟩
        · have y' := V.int.inj (of_decide_eq_true y)
          rw [hlp] at y'
          refine ⟨(by show 1 ≤ sizeLine; decide), fun te nte => fin1 ?_ te _ (same_upd nte) (SqT.of upd_same)⟩
          show (decide (ring = []) && decide (ps.length ≤ i)) = true
          rw [decide_eq_true cr, decide_eq_true (show ps.length ≤ i by omega)]
          rfl
        · have ni : i ≠ ps.length := fun z => y (decide_eq_true (congrArg V.int (by rw [hlp, z])))
          have hi0 := hle cr
          have hne : Chain.ended (.ruled ps ring steps i) = false := by
            show (decide (ring = []) && decide (ps.length ≤ i)) = false
            rw [decide_eq_false (show ¬ ps.length ≤ i by omega), Bool.and_false]
          have nle : ring = [] → i < ps.length := fun _ => by omega
          refine ⟨_, rfl, pu, _, 0, _, rfl, rfl, SqL.of hpu1, atI_nat (j := 0) rfl, rfl, _, rfl, ite2 (fun y => ?_) (fun y => ?_)⟩
          · exact ⟨(by show 1 ≤ sizeLine; decide), fun te nte => waits1 hne (V.int.inj (of_decide_eq_true y)) te _ (same_upd nte) (SqT.of upd_same)⟩
          have ly : l ≠ 0 := fun u => y (decide_eq_true (congrArg V.int u))
          have em1' : (upd H1 pu (.lst [V.int (l - 1)])) m = some (.dK kvs) := by rw [upd_ne npm.symm]; exact em1
          have htk1' : (upd H1 pu (.lst [V.int (l - 1)])) tk = some (.lst [.int (i : Int), .int 0]) := by rw [upd_ne npt.symm]; exact htk1
          refine ⟨_, rfl, pu, _, 0, _, rfl, rfl, SqL.of hpu1, atI_nat (j := 0) rfl, _, _, rfl, rfl, _, rfl, pu, _, 0, 0, rfl, rfl, hpu1, rfl, ?_⟩
          refine ⟨_, rfl, _, _, rfl, rfl, _, rfl, _, _, rfl, dget em1' tkn, tk, _, 0, 0, rfl, rfl, htk1', rfl, ?_⟩
          have K2at : ∀ b z, H b = some z → b ≠ pu → b ≠ tk → (upd (upd H1 pu (.lst [V.int (l - 1)])) tk (.lst [V.int ((i : Int) + 1), .int 0])) b = some z := fun b z e n n' => by rw [upd_ne n', upd_ne n]; exact fr1 _ _ e
          have K2tk : (upd (upd H1 pu (.lst [V.int (l - 1)])) tk (.lst [V.int ((i : Int) + 1), .int 0])) tk = some (.lst [.int ((i + 1 : Nat) : Int), .int 0]) := upd_same
          have K2pu : (upd (upd H1 pu (.lst [V.int (l - 1)])) tk (.lst [V.int ((i : Int) + 1), .int 0])) pu = some (.lst [.int (l - 1)]) := by rw [upd_ne npt, upd_same]
          have K2t : ∀ t xs, SqT K H1 t xs → SqT K (upd (upd H1 pu (.lst [V.int (l - 1)])) tk (.lst [V.int ((i : Int) + 1), .int 0])) t xs := fun t xs h => sqT_lst (sqT_lst h hpu1) (by rw [upd_ne npt.symm]; exact htk1)
          have em2 := K2at m _ em npm.symm nmt
          have e2 := K2t _ _ e1
          have hp2 := K2t _ _ hp1
          have hq2 := K2t _ _ hq1
          have hu2 := K2t _ _ hu1
          show tSeq _ _ _ [some (V.ref m), some (.ref pu), some (.ref v), some (.int (i : Int)), none, none, none, none, none] (upd (upd H1 pu (.lst [V.int (l - 1)])) tk (.lst [V.int ((i : Int) + 1), .int 0]))
          generalize upd (upd H1 pu (.lst [V.int (l - 1)])) tk (.lst [V.int ((i : Int) + 1), .int 0]) = H2 at *
          have done : ∀ (te : Addr) (H' : Hp), Same H2 H' → SqT K H' te [.str "part", .int (ruledAt ps ring steps i)] → Q (.ref te) H' := fun te H' ss ht => part hne ly te H' kvs ⟨ss _ _ em2, len, kd, tkn, ⟨v, hv, p, q, u, sqT_same e2 ss, sqT_same hp2 ss, sqT_same hq2 ss, sqT_same hu2 ss⟩, ss _ _ K2tk, ⟨r1, rfl, rfl, fun z => by have := nle z; omega⟩, ok, good⟩ (ss _ _ K2pu) (fun b z e n n' n'' => ss _ _ (K2at _ _ e n'' n')) ht
          refine ⟨_, rfl, _, _, rfl, dget em2 kd, rfl, _, rfl, ite2 (fun _ => ?_) (fun y => absurd (decide_eq_true rfl) y)⟩
          refine ⟨_, rfl, _, rfl, v, _, 1, _, rfl, rfl, e2, atI_nat (j := 1) rfl, p, _, rfl, .inr hp2, _, _, rfl, rfl, _, rfl, ite2 (fun c => ?_) (fun c => ?_)⟩
          · have hi : i < ps.length := by
              have := of_decide_eq_true c
              rw [hlp] at this
              omega
            refine ⟨_, rfl, v, _, 1, _, rfl, rfl, e2, atI_nat (j := 1) rfl, _, rfl, p, _, _, _, rfl, rfl, hp2, atI_nat (map_at hi), (by show 2 ≤ sizeLine; decide), fun te nte => ?_⟩
            have er : ruledAt ps ring steps i = ps.getD i 0 := by unfold ruledAt; rw [if_pos hi]
            refine done te _ (same_upd nte) ?_
            rw [er]
            exact SqT.of upd_same
          · exfalso
            exact c (decide_eq_true (by rw [hlp]; omega))
      · rw [decide_eq_false cr]
        refine iteF (iteF ?_)
        have hne : Chain.ended (.ruled ps ring steps i) = false := by
          show (decide (ring = []) && decide (ps.length ≤ i)) = false
          rw [decide_eq_false cr, Bool.false_and]
        have nle : ring = [] → i < ps.length := fun z => absurd z cr
        refine ⟨_, rfl, pu, _, 0, _, rfl, rfl, SqL.of hpu1, atI_nat (j := 0) rfl, rfl, _, rfl, ite2 (fun y => ?_) (fun y => ?_)⟩
        · exact ⟨(by show 1 ≤ sizeLine; decide), fun te nte => waits1 hne (V.int.inj (of_decide_eq_true y)) te _ (same_upd nte) (SqT.of upd_same)⟩
        have ly : l ≠ 0 := fun u => y (decide_eq_true (congrArg V.int u))
        have em1' : (upd H1 pu (.lst [V.int (l - 1)])) m = some (.dK kvs) := by rw [upd_ne npm.symm]; exact em1
        have htk1' : (upd H1 pu (.lst [V.int (l - 1)])) tk = some (.lst [.int (i : Int), .int 0]) := by rw [upd_ne npt.symm]; exact htk1
        refine ⟨_, rfl, pu, _, 0, _, rfl, rfl, SqL.of hpu1, atI_nat (j := 0) rfl, _, _, rfl, rfl, _, rfl, pu, _, 0, 0, rfl, rfl, hpu1, rfl, ?_⟩
        refine ⟨_, rfl, _, _, rfl, rfl, _, rfl, _, _, rfl, dget em1' tkn, tk, _, 0, 0, rfl, rfl, htk1', rfl, ?_⟩
        have K2at : ∀ b z, H b = some z → b ≠ pu → b ≠ tk → (upd (upd H1 pu (.lst [V.int (l - 1)])) tk (.lst [V.int ((i : Int) + 1), .int 0])) b = some z := fun b z e n n' => by rw [upd_ne n', upd_ne n]; exact fr1 _ _ e
        have K2tk : (upd (upd H1 pu (.lst [V.int (l - 1)])) tk (.lst [V.int ((i : Int) + 1), .int 0])) tk = some (.lst [.int ((i + 1 : Nat) : Int), .int 0]) := upd_same
        have K2pu : (upd (upd H1 pu (.lst [V.int (l - 1)])) tk (.lst [V.int ((i : Int) + 1), .int 0])) pu = some (.lst [.int (l - 1)]) := by rw [upd_ne npt, upd_same]
        have K2t : ∀ t xs, SqT K H1 t xs → SqT K (upd (upd H1 pu (.lst [V.int (l - 1)])) tk (.lst [V.int ((i : Int) + 1), .int 0])) t xs := fun t xs h => sqT_lst (sqT_lst h hpu1) (by rw [upd_ne npt.symm]; exact htk1)
        have em2 := K2at m _ em npm.symm nmt
        have e2 := K2t _ _ e1
        have hp2 := K2t _ _ hp1
        have hq2 := K2t _ _ hq1
        have hu2 := K2t _ _ hu1
        show tSeq _ _ _ [some (V.ref m), some (.ref pu), some (.ref v), some (.int (i : Int)), none, none, none, none, none] (upd (upd H1 pu (.lst [V.int (l - 1)])) tk (.lst [V.int ((i : Int) + 1), .int 0]))
        generalize upd (upd H1 pu (.lst [V.int (l - 1)])) tk (.lst [V.int ((i : Int) + 1), .int 0]) = H2 at *
        have done : ∀ (te : Addr) (H' : Hp), Same H2 H' → SqT K H' te [.str "part", .int (ruledAt ps ring steps i)] → Q (.ref te) H' := fun te H' ss ht => part hne ly te H' kvs ⟨ss _ _ em2, len, kd, tkn, ⟨v, hv, p, q, u, sqT_same e2 ss, sqT_same hp2 ss, sqT_same hq2 ss, sqT_same hu2 ss⟩, ss _ _ K2tk, ⟨r1, rfl, rfl, fun z => by have := nle z; omega⟩, ok, good⟩ (ss _ _ K2pu) (fun b z e n n' n'' => ss _ _ (K2at _ _ e n'' n')) ht
        refine ⟨_, rfl, _, _, rfl, dget em2 kd, rfl, _, rfl, ite2 (fun _ => ?_) (fun y => absurd (decide_eq_true rfl) y)⟩
        refine ⟨_, rfl, _, rfl, v, _, 1, _, rfl, rfl, e2, atI_nat (j := 1) rfl, p, _, rfl, .inr hp2, _, _, rfl, rfl, _, rfl, ite2 (fun c => ?_) (fun c => ?_)⟩
        · have hi : i < ps.length := by
            have := of_decide_eq_true c
            rw [hlp] at this
            omega
          refine ⟨_, rfl, v, _, 1, _, rfl, rfl, e2, atI_nat (j := 1) rfl, _, rfl, p, _, _, _, rfl, rfl, hp2, atI_nat (map_at hi), (by show 2 ≤ sizeLine; decide), fun te nte => ?_⟩
          have er : ruledAt ps ring steps i = ps.getD i 0 := by unfold ruledAt; rw [if_pos hi]
          refine done te _ (same_upd nte) ?_
          rw [er]
          exact SqT.of upd_same
        · have hi : ps.length ≤ i := by
            rcases Nat.lt_or_ge i ps.length with z | z
            · exact absurd (decide_eq_true (by rw [hlp]; omega)) c
            · exact z
          have hr0 : 0 < ring.length := List.length_pos_iff.mpr cr
          have hr12 := ok.r12
          have hs := ok.same
          refine ⟨_, rfl, _, rfl, v, _, 1, _, rfl, rfl, e2, atI_nat (j := 1) rfl, p, _, rfl, .inr hp2, _, _, rfl, rfl, _, rfl, v, _, 2, _, rfl, rfl, e2, atI_nat (j := 2) rfl, q, _, rfl, .inr hq2, _, _, rfl, ⟨by rw [hlr]; omega, by rw [hlr]; omega⟩, fun z nz => ?_⟩
          have e1' : ((i : Int) - (((ps.map V.int).length : Nat) : Int)) / (((ring.map V.int).length : Nat) : Int) = (((i - ps.length) / ring.length : Nat) : Int) := by
            rw [hlp, hlr, Int.natCast_ediv]
            congr 1
            omega
          have e2' : ((i : Int) - (((ps.map V.int).length : Nat) : Int)) % (((ring.map V.int).length : Nat) : Int) = (((i - ps.length) % ring.length : Nat) : Int) := by
            rw [hlp, hlr, Int.natCast_emod]
            congr 1
            omega
          rw [e1', e2']
          have sm := same_upd (o := .tup [V.int (((i - ps.length) / ring.length : Nat) : Int), .int (((i - ps.length) % ring.length : Nat) : Int)]) nz
          refine ⟨z, _, rfl, SqT.of upd_same, rfl, _, _, rfl, _, _, rfl, rfl, ?_⟩
          have hm : (i - ps.length) % ring.length < ring.length := Nat.mod_lt _ hr0
          have ts := ok.ts _ (mem_getD (show (i - ps.length) % ring.length < steps.length by omega))
          have w64 : -(2 ^ 64) < steps.getD ((i - ps.length) % ring.length) 0 ∧ steps.getD ((i - ps.length) % ring.length) 0 < 2 ^ 64 := by
            obtain ⟨t1, t2⟩ := ts
            have : (2 : Int) ^ 64 = 18446744073709551616 := by decide
            omega
          refine ⟨_, rfl, v, _, 2, _, rfl, rfl, sqT_same e2 sm, atI_nat (j := 2) rfl, _, rfl, q, _, _, _, rfl, rfl, (sqT_same hq2 sm), atI_nat (map_at hm), ?_⟩
          refine ⟨_, rfl, _, rfl, v, _, 3, _, rfl, rfl, sqT_same e2 sm, atI_nat (j := 3) rfl, _, rfl, u, _, _, _, rfl, rfl, (sqT_same hu2 sm), atI_nat (map_at (show (i - ps.length) % ring.length < steps.length by omega)), _, _, rfl, rfl, .inr w64, _, _, rfl, rfl, (by show 2 ≤ sizeLine; decide), fun te nte => ?_⟩
          have er : ruledAt ps ring steps i = ring.getD ((i - ps.length) % ring.length) 0 + (((i - ps.length) / ring.length : Nat) : Int) * steps.getD ((i - ps.length) % ring.length) 0 := by unfold ruledAt; rw [if_neg (by omega)]
          refine done te _ (sm.trans (same_upd nte)) ?_
          rw [er]
          exact SqT.of upd_same
end
/-! ### what the machine tells, and what it took, however deep -/
def sp_took (K : PySem.W.Frag) (d : Nat) : Sp := fun vs H Q _ => ∃ (m : Addr) (M : Mac) (fp : List Addr), vs = [.ref m] ∧ MacAt K H M m fp ∧ M.ht ≤ d ∧ ∀ H', Same H H' → Q (.int (M.took : Int)) H'
def sp_tookP (K : PySem.W.Frag) (d : Nat) : Sp := fun vs H Q E => d ≠ 0 ∧ sp_took K (d - 1) vs H Q E
section
variable {P : Program} [NoTree P] {w : World} {K : PySem.W.Frag} {mg : Str → Option Value} {base : Heap} {A : Ad}
theorem ok_told (T : CT K mg A) (D : DT K mg A) (G_law_common : COk P w K mg base CX0 1 "_law_common" ["_law_one", "_law_other"] sp_law_common) :
    ∀ d, COk P w K mg base CX0 (40 + d + 1) "_law_told" ["_law_m", "_law_purse"] (sp_told K d)
  | 0 => ok_told_step T D (ok_leaf_told T D G_law_common) (cok_no D.law_told fun _ _ _ _ z => z.1 rfl)
  | d + 1 => ok_told_step T D (ok_leaf_told T D G_law_common) ((ok_told T D G_law_common d).imp fun _ _ _ _ z => z.2)
theorem ok_took_step (T : CT K mg A) (D : DT K mg A) {d : Nat} (G_law_took : COk P w K mg base CX0 (2 + d) "_law_took" ["_law_m"] (sp_tookP K d)) : COk P w K mg base CX0 (2 + d + 1) "_law_took" ["_law_m"] (sp_took K d) := by
  refine COk.by D.law_took fun f fd F => ?_
  refine F.ok (k := 2 + d) sc_law_took (fun vs H Q E h => ?_) (fun cdv Ar outer s H vs Q E hr h => ?_)
  · obtain ⟨m, M, fp, rfl, _⟩ := h
    rfl
  · obtain ⟨m, M, fp, rfl, hM, hd, k⟩ := h
    refine ⟨_, (pss_cons (ps_if (pt_cmpR op_in_seq (pe_dget (hu_of hr) (pv 0) pe_str (fun _ _ => rfl)) (pe_lst (pa_cons pe_str (pa_cons pe_str pa_nil))) rfl)
      (pss_one (ps_ret (pe_callB (cr_sum rfl) (by rfl) T.b_sum (by decide +kernel) (pa_cons (pe_lc (own := [("_law_inner", 1)]) (g := gName 1) (tt := tYes) rfl sc_law_took.nd (pi_list (pe_dget (hu_of hr) (pv 0) pe_str (fun _ _ => rfl))) (blkOk_by (own := [("_law_inner", 1)]) (N := ["_law_m", "_law_inner"]) (sc := defScope s_law_took) (by decide +kernel)) (fun _ _ _ _ _ => (pg_name (i := 1) sc_law_took.nd rfl (Or.inl rfl))) (fun _ _ _ _ _ => pts_nil) (fun _ _ _ _ _ => (pe_c G_law_took (hr.mono (by first | decide | omega)) (pa_cons (pv 1) pa_nil)))) pa_nil)))) pss_nil)
    (pss_one (ps_ret (pe_ix ix_list (pe_dget (hu_of hr) (pv 0) pe_str (fun _ _ => rfl)) pe_int (fun _ _ => rfl))))), ?_⟩
    match M, hM, hd, k with
    | .leaf f0 n0 c0, hM, hd, k =>
      obtain ⟨tk, kvs, rfl, L⟩ := hM
      refine ⟨_, rfl, _, _, rfl, dget L.em L.kd, (by show 2 ≤ sizeLine; decide), fun lk nlk => ?_⟩
      have s1 := same_upd (o := .lst [V.str "four", .str "eight"]) nlk
      refine ⟨lk, _, rfl, .inl (SqL.of upd_same), rfl, rfl, _, rfl, ?_⟩
      have eo : (if false = true then !inV (.str (kindOf f0)) [.str "four", .str "eight"] else inV (.str (kindOf f0)) [.str "four", .str "eight"]) = false := by rw [if_neg (by decide), kind_leaf]
      refine cast (congrArg (fun b : Bool => if b = true then _ else _) eo.symm) (iteF ?_)
      refine ⟨_, rfl, _, _, rfl, dget (s1 _ _ L.em) L.tkn, tk, _, 0, _, rfl, rfl, SqL.of (s1 _ _ L.tk), atI_nat (j := 0) rfl, ?_⟩
      exact k _ s1
    | .box ev M x y, hM, hd, k =>
      have hM0 := hM
      obtain ⟨tk0, kvs0, db0, tkfp, mfp, kd0, _⟩ := hM0.redo
      refine ⟨_, rfl, _, _, rfl, dget db0.em kd0, (by show 2 ≤ sizeLine; decide), fun lk nlk => ?_⟩
      have s1 := same_upd (o := .lst [V.str "four", .str "eight"]) nlk
      refine ⟨lk, _, rfl, .inl (SqL.of upd_same), rfl, rfl, _, rfl, ?_⟩
      have eo : (if false = true then !inV (.str (if ev = true then "eight" else "four")) [.str "four", .str "eight"] else inV (.str (if ev = true then "eight" else "four")) [.str "four", .str "eight"]) = true := by rw [if_neg (by decide), kind_box]
      refine cast (congrArg (fun b : Bool => if b = true then _ else _) eo.symm) (iteT ?_)
      have hM1 := hM0.same s1
      generalize upd H lk (.lst [V.str "four", .str "eight"]) = Hs at *
      obtain ⟨tk, il, kvs, db, kd, inn, hc⟩ := hM1
      rcases hc with ⟨hev, mx, my, fx, fy, hil, hx, hy, rfl, nd⟩ | ⟨hev, mx, fx, hil, hx, rfl, nd⟩
      · refine ⟨_, rfl, _, _, rfl, dget db.em inn, il, rfl, ⟨_, SqL.of hil⟩, fun D0 nD => lc_list (K := K) (a := il) (xs := [V.ref mx, .ref my]) (fun j H2 => Same Hs H2 ∧ H2 D0 = some (.lst (([x, y].map fun z => V.int (z.took : Int)).take j)))
          ⟨same_upd nD, upd_same⟩ (fun j H2 _ z => SqL.of (z.1 _ _ hil)) ?_ ?_⟩
        · rintro j xx H2 hxx ⟨s2, hD⟩
          have d0 : d ≠ 0 := by
            rintro rfl
            subst hev
            have : (max x.ht y.ht + 1) ≤ 0 := hd
            omega
          subst hev
          have hd' : max x.ht y.ht + 1 ≤ d := hd
          match j, hxx with
          | 0, hxx =>
            cases hxx
            refine ⟨rfl, _, rfl, d0, mx, x, fx, rfl, hx.same s2, by omega, fun H3 s3 => ⟨_, s3 _ _ hD, (by show 0 < sizeLine; decide), fun c o e => ?_, upd_same⟩⟩
            rw [upd_ne (ne_of_none e nD)]
            exact s3 _ _ (s2 _ _ e)
          | 1, hxx =>
            cases hxx
            refine ⟨rfl, _, rfl, d0, my, y, fy, rfl, hy.same s2, by omega, fun H3 s3 => ⟨_, s3 _ _ hD, (by show 1 < sizeLine; decide), fun c o e => ?_, upd_same⟩⟩
            rw [upd_ne (ne_of_none e nD)]
            exact s3 _ _ (s2 _ _ e)
          | n + 2, hxx => exact absurd hxx (by simp)
        · rintro H2 ⟨s2, hD⟩
          refine ⟨D0, [(x.took : Int), (y.took : Int)], rfl, SqL.of hD, ?_⟩
          subst hev
          have e : ([(x.took : Int), (y.took : Int)] : List Int).sum = (((Mac.box true M x y).took : Nat) : Int) := by
            show (x.took : Int) + ((y.took : Int) + 0) = ((x.took + y.took : Nat) : Int)
            omega
          rw [e]
          exact k _ (s1.trans s2)
      · refine ⟨_, rfl, _, _, rfl, dget db.em inn, il, rfl, ⟨_, SqL.of hil⟩, fun D0 nD => lc_list (K := K) (a := il) (xs := [V.ref mx]) (fun j H2 => Same Hs H2 ∧ H2 D0 = some (.lst (([x].map fun z => V.int (z.took : Int)).take j)))
          ⟨same_upd nD, upd_same⟩ (fun j H2 _ z => SqL.of (z.1 _ _ hil)) ?_ ?_⟩
        · rintro j xx H2 hxx ⟨s2, hD⟩
          subst hev
          have hd' : x.ht + 1 ≤ d := hd
          match j, hxx with
          | 0, hxx =>
            cases hxx
            refine ⟨rfl, _, rfl, by omega, mx, x, fx, rfl, hx.same s2, by omega, fun H3 s3 => ⟨_, s3 _ _ hD, (by show 0 < sizeLine; decide), fun c o e => ?_, upd_same⟩⟩
            rw [upd_ne (ne_of_none e nD)]
            exact s3 _ _ (s2 _ _ e)
          | n + 1, hxx => exact absurd hxx (by simp)
        · rintro H2 ⟨s2, hD⟩
          refine ⟨D0, [(x.took : Int)], rfl, SqL.of hD, ?_⟩
          subst hev
          have e : ([(x.took : Int)] : List Int).sum = (((Mac.box false M x y).took : Nat) : Int) := by
            show (x.took : Int) + 0 = ((x.took : Nat) : Int)
            omega
          rw [e]
          exact k _ (s1.trans s2)
theorem ok_took (T : CT K mg A) (D : DT K mg A) : ∀ d, COk P w K mg base CX0 (2 + d + 1) "_law_took" ["_law_m"] (sp_took K d)
  | 0 => ok_took_step T D (cok_no D.law_took fun _ _ _ _ z => z.1 rfl)
  | d + 1 => ok_took_step T D ((ok_took T D d).imp fun _ _ _ _ z => z.2)
end
/-! ### one asking of a reading, with what it took; boxes that trees begin with -/
theorem Starts.wt : ∀ {t : Tree} {B : Box}, t.Good → t.Starts B → B.wt ≤ 9 * t.ht
  | .leaf f, B, g, s => by
    obtain ⟨c, _, rfl⟩ := s
    exact Nat.zero_le _
  | .four ns x, B, g, s => by
    obtain ⟨X, s, rfl⟩ := s
    have := Starts.wt g.2.2.2 s
    show X.wt + 1 ≤ 9 * (x.ht + 1)
    omega
  | .eight ns x y, B, g, s => by
    obtain ⟨X, Y, s1, s2, rfl⟩ := s
    have := Starts.wt g.2.2.2.1 s1
    have := Starts.wt g.2.2.2.2 s2
    show max X.wt Y.wt + 3 ≤ 9 * (max x.ht y.ht + 1)
    omega
  | .power x n, B, g, s => by
    obtain ⟨_, g2, g3⟩ := g
    have key : ∀ (n : Nat) (B : Box), powB x.Starts (n + 1) B → B.wt ≤ 9 * x.ht + 3 * n := by
      intro n
      induction n with
      | zero => intro B s; exact Starts.wt g3 s
      | succ n ih =>
        intro B s
        obtain ⟨X, Y, s1, s2, rfl⟩ := s
        have := Starts.wt g3 s1
        have := ih Y s2
        show max X.wt Y.wt + 3 ≤ 9 * x.ht + 3 * (n + 1)
        omega
    show B.wt ≤ 9 * (x.ht + 1)
    match n, s, g2 with
    | n + 1, s, g2 =>
      have := key n B s
      omega
theorem Leaf.Starts.one {f : Leaf} {c c' : Chain} (h : f.Starts c) (h' : f.Starts c') : c = c' := by
  cases f with
  | frac t b =>
    have h : c = .frac t b := h
    have h' : c' = .frac t b := h'
    rw [h, h']
  | root t s b =>
    obtain ⟨r, hr, h⟩ := h
    obtain ⟨r', hr', h'⟩ := h'
    obtain rfl := hr'.unique hr
    rcases h with ⟨e, rfl⟩ | ⟨ne, q, hq, rfl⟩
    · rcases h' with ⟨_, rfl⟩ | ⟨ne, _⟩
      · rfl
      · exact absurd e ne
    · rcases h' with ⟨e, _⟩ | ⟨_, q', hq', rfl⟩
      · exact absurd e ne
      · rw [hq'.unique hq]
  | ruled ps ring steps =>
    have h : c = .ruled ps ring steps 0 := h
    have h' : c' = .ruled ps ring steps 0 := h'
    rw [h, h']
theorem Starts.one : ∀ {t : Tree} {B B' : Box}, t.Starts B → t.Starts B' → B = B'
  | .leaf f, B, B', h, h' => by
    obtain ⟨c, s, rfl⟩ := h
    obtain ⟨c', s', rfl⟩ := h'
    rw [s.one s']
  | .four ns x, B, B', h, h' => by
    obtain ⟨X, s, rfl⟩ := h
    obtain ⟨X', s', rfl⟩ := h'
    rw [Starts.one s s']
  | .eight ns x y, B, B', h, h' => by
    obtain ⟨X, Y, s1, s2, rfl⟩ := h
    obtain ⟨X', Y', s1', s2', rfl⟩ := h'
    rw [Starts.one s1 s1', Starts.one s2 s2']
  | .power x n, B, B', h, h' => by
    have key : ∀ (n : Nat) (B B' : Box), powB x.Starts n B → powB x.Starts n B' → B = B' := by
      intro n
      induction n with
      | zero => intro B B' z; exact z.elim
      | succ n ih =>
        intro B B' z z'
        match n, ih, z, z' with
        | 0, _, z, z' => exact Starts.one (show x.Starts B from z) (show x.Starts B' from z')
        | n + 1, ih, z, z' =>
          obtain ⟨X, Y, s1, s2, rfl⟩ := z
          obtain ⟨X', Y', s1', s2', rfl⟩ := z'
          rw [Starts.one s1 s1', ih Y Y' s2 s2']
    exact key n B B' h h'
section
variable {P : Program} [NoTree P] {w : World} {K : PySem.W.Frag} {mg : Str → Option Value} {base : Heap} {A : Ad}
/-- a reading asked: what is told, and how many parts of leaves were taken -/
def sp_qstep (A : Ad) (K : PySem.W.Frag) (d : Nat) : Sp := fun vs H Q _ => ∃ (r a m : Addr) (fp : List Addr) (B : Box) (l s q : Int) (n : Nat) (o : Option Ans) (B' : Box) (l' : Int), vs = [.ref r, .int q] ∧ ReadB A K H r a m fp B l s ∧ B.wt ≤ d ∧ askF n B q = some (o, B', l') ∧
  ∀ H' fp' t p, ReadB A K H' r a m fp' B' l' (s + (q - l')) → (∀ c z, H c = some z → c ∉ fp → c ≠ m → H' c = some z) → (∀ c ∈ fp', c ∈ fp ∨ H c = none) → SqT K H' t [.ref p, .int (q - l')] → SqT K H' p (oVals o) → Q (.ref t) H'
end
/-! ### the machine of a tree, new -/
def Tree.hm : Tree → Nat
  | .leaf _ => 0
  | .four _ x => x.hm + 1
  | .eight _ x y => max x.hm y.hm + 1
  | .power x n => x.hm + (n - 1)
structure NewMac (t : Tree) (M : Mac) : Prop where
  sim : ∀ B, t.Starts B → Sim M B
  took : M.took = 0
  told : M.told = false
  ht : M.ht ≤ t.hm
def sp_opened (K : PySem.W.Frag) (n : Nat) : Sp := fun vs H Q _ => ∃ (v : Addr) (t : Tree), vs = [.ref v] ∧ t.At K H v ∧ t.Good ∧ t.ht ≤ n ∧ ∀ m M fp H', MacAt K H' M m fp → NewMac t M → (∀ c ∈ fp, H c = none) → Same H H' → Q (.ref m) H'
def sp_openedP (K : PySem.W.Frag) (n : Nat) : Sp := fun vs H Q E => n ≠ 0 ∧ sp_opened K (n - 1) vs H Q E
def kvN (kd : Str) (tk v : Addr) : List (Key × V) := [(.inr "kind", .str kd), (.inr "taken", .ref tk), (.inr "begun", .bl false), (.inr "rest", .non), (.inr "which", .int 0), (.inr "tree", .ref v)]
def kvP (tk il : Addr) : List (Key × V) := [(.inr "kind", .str "eight"), (.inr "taken", .ref tk), (.inr "begun", .bl false), (.inr "rest", .non), (.inr "which", .int 0), (.inr "inners", .ref il)]
theorem iteE {a b : V} {p q : Prop} (h : a = b) (hp : p) : if decide (a = b) = true then p else q := by rw [decide_eq_true h, if_pos rfl]; exact hp
theorem iteN {a b : V} {p q : Prop} (h : a ≠ b) (hq : q) : if decide (a = b) = true then p else q := by rw [decide_eq_false h, if_neg (by decide)]; exact hq
theorem open_new {H : Hp} {m tk : Addr} {kvs : List (Key × V)} (nm : H m = none) (ntk : upd H m (.dK []) tk = none) : upd (upd H m (.dK [])) tk (.lst [V.int 0, .int 0]) m = some (.dK []) ∧ upd (upd (upd H m (.dK [])) tk (.lst [V.int 0, .int 0])) m (.dK kvs) m = some (.dK kvs) ∧ upd (upd (upd H m (.dK [])) tk (.lst [V.int 0, .int 0])) m (.dK kvs) tk = some (.lst [V.int 0, .int 0]) ∧ Same H (upd (upd (upd H m (.dK [])) tk (.lst [V.int 0, .int 0])) m (.dK kvs)) ∧ H tk = none ∧ tk ≠ m := by
  have ne : tk ≠ m := fun z => by rw [z, upd_same] at ntk; cases ntk
  have h0 : H tk = none := by rw [upd_ne ne] at ntk; exact ntk
  refine ⟨by rw [upd_ne ne.symm]; exact upd_same, upd_same, by rw [upd_ne ne]; exact upd_same, fun c o e => ?_, h0, ne⟩
  have n1 : c ≠ m := fun z => by rw [z, nm] at e; cases e
  have n2 : c ≠ tk := fun z => by rw [z, h0] at e; cases e
  rw [upd_ne n1, upd_ne n2, upd_ne n1]
  exact e
theorem put_new {H H4 : Hp} {m : Addr} {o : HO} (nm : H m = none) (s : Same H H4) : Same H (upd H4 m o) := fun c z e => by
  rw [upd_ne (ne_of_none e nm)]
  exact s _ _ e
theorem qrel_start {t s b q : Int} (hb : b ≠ 0) : QRel s (qmade t 1 b).1 (qmade t 1 b).2.1 (qmade t 1 b).2.2 (.root (t * (b.natAbs : Int)) (s * (b.natAbs : Int) * (b.natAbs : Int)) (b * (b.natAbs : Int)) q) ∧ Prim (qmade t 1 b).1 (qmade t 1 b).2.1 (qmade t 1 b).2.2 ∧ 0 < (qmade t 1 b).2.2 := by
  obtain ⟨g, g0, _, e1, e2, e3, c0, pr⟩ := qmade_spec (a := t) (b := 1) (c := b) hb
  have w0 : (0 : Int) < b.natAbs := by omega
  generalize (qmade t 1 b) = x at *
  obtain ⟨x1, x2, x3⟩ := x
  generalize ((b.natAbs : Nat) : Int) = w at *
  simp only at *
  refine ⟨⟨w * g, Int.mul_ne_zero (by omega) g0, ?_, ?_, ?_, ?_⟩, pr, c0⟩
  · rw [Int.mul_assoc, ← e2]; omega
  · rw [e1]; grind
  · rw [e3]; grind
  · rw [Int.mul_assoc w g x2, ← e2]; grind
theorem new_leaf {f : Leaf} {c : Chain} (g : f.Good) (s : f.Starts c) (ok : c.Ok) : NewMac (.leaf f) (.leaf f 0 c) := by
  refine ⟨fun B h => ?_, rfl, rfl, Nat.le_refl _⟩
  obtain ⟨c', s', rfl⟩ := h
  obtain rfl := s.one s'
  exact ⟨rfl, fun _ => (leaf_good g s ok (T := 1) (by decide)).1⟩
section
variable {P : Program} [NoTree P] {w : World} {K : PySem.W.Frag} {mg : Str → Option Value} {base : Heap} {A : Ad}
theorem MacAt.nodup {H : Hp} {M : Mac} {m : Addr} {fp : List Addr} (h : MacAt K H M m fp) : fp.Nodup := by
  cases M with
  | leaf f n c =>
    obtain ⟨tk, kvs, rfl, L⟩ := h
    have : m ≠ tk := fun z => by
      have e := L.em
      rw [z, L.tk] at e
      cases e
    simp [this]
  | box ev M x y =>
    obtain ⟨tk, il, kvs, _, _, _, ⟨_, mx, my, fx, fy, _, _, _, rfl, nd⟩ | ⟨_, mx, fx, _, _, rfl, nd⟩⟩ := h
    · exact nd
    · exact nd
/-- what a machine owns is there -/
theorem MacAt.there {H : Hp} {M : Mac} {m : Addr} {fp : List Addr} (h : MacAt K H M m fp) {c : Addr} (hc : c ∈ fp) (z : H c = none) : False := by
  rcases h.soft c hc with ⟨_, e⟩ | ⟨_, e⟩ <;> rw [z] at e <;> cases e
theorem same_none {H H' : Hp} (s : Same H H') {c : Addr} (h : H' c = none) : H c = none := by
  cases e : H c with
  | none => rfl
  | some o => rw [s _ _ e] at h; cases h
theorem MacAt.dk {H : Hp} {M : Mac} {m d : Addr} {fp : List Addr} {kvs : List (Key × V)} {o : HO} (h : MacAt K H M m fp) (hd : H d = some (.dK kvs)) (nd : d ∉ fp) : MacAt K (upd H d o) M m fp :=
  h.imp (fun t xs z => sqT_dk z hd) fun c hc u e => by
    have n1 : c ≠ d := fun z => nd (z ▸ hc)
    rw [upd_ne n1]
    exact e
theorem ok_opened_step (T : CT K mg A) (D : DT K mg A) {n : Nat} (G_law_common : COk P w K mg base CX0 1 "_law_common" ["_law_one", "_law_other"] sp_law_common) (G_law_opened : COk P w K mg base CX0 (40 + n) "_law_opened" ["_law_tree"] (sp_openedP K n)) : COk P w K mg base CX0 (40 + n + 1) "_law_opened" ["_law_tree"] (sp_opened K n) := by
  have G_law_root := ok_qroot (P := P) (w := w) (base := base) D
  have G_law_made := ok_qmade (P := P) (w := w) (base := base) T D G_law_common
  refine COk.by D.law_opened fun f fd F => ?_
  refine F.ok (k := 40 + n) sc_law_opened (fun vs H Q E h => ?_) (fun cdv Ar outer s H vs Q E hr h => ?_)
  · obtain ⟨v, t, rfl, _⟩ := h
    rfl
  · obtain ⟨v, t, rfl, ha, hg, hh, k⟩ := h
    refine ⟨_, (pss_cons (ps_set (i := 1) sc_law_opened.nd rfl (Or.inl rfl) (pe_ix ix_tup (pv 0) pe_int (fun _ _ => rfl)))
    (pss_cons (ps_set (i := 2) sc_law_opened.nd rfl (Or.inl rfl) (pe_disp (pps_cons pe_str (pv 1) (pps_cons pe_str (pe_lst (pa_cons pe_int (pa_cons pe_int pa_nil))) (pps_cons pe_str pe_bl (pps_cons pe_str pe_non (pps_cons pe_str pe_int (pps_cons pe_str (pv 0) pps_nil)))))) (by rfl) (by rfl) (fun z => by cases z) (by decide)))
    (pss_cons (ps_if (pt_cmpR op_eq (pv 1) pe_str (nomark _))
      (pss_one (ps_dput (hu_of hr) (pv 2) pe_str (pe_tup (pa_cons (pe_ix ix_tup (pv 0) pe_int (fun _ _ => rfl)) (pa_cons (pe_ix ix_tup (pv 0) pe_int (fun _ _ => rfl)) pa_nil))) rfl)) pss_nil)
    (pss_cons (ps_if (pt_cmpR op_eq (pv 1) pe_str (nomark _))
      (pss_cons (ps_set (i := 3) sc_law_opened.nd rfl (Or.inl rfl) (pe_c G_law_root (hr.mono (by first | decide | omega)) (pa_cons (pe_ix ix_tup (pv 0) pe_int (fun _ _ => rfl)) pa_nil)))
    (pss_cons (ps_if (pt_cmpR op_eq (pe_op op_mulW (pv 3) (pv 3)) (pe_ix ix_tup (pv 0) pe_int (fun _ _ => rfl)) (nomark _))
      (pss_one (ps_dput (hu_of hr) (pv 2) pe_str (pe_tup (pa_cons (pe_op op_add (pe_ix ix_tup (pv 0) pe_int (fun _ _ => rfl)) (pv 3)) (pa_cons (pe_ix ix_tup (pv 0) pe_int (fun _ _ => rfl)) pa_nil))) rfl)) pss_nil)
    (pss_one (ps_dput (hu_of hr) (pv 2) pe_str (pe_c G_law_made (hr.mono (by first | decide | omega)) (pa_cons (pe_ix ix_tup (pv 0) pe_int (fun _ _ => rfl)) (pa_cons pe_int (pa_cons (pe_ix ix_tup (pv 0) pe_int (fun _ _ => rfl)) pa_nil)))) rfl)))) pss_nil)
    (pss_cons (ps_if (pt_cmpR op_eq (pv 1) pe_str (nomark _))
      (pss_cons (ps_dput (hu_of hr) (pv 2) pe_str (pe_ix ix_tup (pv 0) pe_int (fun _ _ => rfl)) rfl)
    (pss_one (ps_dput (hu_of hr) (pv 2) pe_str (pe_lst (pa_cons (pe_c G_law_opened (hr.mono (by first | decide | omega)) (pa_cons (pe_ix ix_tup (pv 0) pe_int (fun _ _ => rfl)) pa_nil)) pa_nil)) rfl))) pss_nil)
    (pss_cons (ps_if (pt_cmpR op_eq (pv 1) pe_str (nomark _))
      (pss_cons (ps_dput (hu_of hr) (pv 2) pe_str (pe_ix ix_tup (pv 0) pe_int (fun _ _ => rfl)) rfl)
    (pss_one (ps_dput (hu_of hr) (pv 2) pe_str (pe_lst (pa_cons (pe_c G_law_opened (hr.mono (by first | decide | omega)) (pa_cons (pe_ix ix_tup (pv 0) pe_int (fun _ _ => rfl)) pa_nil)) (pa_cons (pe_c G_law_opened (hr.mono (by first | decide | omega)) (pa_cons (pe_ix ix_tup (pv 0) pe_int (fun _ _ => rfl)) pa_nil)) pa_nil))) rfl))) pss_nil)
    (pss_cons (ps_if (pt_cmpR op_eq (pv 1) pe_str (nomark _))
      (pss_cons (ps_set (i := 2) sc_law_opened.nd rfl (Or.inl rfl) (pe_c G_law_opened (hr.mono (by first | decide | omega)) (pa_cons (pe_ix ix_tup (pv 0) pe_int (fun _ _ => rfl)) pa_nil)))
    (pss_one (ps_for PassesOwn.never rfl (pi_range1 rfl T.b_range (pa_cons (pe_op op_sub (pe_ix ix_tup (pv 0) pe_int (fun _ _ => rfl)) pe_int) pa_nil)) (pg_name (i := 4) sc_law_opened.nd rfl (Or.inl rfl))
      (pss_cons (ps_set (i := 5) sc_law_opened.nd rfl (Or.inl rfl) (pe_lst (pa_cons (pe_c G_law_opened (hr.mono (by first | decide | omega)) (pa_cons (pe_ix ix_tup (pv 0) pe_int (fun _ _ => rfl)) pa_nil)) (pa_cons (pv 2) pa_nil))))
    (pss_cons (ps_set (i := 2) sc_law_opened.nd rfl (Or.inl rfl) (pe_disp (pps_cons pe_str pe_str (pps_cons pe_str (pe_lst (pa_cons pe_int (pa_cons pe_int pa_nil))) (pps_cons pe_str pe_bl (pps_cons pe_str pe_non (pps_cons pe_str pe_int (pps_cons pe_str (pv 5) pps_nil)))))) (by rfl) (by rfl) (fun z => by cases z) (by decide)))
    (pss_one (ps_dput (hu_of hr) (pv 2) pe_str (pe_tup (pa_cons pe_int (pa_cons pe_int (pa_cons pe_int (pa_cons pe_int (pa_cons pe_int (pa_cons pe_int (pa_cons pe_int (pa_cons pe_int pa_nil))))))))) rfl))))))) pss_nil)
    (pss_one (ps_ret (pv 2)))))))))), ?_⟩
    match t, ha, hg, hh, k with
    | .leaf (.frac tt bb), ha, hg, hh, k =>
      have hv : SqT K H v [.str "fraction", .int tt, .int bb] := ha
      refine ⟨_, rfl, v, _, 0, _, rfl, rfl, hv, rfl, ?_⟩
      refine fun m nm => ⟨_, rfl, (by show 2 ≤ sizeLine; decide), fun tk ntk => ⟨_, rfl, ?_⟩⟩
      obtain ⟨hm2, em, htk, s3, nt, tm⟩ := open_new (kvs := kvN "fraction" tk v) nm ntk
      refine ⟨hm2, kvN "fraction" tk v, rfl, (by show 6 ≤ 15; decide), ?_⟩
      show gName 2 _ _ (upd (upd (upd H m (.dK [])) tk (.lst [V.int 0, .int 0])) m (.dK (kvN "fraction" tk v))) _
      generalize upd (upd (upd H m (.dK [])) tk (.lst [V.int 0, .int 0])) m (.dK (kvN "fraction" tk v)) = H3 at *
      have hv3 := sqT_same hv s3
      refine ⟨_, rfl, rfl, _, rfl, iteE rfl ?_⟩
      refine ⟨_, rfl, v, _, 1, _, rfl, rfl, hv3, rfl, _, rfl, v, _, 2, _, rfl, rfl, hv3, rfl, (by show 2 ≤ sizeLine; decide), fun q nq => ?_⟩
      have s4 := same_upd (o := .tup [V.int tt, .int bb]) nq
      refine ⟨_, rfl, m, _, rfl, dput (s4 _ _ em) (by show 6 ≤ 9; decide), ?_⟩
      refine ⟨_, rfl, rfl, _, rfl, iteN (by decide +kernel) ?_⟩
      refine ⟨_, rfl, rfl, _, rfl, iteN (by decide +kernel) ?_⟩
      refine ⟨_, rfl, rfl, _, rfl, iteN (by decide +kernel) ?_⟩
      refine ⟨_, rfl, rfl, _, rfl, iteN (by decide +kernel) ?_⟩
      refine ⟨_, rfl, ?_⟩
      have hq5 : SqT K (upd H3 q (.tup [V.int tt, .int bb])) q [.int tt, .int bb] := SqT.of upd_same
      have em4 := s4 _ _ em
      have htk4 := s4 _ _ htk
      have hv4 := sqT_same hv3 s4
      have s34 := s3.trans s4
      generalize upd H3 q (.tup [V.int tt, .int bb]) = H4 at *
      have ok : Chain.Ok (.frac tt bb) := ⟨small_tame hg.1, small_tame hg.2.1⟩
      refine k m (.leaf (.frac tt bb) 0 (.frac tt bb)) [m, tk] _ ⟨tk, _, rfl, ⟨upd_same, (by show 6 ≤ 9; decide), rfl, rfl, ⟨v, rfl, sqT_dk hv4 em4⟩, (by rw [upd_ne tm]; exact htk4), ⟨fun _ _ _ z => (by cases z), q, rfl, sqT_dk hq5 em4⟩, ok, hg⟩⟩ (new_leaf hg rfl ok) (fun c hc => ?_) (put_new nm s34)
      simp only [List.mem_cons, List.not_mem_nil, or_false] at hc
      rcases hc with rfl | rfl
      · exact nm
      · exact nt
    | .leaf (.root tt ss bb), ha, hg, hh, k =>
      have hv : SqT K H v [.str "root", .int tt, .int ss, .int bb] := ha
      refine ⟨_, rfl, v, _, 0, _, rfl, rfl, hv, rfl, ?_⟩
      refine fun m nm => ⟨_, rfl, (by show 2 ≤ sizeLine; decide), fun tk ntk => ⟨_, rfl, ?_⟩⟩
      obtain ⟨hm2, em, htk, s3, nt, tm⟩ := open_new (kvs := kvN "root" tk v) nm ntk
      refine ⟨hm2, kvN "root" tk v, rfl, (by show 6 ≤ 15; decide), ?_⟩
      show gName 2 _ _ (upd (upd (upd H m (.dK [])) tk (.lst [V.int 0, .int 0])) m (.dK (kvN "root" tk v))) _
      generalize upd (upd (upd H m (.dK [])) tk (.lst [V.int 0, .int 0])) m (.dK (kvN "root" tk v)) = H3 at *
      have hv3 := sqT_same hv s3
      refine ⟨_, rfl, rfl, _, rfl, iteN (by decide +kernel) ?_⟩
      refine ⟨_, rfl, rfl, _, rfl, iteE rfl ?_⟩
      have g0 := hg
      obtain ⟨g1, g2, g3, g4, g5⟩ := hg
      refine ⟨_, rfl, v, _, 2, _, rfl, rfl, hv3, rfl, ss, 100, rfl, g3, ?_, by decide, fun r hr => ?_⟩
      · exact Nat.lt_of_le_of_lt (show ss.natAbs ≤ 1000000000000 by have := g2.1; have := g2.2; omega) (by decide)
      have r0 := hr.1
      have rs : r ≤ 1000000000000 := by
        have h1 := hr.2.1
        have h2 := g2.2
        rcases Int.lt_or_le 0 r with z | z
        · have := Int.mul_le_mul_of_nonneg_left (show 1 ≤ r by omega) r0
          omega
        · omega
      have rb : r.natAbs < 2 ^ 41 := Nat.lt_of_le_of_lt (show r.natAbs ≤ 1000000000000 by omega) (by decide)
      refine ⟨_, rfl, _, rfl, _, _, rfl, rfl, wide_mul rb rb (by decide) (by decide) (by decide), _, rfl, v, _, 2, _, rfl, rfl, hv3, rfl, rfl, _, rfl, ?_⟩
      by_cases e : r * r = ss
      · refine iteE (congrArg V.int e) ?_
        refine ⟨_, rfl, v, _, 1, _, rfl, rfl, hv3, rfl, _, rfl, _, _, rfl, rfl, _, rfl, v, _, 3, _, rfl, rfl, hv3, rfl, (by show 2 ≤ sizeLine; decide), fun q nq => ?_⟩
        have s4 := same_upd (o := .tup [V.int (tt + r), .int bb]) nq
        have hq4 : SqT K (upd H3 q (.tup [V.int (tt + r), .int bb])) q [.int (tt + r), .int bb] := SqT.of upd_same
        have em4 := s4 _ _ em
        have htk4 := s4 _ _ htk
        have hv4 := sqT_same hv3 s4
        have s34 := s3.trans s4
        refine ⟨_, rfl, m, _, rfl, dput em4 (by show 6 ≤ 9; decide), ?_⟩
        generalize upd H3 q (.tup [V.int (tt + r), .int bb]) = H4 at *
        have hv5 := sqT_dk (o := .dK (putK (kvN "root" tk v) (.inr "rest") (.ref q))) hv4 em4
        have hq5 := sqT_dk (o := .dK (putK (kvN "root" tk v) (.inr "rest") (.ref q))) hq4 em4
        have em5 : upd H4 m (.dK (putK (kvN "root" tk v) (.inr "rest") (.ref q))) m = _ := upd_same
        have htk5 : upd H4 m (.dK (putK (kvN "root" tk v) (.inr "rest") (.ref q))) tk = _ := (upd_ne tm).trans htk4
        have s5 : Same H (upd H4 m (.dK (putK (kvN "root" tk v) (.inr "rest") (.ref q)))) := put_new nm s34
        generalize upd H4 m (.dK (putK (kvN "root" tk v) (.inr "rest") (.ref q))) = H5 at *
        refine ⟨_, rfl, v, _, 1, _, rfl, rfl, hv5, rfl, _, rfl, v, _, 3, _, rfl, rfl, hv5, rfl, tt, 1, bb, rfl, g5, fun lf H6 s6 nlf h6 => ?_⟩
        refine ⟨_, rfl, m, _, rfl, dput (s6 _ _ em5) (by show 6 ≤ 9; decide), ?_⟩
        refine ⟨_, rfl, rfl, _, rfl, iteN (by decide +kernel) ?_⟩
        refine ⟨_, rfl, rfl, _, rfl, iteN (by decide +kernel) ?_⟩
        refine ⟨_, rfl, rfl, _, rfl, iteN (by decide +kernel) ?_⟩
        refine ⟨_, rfl, ?_⟩
        have ok : Chain.Ok (.frac (tt + r) bb) := ⟨Nat.lt_trans (Nat.lt_of_le_of_lt (show (tt + r).natAbs ≤ 2000000000000 by have := g1.1; have := g1.2; omega) (show (2000000000000 : Nat) < 2 ^ 41 by decide)) (Nat.pow_lt_pow_right (by decide) (by decide)), small_tame g4⟩
        refine k m (.leaf (.root tt ss bb) 0 (.frac (tt + r) bb)) [m, tk] _ ⟨tk, _, rfl, ⟨upd_same, (by show 7 ≤ 9; decide), rfl, rfl, ⟨v, rfl, sqT_dk (sqT_same hv5 s6) (s6 _ _ em5)⟩, (by rw [upd_ne tm]; exact s6 _ _ htk5), ⟨fun _ _ _ z => (by cases z), q, rfl, sqT_dk (sqT_same hq5 s6) (s6 _ _ em5)⟩, ok, g0⟩⟩ (new_leaf g0 ⟨r, hr, .inl ⟨e, rfl⟩⟩ ok) (fun c hc => ?_) (put_new nm (s5.trans s6))
        simp only [List.mem_cons, List.not_mem_nil, or_false] at hc
        rcases hc with rfl | rfl
        · exact nm
        · exact nt
      · refine iteN (fun z => e (V.int.inj z)) ?_
        refine ⟨_, rfl, v, _, 1, _, rfl, rfl, hv3, rfl, _, rfl, v, _, 3, _, rfl, rfl, hv3, rfl, tt, 1, bb, rfl, g5, fun lf H6 s6 nlf h6 => ?_⟩
        refine ⟨_, rfl, m, _, rfl, dput (s6 _ _ em) (by show 6 ≤ 9; decide), ?_⟩
        refine ⟨_, rfl, rfl, _, rfl, iteN (by decide +kernel) ?_⟩
        refine ⟨_, rfl, rfl, _, rfl, iteN (by decide +kernel) ?_⟩
        refine ⟨_, rfl, rfl, _, rfl, iteN (by decide +kernel) ?_⟩
        refine ⟨_, rfl, ?_⟩
        obtain ⟨q, hq⟩ := root_there (ss * (bb.natAbs : Int) * (bb.natAbs : Int)) (Int.mul_nonneg (Int.mul_nonneg g3 (by omega)) (by omega))
        have ok : Chain.Ok (.root (tt * (bb.natAbs : Int)) (ss * (bb.natAbs : Int) * (bb.natAbs : Int)) (bb * (bb.natAbs : Int)) q) := root_first g1 g3 g2.2 g4 g5 hr e hq
        obtain ⟨q1, q2, q3⟩ := qrel_start (t := tt) (s := ss) (q := q) g5
        refine k m (.leaf (.root tt ss bb) 0 (.root (tt * (bb.natAbs : Int)) (ss * (bb.natAbs : Int) * (bb.natAbs : Int)) (bb * (bb.natAbs : Int)) q)) [m, tk] _ ⟨tk, _, rfl, ⟨upd_same, (by show 7 ≤ 9; decide), rfl, rfl, ⟨v, rfl, sqT_dk (sqT_same hv3 s6) (s6 _ _ em)⟩, (by rw [upd_ne tm]; exact s6 _ _ htk), ⟨rfl, tt, ss, bb, lf, qmade tt 1 bb, rfl, rfl, sqT_dk h6 (s6 _ _ em), q1, q2, q3⟩, ok, g0⟩⟩ (new_leaf g0 ⟨r, hr, .inr ⟨e, q, hq, rfl⟩⟩ ok) (fun c hc => ?_) (put_new nm (s3.trans s6))
        simp only [List.mem_cons, List.not_mem_nil, or_false] at hc
        rcases hc with rfl | rfl
        · exact nm
        · exact nt
    | .leaf (.ruled ps ring steps), ha, hg, hh, k =>
      obtain ⟨pp, pq, pu, hv, hv1, hv2, hvu⟩ := id ha
      refine ⟨_, rfl, v, _, 0, _, rfl, rfl, hv, rfl, ?_⟩
      refine fun m nm => ⟨_, rfl, (by show 2 ≤ sizeLine; decide), fun tk ntk => ⟨_, rfl, ?_⟩⟩
      obtain ⟨hm2, em, htk, s3, nt, tm⟩ := open_new (kvs := kvN "ruled" tk v) nm ntk
      refine ⟨hm2, kvN "ruled" tk v, rfl, (by show 6 ≤ 15; decide), ?_⟩
      show gName 2 _ _ (upd (upd (upd H m (.dK [])) tk (.lst [V.int 0, .int 0])) m (.dK (kvN "ruled" tk v))) _
      generalize upd (upd (upd H m (.dK [])) tk (.lst [V.int 0, .int 0])) m (.dK (kvN "ruled" tk v)) = H3 at *
      have hv3 := sqT_same hv s3
      refine ⟨_, rfl, rfl, _, rfl, iteN (by decide +kernel) ?_⟩
      refine ⟨_, rfl, rfl, _, rfl, iteN (by decide +kernel) ?_⟩
      refine ⟨_, rfl, rfl, _, rfl, iteN (by decide +kernel) ?_⟩
      refine ⟨_, rfl, rfl, _, rfl, iteN (by decide +kernel) ?_⟩
      refine ⟨_, rfl, rfl, _, rfl, iteN (by decide +kernel) ?_⟩
      refine ⟨_, rfl, ?_⟩
      have g : RuledGood ps ring steps := hg
      have ok : Chain.Ok (.ruled ps ring steps 0) := g.toRuledOk
      refine k m (.leaf (.ruled ps ring steps) 0 (.ruled ps ring steps 0)) [m, tk] _ ⟨tk, _, rfl, ⟨em, (by show 6 ≤ 9; decide), rfl, rfl, ⟨v, rfl, Leaf.At.same (f := .ruled ps ring steps) ha s3⟩, htk, ⟨rfl, rfl, rfl, fun _ => Nat.zero_le _⟩, ok, hg⟩⟩ (new_leaf hg rfl ok) (fun c hc => ?_) s3
      simp only [List.mem_cons, List.not_mem_nil, or_false] at hc
      rcases hc with rfl | rfl
      · exact nm
      · exact nt
    | .four ns x, ha, hg, hh, k =>
      obtain ⟨pn, tx, hv, hpn, hx⟩ := id ha
      refine ⟨_, rfl, v, _, 0, _, rfl, rfl, hv, rfl, ?_⟩
      refine fun m nm => ⟨_, rfl, (by show 2 ≤ sizeLine; decide), fun tk ntk => ⟨_, rfl, ?_⟩⟩
      obtain ⟨hm2, em, htk, s3, nt, tm⟩ := open_new (kvs := kvN "four" tk v) nm ntk
      refine ⟨hm2, kvN "four" tk v, rfl, (by show 6 ≤ 15; decide), ?_⟩
      show gName 2 _ _ (upd (upd (upd H m (.dK [])) tk (.lst [V.int 0, .int 0])) m (.dK (kvN "four" tk v))) _
      generalize upd (upd (upd H m (.dK [])) tk (.lst [V.int 0, .int 0])) m (.dK (kvN "four" tk v)) = H3 at *
      have hv3 := sqT_same hv s3
      refine ⟨_, rfl, rfl, _, rfl, iteN (by decide +kernel) ?_⟩
      refine ⟨_, rfl, rfl, _, rfl, iteN (by decide +kernel) ?_⟩
      refine ⟨_, rfl, rfl, _, rfl, iteE rfl ?_⟩
      refine ⟨_, rfl, v, _, 1, _, rfl, rfl, hv3, rfl, _, rfl, m, _, rfl, dput em (by show 6 ≤ 9; decide), ?_⟩
      have em4 : upd H3 m (.dK (putK (kvN "four" tk v) (.inr "numbers") (.ref pn))) m = _ := upd_same
      have htk4 : upd H3 m (.dK (putK (kvN "four" tk v) (.inr "numbers") (.ref pn))) tk = _ := (upd_ne tm).trans htk
      have hv4 := sqT_dk (o := (.dK (putK (kvN "four" tk v) (.inr "numbers") (.ref pn)))) hv3 em
      have hpn4 := sqT_dk (o := (.dK (putK (kvN "four" tk v) (.inr "numbers") (.ref pn)))) (sqT_same hpn s3) em
      have s4 : Same H (upd H3 m (.dK (putK (kvN "four" tk v) (.inr "numbers") (.ref pn)))) := put_new nm s3
      generalize upd H3 m (.dK (putK (kvN "four" tk v) (.inr "numbers") (.ref pn))) = H4 at *
      have hh' : x.ht + 1 ≤ n := hh
      have n0 : n ≠ 0 := by omega
      refine ⟨_, rfl, v, _, 2, _, rfl, rfl, hv4, rfl, n0, tx, x, rfl, hx.same s4, hg.2.2.2, by omega, fun mx Mx fx H5 hMx frx nfx s5 => ⟨(by show 1 ≤ sizeLine; decide), fun il nil => ?_⟩⟩
      have s6 := same_upd (o := .lst [V.ref mx]) nil
      have hil6 : upd H5 il (.lst [V.ref mx]) il = _ := upd_same
      have em6 := s6 _ _ (s5 _ _ em4)
      have htk6 := s6 _ _ (s5 _ _ htk4)
      have hpn6 := sqT_same (sqT_same hpn4 s5) s6
      have hMx6 := hMx.same s6
      have mil : m ≠ il := ne_of_none (s5 _ _ em4) nil
      have tkil : tk ≠ il := ne_of_none (s5 _ _ htk4) nil
      have mfx : m ∉ fx := fun z => by rw [nfx m z] at em4; cases em4
      have tfx : tk ∉ fx := fun z => by rw [nfx tk z] at htk4; cases htk4
      have ifx : il ∉ fx := fun z => hMx.there z nil
      refine ⟨_, rfl, m, _, rfl, dput em6 (by show 7 ≤ 9; decide), ?_⟩
      generalize upd H5 il (.lst [V.ref mx]) = H6 at *
      refine ⟨_, rfl, rfl, _, rfl, iteN (by decide +kernel) ?_⟩
      refine ⟨_, rfl, rfl, _, rfl, iteN (by decide +kernel) ?_⟩
      refine ⟨_, rfl, ?_⟩
      refine k m (.box false ⟨ns, 0, 0, 0, none, false⟩ Mx Mx) (m :: tk :: il :: fx) _ ⟨tk, il, _, ⟨upd_same, (by show 8 ≤ 9; decide), ⟨pn, rfl, sqT_dk hpn6 em6⟩, rfl, rfl, ⟨.non, rfl, rfl⟩, rfl, (by rw [upd_ne tm]; exact htk6)⟩, rfl, rfl, .inr ⟨rfl, mx, fx, (by rw [upd_ne mil.symm]; exact hil6), hMx6.dk em6 mfx, rfl, ?_⟩⟩ ⟨fun B hB => ?_, frx.took, rfl, Nat.succ_le_succ frx.ht⟩ (fun c hc => ?_) (put_new nm (s4.trans (s5.trans s6)))
      · simp only [List.nodup_cons, List.mem_cons, not_or]
        exact ⟨⟨tm.symm, mil, mfx⟩, ⟨tkil, tfx⟩, ifx, hMx.nodup⟩
      · obtain ⟨X, sX, rfl⟩ := hB
        exact .inl ⟨rfl, rfl, hg.1, rfl, frx.told, X, frx.sim X sX, rfl⟩
      · simp only [List.mem_cons] at hc
        rcases hc with rfl | rfl | rfl | hc
        · exact nm
        · exact nt
        · exact same_none s4 (same_none s5 nil)
        · exact same_none s4 (nfx c hc)
    | .eight ns x y, ha, hg, hh, k =>
      obtain ⟨pn, tx, ty, hv, hpn, hx, hy⟩ := id ha
      refine ⟨_, rfl, v, _, 0, _, rfl, rfl, hv, rfl, ?_⟩
      refine fun m nm => ⟨_, rfl, (by show 2 ≤ sizeLine; decide), fun tk ntk => ⟨_, rfl, ?_⟩⟩
      obtain ⟨hm2, em, htk, s3, nt, tm⟩ := open_new (kvs := kvN "eight" tk v) nm ntk
      refine ⟨hm2, kvN "eight" tk v, rfl, (by show 6 ≤ 15; decide), ?_⟩
      show gName 2 _ _ (upd (upd (upd H m (.dK [])) tk (.lst [V.int 0, .int 0])) m (.dK (kvN "eight" tk v))) _
      generalize upd (upd (upd H m (.dK [])) tk (.lst [V.int 0, .int 0])) m (.dK (kvN "eight" tk v)) = H3 at *
      have hv3 := sqT_same hv s3
      refine ⟨_, rfl, rfl, _, rfl, iteN (by decide +kernel) ?_⟩
      refine ⟨_, rfl, rfl, _, rfl, iteN (by decide +kernel) ?_⟩
      refine ⟨_, rfl, rfl, _, rfl, iteN (by decide +kernel) ?_⟩
      refine ⟨_, rfl, rfl, _, rfl, iteE rfl ?_⟩
      refine ⟨_, rfl, v, _, 1, _, rfl, rfl, hv3, rfl, _, rfl, m, _, rfl, dput em (by show 6 ≤ 9; decide), ?_⟩
      have em4 : upd H3 m (.dK (putK (kvN "eight" tk v) (.inr "numbers") (.ref pn))) m = _ := upd_same
      have htk4 : upd H3 m (.dK (putK (kvN "eight" tk v) (.inr "numbers") (.ref pn))) tk = _ := (upd_ne tm).trans htk
      have hv4 := sqT_dk (o := (.dK (putK (kvN "eight" tk v) (.inr "numbers") (.ref pn)))) hv3 em
      have hpn4 := sqT_dk (o := (.dK (putK (kvN "eight" tk v) (.inr "numbers") (.ref pn)))) (sqT_same hpn s3) em
      have s4 : Same H (upd H3 m (.dK (putK (kvN "eight" tk v) (.inr "numbers") (.ref pn)))) := put_new nm s3
      generalize upd H3 m (.dK (putK (kvN "eight" tk v) (.inr "numbers") (.ref pn))) = H4 at *
      have hh' : max x.ht y.ht + 1 ≤ n := hh
      have n0 : n ≠ 0 := by omega
      refine ⟨_, rfl, v, _, 2, _, rfl, rfl, hv4, rfl, n0, tx, x, rfl, hx.same s4, hg.2.2.2.1, by omega, fun mx Mx fx H5 hMx frx nfx s5 => ?_⟩
      refine ⟨_, rfl, v, _, 3, _, rfl, rfl, sqT_same hv4 s5, rfl, n0, ty, y, rfl, (hy.same s4).same s5, hg.2.2.2.2, by omega, fun my My fy H5' hMy fry nfy s5' => ⟨(by show 2 ≤ sizeLine; decide), fun il nil => ?_⟩⟩
      have s6 := same_upd (o := .lst [V.ref mx, .ref my]) nil
      have hil6 : upd H5' il (.lst [V.ref mx, .ref my]) il = _ := upd_same
      have em5 := s5 _ _ em4
      have htk5 := s5 _ _ htk4
      have em5' := s5' _ _ em5
      have htk5' := s5' _ _ htk5
      have em6 := s6 _ _ em5'
      have htk6 := s6 _ _ htk5'
      have hpn6 := sqT_same (sqT_same (sqT_same hpn4 s5) s5') s6
      have hMx6 := (hMx.same s5').same s6
      have hMy6 := hMy.same s6
      have mil : m ≠ il := ne_of_none em5' nil
      have tkil : tk ≠ il := ne_of_none htk5' nil
      have mfx : m ∉ fx := fun z => by rw [nfx m z] at em4; cases em4
      have tfx : tk ∉ fx := fun z => by rw [nfx tk z] at htk4; cases htk4
      have ifx : il ∉ fx := fun z => (hMx.same s5').there z nil
      have mfy : m ∉ fy := fun z => by rw [nfy m z] at em5; cases em5
      have tfy : tk ∉ fy := fun z => by rw [nfy tk z] at htk5; cases htk5
      have ify : il ∉ fy := fun z => hMy.there z nil
      have dis : ∀ a ∈ fx, ∀ b ∈ fy, a ≠ b := fun a ha b hb z => hMx.there ha (nfy a (z ▸ hb))
      refine ⟨_, rfl, m, _, rfl, dput em6 (by show 7 ≤ 9; decide), ?_⟩
      generalize upd H5' il (.lst [V.ref mx, .ref my]) = H6 at *
      refine ⟨_, rfl, rfl, _, rfl, iteN (by decide +kernel) ?_⟩
      refine ⟨_, rfl, ?_⟩
      refine k m (.box true ⟨ns, 0, 0, 0, none, false⟩ Mx My) (m :: tk :: il :: (fx ++ fy)) _ ⟨tk, il, _, ⟨upd_same, (by show 8 ≤ 9; decide), ⟨pn, rfl, sqT_dk hpn6 em6⟩, rfl, rfl, ⟨.non, rfl, rfl⟩, rfl, (by rw [upd_ne tm]; exact htk6)⟩, rfl, rfl, .inl ⟨rfl, mx, my, fx, fy, (by rw [upd_ne mil.symm]; exact hil6), hMx6.dk em6 mfx, hMy6.dk em6 mfy, rfl, ?_⟩⟩ ⟨fun B hB => ?_, ?_, rfl, ?_⟩ (fun c hc => ?_) (put_new nm (s4.trans (s5.trans (s5'.trans s6))))
      · simp only [List.nodup_cons, List.mem_cons, List.mem_append, not_or, List.nodup_append]
        exact ⟨⟨tm.symm, mil, mfx, mfy⟩, ⟨tkil, tfx, tfy⟩, ⟨ifx, ify⟩, hMx.nodup, hMy.nodup, dis⟩
      · obtain ⟨X, Y, sX, sY, rfl⟩ := hB
        exact .inr (.inl ⟨rfl, rfl, hg.1, rfl, frx.told, fry.told, X, Y, frx.sim X sX, fry.sim Y sY, rfl⟩)
      · show Mx.took + My.took = 0
        rw [frx.took, fry.took]
      · show max Mx.ht My.ht + 1 ≤ max x.hm y.hm + 1
        have := frx.ht
        have := fry.ht
        omega
      · simp only [List.mem_cons, List.mem_append] at hc
        rcases hc with rfl | rfl | rfl | hc | hc
        · exact nm
        · exact nt
        · exact same_none s4 (same_none s5 (same_none s5' nil))
        · exact same_none s4 (nfx c hc)
        · exact same_none s4 (same_none s5 (nfy c hc))
    | .power x e, ha, hg, hh, k =>
      obtain ⟨tx, hv, hx⟩ := id ha
      refine ⟨_, rfl, v, _, 0, _, rfl, rfl, hv, rfl, ?_⟩
      refine fun m nm => ⟨_, rfl, (by show 2 ≤ sizeLine; decide), fun tk ntk => ⟨_, rfl, ?_⟩⟩
      obtain ⟨hm2, em, htk, s3, nt, tm⟩ := open_new (kvs := kvN "power" tk v) nm ntk
      refine ⟨hm2, kvN "power" tk v, rfl, (by show 6 ≤ 15; decide), ?_⟩
      show gName 2 _ _ (upd (upd (upd H m (.dK [])) tk (.lst [V.int 0, .int 0])) m (.dK (kvN "power" tk v))) _
      generalize upd (upd (upd H m (.dK [])) tk (.lst [V.int 0, .int 0])) m (.dK (kvN "power" tk v)) = H3 at *
      have hv3 := sqT_same hv s3
      refine ⟨_, rfl, rfl, _, rfl, iteN (by decide +kernel) ?_⟩
      refine ⟨_, rfl, rfl, _, rfl, iteN (by decide +kernel) ?_⟩
      refine ⟨_, rfl, rfl, _, rfl, iteN (by decide +kernel) ?_⟩
      refine ⟨_, rfl, rfl, _, rfl, iteN (by decide +kernel) ?_⟩
      refine ⟨_, rfl, rfl, _, rfl, iteE rfl ?_⟩
      have hh' : x.ht + 1 ≤ n := hh
      have n0 : n ≠ 0 := by omega
      refine ⟨_, rfl, v, _, 1, _, rfl, rfl, hv3, rfl, n0, tx, x, rfl, hx.same s3, hg.2.2, by omega, fun mx Mx fx H5 hMx frx nfx s5 => ?_⟩
      obtain ⟨e', rfl⟩ : ∃ e', e = e' + 1 := ⟨e - 1, by have := hg.1; omega⟩
      have he : e' ≤ 3 := by have := hg.2.1; omega
      have ee : (((e' + 1 : Nat) : Int) - 1) = (e' : Int) := by omega
      refine ⟨_, rfl, v, _, 2, _, rfl, rfl, sqT_same hv3 s5, rfl, _, _, rfl, rfl, (e' : Int), (by show [V.int (((e' + 1 : Nat) : Int) - 1)] = _; rw [ee]), by omega, by omega, for_range (lo := 0) (n := e') (fun i σ H' => ∃ (M : Mac) (mm : Addr) (fp : List Addr) (v4 v5 : Option V), σ = [some (.ref v), some (.str "power"), some (.ref mm), none, v4, v5] ∧ Same H3 H' ∧ MacAt K H' M mm fp ∧ NewMac (.power x (i + 1)) M ∧ ∀ c ∈ fp, H3 c = none) ⟨Mx, mx, fx, none, none, rfl, s5, hMx, ⟨frx.sim, frx.took, frx.told, frx.ht⟩, nfx⟩ ?_ ?_⟩
      · rintro i σ H6 hi ⟨M, mm, fp, v4, v5, rfl, s6, hM, fr, nfp⟩
        refine ⟨_, rfl, v, _, 1, _, rfl, rfl, sqT_same hv3 s6, rfl, n0, tx, x, rfl, (hx.same s3).same s6, hg.2.2, by omega, fun m1 M1 f1 H7 hM1 fr1 nf1 s7 => ⟨_, rfl, (by show 2 ≤ sizeLine; decide), fun il nil => ?_⟩⟩
        have s8 := same_upd (o := .lst [V.ref m1, .ref mm]) nil
        have hil8 : upd H7 il (.lst [V.ref m1, .ref mm]) il = _ := upd_same
        have hM7 := hM.same s7
        have hM8 := hM7.same s8
        have hM18 := hM1.same s8
        have if1 : il ∉ f1 := fun z => hM1.there z nil
        have ifp : il ∉ fp := fun z => hM7.there z nil
        have dis : ∀ a ∈ f1, ∀ b ∈ fp, a ≠ b := fun a ha b hb z => hM.there hb (z ▸ nf1 a ha)
        generalize upd H7 il (.lst [V.ref m1, .ref mm]) = H8 at *
        refine fun m2 nm2 => ⟨(by show 2 ≤ sizeLine; decide), fun tk2 ntk2 => ⟨_, rfl, ?_⟩⟩
        obtain ⟨hm2', em2, htk2, s9, nt2, tm2⟩ := open_new (kvs := kvP tk2 il) nm2 ntk2
        refine ⟨hm2', kvP tk2 il, rfl, (by show 6 ≤ 15; decide), ?_⟩
        show gName 2 _ _ (upd (upd (upd H8 m2 (.dK [])) tk2 (.lst [V.int 0, .int 0])) m2 (.dK (kvP tk2 il))) _
        generalize upd (upd (upd H8 m2 (.dK [])) tk2 (.lst [V.int 0, .int 0])) m2 (.dK (kvP tk2 il)) = H9 at *
        refine ⟨(by show 8 ≤ sizeLine; decide), fun pn npn => ?_⟩
        have s10 := same_upd (o := (.tup [V.int 1, .int 0, .int 0, .int 0, .int 0, .int 0, .int 0, .int 1])) npn
        have hpn : SqT K (upd H9 pn (.tup [V.int 1, .int 0, .int 0, .int 0, .int 0, .int 0, .int 0, .int 1])) pn (timesN.map V.int) := SqT.of upd_same
        have em10 := s10 _ _ em2
        have htk10 := s10 _ _ htk2
        refine ⟨_, rfl, m2, _, rfl, dput em10 (by show 6 ≤ 9; decide), ?_⟩
        generalize upd H9 pn (.tup [V.int 1, .int 0, .int 0, .int 0, .int 0, .int 0, .int 0, .int 1]) = H10 at *
        have m2f1 : m2 ∉ f1 := fun z => hM18.there z nm2
        have m2fp : m2 ∉ fp := fun z => hM8.there z nm2
        have t2f1 : tk2 ∉ f1 := fun z => hM18.there z nt2
        have t2fp : tk2 ∉ fp := fun z => hM8.there z nt2
        have m2il : m2 ≠ il := (ne_of_none hil8 nm2).symm
        have t2il : tk2 ≠ il := (ne_of_none hil8 nt2).symm
        refine ⟨.box true ⟨timesN, 0, 0, 0, none, false⟩ M1 M, m2, m2 :: tk2 :: il :: (f1 ++ fp), _, _, rfl, ?_, ⟨tk2, il, _, ⟨upd_same, (by show 7 ≤ 9; decide), ⟨pn, rfl, sqT_dk hpn em10⟩, rfl, rfl, ⟨.non, rfl, rfl⟩, rfl, (by rw [upd_ne tm2]; exact htk10)⟩, rfl, rfl, .inl ⟨rfl, m1, mm, f1, fp, (by rw [upd_ne m2il.symm]; exact s10 _ _ (s9 _ _ hil8)), ((hM18.same s9).same s10).dk em10 m2f1, ((hM8.same s9).same s10).dk em10 m2fp, rfl, ?_⟩⟩, ⟨fun B hB => ?_, ?_, rfl, ?_⟩, fun c hc => ?_⟩
        · exact put_new (same_none (s6.trans (s7.trans s8)) nm2) (s6.trans (s7.trans (s8.trans (s9.trans s10))))
        · simp only [List.nodup_cons, List.mem_cons, List.mem_append, not_or, List.nodup_append]
          exact ⟨⟨tm2.symm, m2il, m2f1, m2fp⟩, ⟨t2il, t2f1, t2fp⟩, ⟨if1, ifp⟩, hM1.nodup, hM.nodup, dis⟩
        · obtain ⟨X, Y, sX, sY, rfl⟩ := hB
          exact .inr (.inl ⟨rfl, rfl, rfl, rfl, fr1.told, fr.told, X, Y, fr1.sim X sX, fr.sim Y sY, rfl⟩)
        · show M1.took + M.took = 0
          rw [fr1.took, fr.took]
        · show max M1.ht M.ht + 1 ≤ x.hm + (i + 1 + 1 - 1)
          have h1 := fr1.ht
          have h2 : M.ht ≤ x.hm + (i + 1 - 1) := fr.ht
          omega
        · simp only [List.mem_cons, List.mem_append] at hc
          rcases hc with rfl | rfl | rfl | hc | hc
          · exact same_none (s6.trans (s7.trans s8)) nm2
          · exact same_none (s6.trans (s7.trans s8)) nt2
          · exact same_none (s6.trans s7) nil
          · exact same_none s6 (nf1 c hc)
          · exact nfp c hc
      · rintro σ H6 ⟨M, mm, fp, v4, v5, rfl, s6, hM, fr, nfp⟩
        exact ⟨_, rfl, k mm M fp H6 hM fr (fun c hc => same_none s3 (nfp c hc)) (s3.trans s6)⟩
theorem ok_opened (T : CT K mg A) (D : DT K mg A) (G_law_common : COk P w K mg base CX0 1 "_law_common" ["_law_one", "_law_other"] sp_law_common) :
    ∀ n, COk P w K mg base CX0 (40 + n + 1) "_law_opened" ["_law_tree"] (sp_opened K n)
  | 0 => ok_opened_step T D G_law_common (cok_no D.law_opened fun _ _ _ _ z => z.1 rfl)
  | n + 1 => ok_opened_step T D G_law_common ((ok_opened T D G_law_common n).imp fun _ _ _ _ z => z.2)
end
/-! ### a reading and a machine of the same tree, side by side -/
theorem hm_le : ∀ {t : Tree}, t.Good → t.hm ≤ 3 * t.ht
  | .leaf _, _ => Nat.le_refl _
  | .four ns x, g => by
    have := hm_le g.2.2.2
    show x.hm + 1 ≤ 3 * (x.ht + 1)
    omega
  | .eight ns x y, g => by
    have := hm_le g.2.2.2.1
    have := hm_le g.2.2.2.2
    show max x.hm y.hm + 1 ≤ 3 * (max x.ht y.ht + 1)
    omega
  | .power x n, g => by
    have := hm_le g.2.2
    have := g.2.1
    show x.hm + (n - 1) ≤ 3 * (x.ht + 1)
    omega
section
variable {P : Program} [NoTree P] {w : World} {K : PySem.W.Frag} {mg : Str → Option Value} {base : Heap} {A : Ad}
structure Side (A : Ad) (K : PySem.W.Frag) (H : Hp) (rd ax mt : Addr) (fp : List Addr) (m : Addr) (fm : List Addr) (B : Box) (l : Int) (M : Mac) : Prop where
  rdb : ReadB A K H rd ax mt fp B l (M.took : Int)
  mac : MacAt K H M m fm
  sim : Sim M B
  ht : M.ht ≤ 12
  wt : B.wt ≤ 27
  dis : ∀ c ∈ fm, c ∉ fp ∧ c ≠ rd ∧ c ≠ mt
def Own (rd mt : Addr) (fp fm : List Addr) (c : Addr) : Prop := c = rd ∨ c = mt ∨ c ∈ fp ∨ c ∈ fm
theorem Side.kept {H H' : Hp} {rd ax mt m : Addr} {fp fm : List Addr} {B : Box} {l : Int} {M : Mac} {N : Addr → Prop} (S : Side A K H rd ax mt fp m fm B l M) (k : ∀ c o, H c = some o → ¬ N c → H' c = some o) (hN : ∀ c o, N c → H c = some o → (∀ ys, o ≠ .tup ys) ∧ ∀ ob u, o ≠ .frz ob u)
    (n : ∀ c, Own rd mt fp fm c → ¬ N c) : Side A K H' rd ax mt fp m fm B l M :=
  ⟨S.rdb.kept k hN (n _ (.inl rfl)) (n _ (.inr (.inl rfl))) (fun c hc => n c (.inr (.inr (.inl hc)))), S.mac.imp (fun _ _ z => sqT_but (N := N) z k hN) (fun c hc o e => k c o e (n c (.inr (.inr (.inr hc))))), S.sim, S.ht, S.wt, S.dis⟩
theorem Side.same {H H' : Hp} {rd ax mt m : Addr} {fp fm : List Addr} {B : Box} {l : Int} {M : Mac} (S : Side A K H rd ax mt fp m fm B l M) (s : Same H H') : Side A K H' rd ax mt fp m fm B l M :=
  S.kept (N := fun _ => False) (fun c o e _ => s c o e) (fun _ _ z => z.elim) (fun _ _ z => z)
theorem ReadB.there {H : Hp} {rd ax mt : Addr} {fp : List Addr} {B : Box} {l s : Int} (R : ReadB A K H rd ax mt fp B l s) {c : Addr} (hc : c = rd ∨ c = mt ∨ c ∈ fp) (z : H c = none) : False := by
  rcases hc with rfl | rfl | hc
  · obtain ⟨_, e⟩ := R.rd; rw [z] at e; cases e
  · obtain ⟨_, e⟩ := R.mt; rw [z] at e; cases e
  · rcases R.bx.soft c hc with ⟨_, _, _, e⟩ | ⟨_, e⟩ <;> rw [z] at e <;> cases e
theorem Side.there {H : Hp} {rd ax mt m : Addr} {fp fm : List Addr} {B : Box} {l : Int} {M : Mac} (S : Side A K H rd ax mt fp m fm B l M) {c : Addr} (hc : Own rd mt fp fm c) (z : H c = none) : False := by
  rcases hc with h | h | h | h
  · exact S.rdb.there (.inl h) z
  · exact S.rdb.there (.inr (.inl h)) z
  · exact S.rdb.there (.inr (.inr h)) z
  · exact S.mac.there h z
theorem RowAt.keptN {H H' : Hp} {r a : Addr} {ns : List Int} {N : Addr → Prop} (R : RowAt K H r a ns) (k : ∀ c o, H c = some o → ¬ N c → H' c = some o) (hN : ∀ c o, N c → H c = some o → (∀ ys, o ≠ .tup ys) ∧ ∀ ob u, o ≠ .frz ob u) (nr : ¬ N r) : RowAt K H' r a ns := by
  obtain ⟨⟨i, l, mx, e, z⟩, hS⟩ := R
  refine ⟨⟨i, l, mx, k _ _ e nr, z⟩, ?_⟩
  rcases hS with ⟨o, h⟩ | h
  · refine .inl ⟨o, k _ _ h fun q => ?_⟩
    first
      | exact (hN _ _ q h).1 _ rfl
      | exact (hN _ _ q h).2 _ _ rfl
  · exact .inr h
/-- a side that is new -/
theorem side_new {t : Tree} {H5 H6 H7 : Hp} {rd ax mt m : Addr} {fp fm : List Addr} {B : Box} {M : Mac} (g : t.Good) (hh : t.ht ≤ 3) (R : ReadB A K H5 rd ax mt fp B 0 0) (st : t.Starts B) (s : Same H5 H6) (hM : MacAt K H7 M m fm) (fr : NewMac t M) (nf : ∀ c ∈ fm, H6 c = none) (s7 : Same H6 H7) : Side A K H7 rd ax mt fp m fm B 0 M := by
  refine ⟨?_, hM, fr.sim B st, ?_, Nat.le_trans (Starts.wt g st) (by omega), fun c hc => ?_⟩
  · rw [fr.took]
    exact (R.same s).same s7
  · have := fr.ht
    have := hm_le g
    omega
  · have z := same_none s (nf c hc)
    exact ⟨fun y => R.there (.inr (.inr y)) z, fun y => R.there (.inl y) z, fun y => R.there (.inr (.inl y)) z⟩
end
/-! ### the law -/
def sp_law (K : PySem.W.Frag) : Sp := fun vs H Q _ => ∃ (a : Addr) (ns : List Int), vs = [.ref a] ∧ ScrAt K H a ns ∧ ns.length ≤ 63 ∧ ∀ H', Q (.bl true) H'
def sel {α : Type} (x y : α) (j : Nat) : α := if j = 0 then x else y
section
variable {P : Program} [NoTree P] {w : World} {K : PySem.W.Frag} {mg : Str → Option Value} {base : Heap} {A : Ad}
theorem ok_law (T : CT K mg A) (TT : TB K w mg A) (XM : PySem.W.exmOne K (.ref A.c_NoValue) (.ref A.c_NoValue) = some true) (D : DT K mg A) {f : Addr} {fd : FuncData} (F : Fun K "law" "law" s_law f fd) : FnOk P w K mg base CX0 80 f fd ["_law_script"] (sp_law K) := by
  have G_law_row : COk P w K mg base CX0 1 "_law_row" ["_law_script"] (sp_law_row K) := COk.by D.law_row fun f fd F => ok_law_row F
  have G_law_taken : COk P w K mg base CX0 1 "_law_taken" ["_law_row_here", "_law_many"] (sp_law_taken K) := COk.by D.law_taken fun f fd F => ok_law_taken F T.toBT
  have G_law_signed : COk P w K mg base CX0 2 "_law_signed" ["_law_row_here", "_law_most"] (sp_law_signed K) := COk.by D.law_signed fun f fd F => ok_law_signed F G_law_taken
  have G_law_whole : COk P w K mg base CX0 1 "_law_whole" ["_law_found"] sp_law_whole := COk.by D.law_whole fun f fd F => ok_law_whole F T.toBT
  have G_law_common : COk P w K mg base CX0 1 "_law_common" ["_law_one", "_law_other"] sp_law_common := COk.by D.law_common fun f fd F => ok_law_common F T.toBT
  have G_law_apart := ok_law_apart (P := P) (w := w) (base := base) T D
  have G_law_numbers := ok_law_numbers (P := P) (w := w) (base := base) T D G_law_taken G_law_signed G_law_apart
  have G_law_any_leaf := ok_any_leaf (P := P) (w := w) (base := base) T D G_law_taken G_law_signed
  have G_law_any := ok_any (P := P) (w := w) (base := base) T D G_law_taken G_law_any_leaf G_law_numbers 3 (by decide)
  have G_law_opened := ok_opened (P := P) (w := w) (base := base) T D G_law_common 3
  have G_law_told := ok_told (P := P) (w := w) (base := base) T D G_law_common 12
  have G_law_took := ok_took (P := P) (w := w) (base := base) T D 12
  have G_reader := ok_readerB (P := P) (w := w) (base := base) T TT D
  have M_took := ok_tookB (P := P) (w := w) (base := base) T D
  have M_part := ok_partB (P := P) (w := w) (base := base) T D 27
  refine F.ok (k := 79) sc_law (fun vs H Q E h => ?_) (fun cdv Ar outer s H vs Q E hr h => ?_)
  · obtain ⟨a, ns, rfl, _⟩ := h
    rfl
  · obtain ⟨a, ns, rfl, hS, hlen, k⟩ := h
    refine ⟨_, (pss_cons (ps_set (i := 1) sc_law.nd rfl (Or.inl rfl) (pe_c G_law_row (hr.mono (by first | decide | omega)) (pa_cons (pv 0) pa_nil)))
    (pss_cons (ps_set (i := 2) sc_law.nd rfl (Or.inl rfl) (pe_c G_law_any (hr.mono (by first | decide | omega)) (pa_cons (pv 1) (pa_cons (pe_op op_add pe_int (pe_c G_law_taken (hr.mono (by first | decide | omega)) (pa_cons (pv 1) (pa_cons pe_int pa_nil)))) pa_nil))))
    (pss_cons (ps_set (i := 3) sc_law.nd rfl (Or.inl rfl) (pe_lst (pa_cons (pe_c G_reader (hr.mono (by first | decide | omega)) (pa_cons (pv 2) pa_nil)) (pa_cons (pe_c G_reader (hr.mono (by first | decide | omega)) (pa_cons (pv 2) pa_nil)) pa_nil))))
    (pss_cons (ps_set (i := 4) sc_law.nd rfl (Or.inl rfl) (pe_lst (pa_cons (pe_c G_law_opened (hr.mono (by first | decide | omega)) (pa_cons (pv 2) pa_nil)) (pa_cons (pe_c G_law_opened (hr.mono (by first | decide | omega)) (pa_cons (pv 2) pa_nil)) pa_nil))))
    (pss_cons (ps_for PassesOwn.never rfl (pi_range1 rfl T.b_range (pa_cons (pe_op op_add pe_int (pe_c G_law_taken (hr.mono (by first | decide | omega)) (pa_cons (pv 1) (pa_cons pe_int pa_nil)))) pa_nil)) (pg_name (i := 5) sc_law.nd rfl (Or.inl rfl))
      (pss_cons (ps_set (i := 6) sc_law.nd rfl (Or.inl rfl) (pe_op op_fdiv (pe_c G_law_taken (hr.mono (by first | decide | omega)) (pa_cons (pv 1) (pa_cons pe_int pa_nil))) pe_int))
    (pss_cons (ps_set (i := 7) sc_law.nd rfl (Or.inl rfl) (pe_ix (show IxR _ (rIxL K) from ix_list) (pe_lst (pa_cons pe_int (pa_cons pe_int (pa_cons pe_int (pa_cons pe_int (pa_cons pe_int pa_nil)))))) (pe_c G_law_taken (hr.mono (by first | decide | omega)) (pa_cons (pv 1) (pa_cons pe_int pa_nil))) (fun _ _ => rfl)))
    (pss_cons (ps_set (i := 8) sc_law.nd rfl (Or.inl rfl) (pe_c G_law_told (hr.mono (by first | decide | omega)) (pa_cons (pe_ix ix_list (pv 4) (pv 6) (fun _ _ => rfl)) (pa_cons (pe_lst (pa_cons (pv 7) pa_nil)) pa_nil))))
    (C8.pss_cut (ps_try_only rfl rfl ⟨rfl, by decide, .inl T.x_NoValue.g⟩ takes0 (fun W pn xe tk _ => (pss_one (ps_set (i := 9) sc_law.nd rfl (Or.inl rfl) (pe_mS M_part (hr.mono (by first | decide | omega)) (fun σ => passAt tk σ) (pe_ix (show IxR _ (rIxL K) from ix_list) (pv 3) (pv 6) (fun _ _ => rfl)) (pa_cons (pv 7) pa_nil)))))
      (fun a oe cls d pn hz hf => (pss_one (ps_set (i := 9) sc_law.nd rfl (Or.inl rfl) (pe_tup (pa_cons pe_str pa_nil))))))
    (C8.pss_cut (ps_if (PW.pt (pw_or (pt_not (pt_val (pe_callB call_isi (by rfl) T.b_isinstance (by decide +kernel) (pa_cons (pv 9) (pa_cons (pe_bltn (v := .ty "tuple") (by rfl) T.b_tuple (by decide +kernel) rfl) pa_nil))))) (pw_or (pt_cmpR (op_neD hr.units) (pv 9) (pv 8) (nomark _)) (pw_or1 (PW.pt (pw_and (pt_cmpR op_eq (pe_callB call_len_seq (by rfl) T.b_len (by decide +kernel) (pa_cons (pv 9) pa_nil)) pe_int (nomark _)) (pw_and1 (pt_not (pt_val (pe_c G_law_whole (hr.mono (by first | decide | omega)) (pa_cons (pe_ix ix_tup (pv 9) pe_int (fun _ _ => rfl)) pa_nil)))))))))))
      (pss_one (ps_ret pe_bl)) pss_nil)
    (pss_one (ps_for PassesOwn.never rfl (pi_range1 rfl T.b_range (pa_cons pe_int pa_nil)) (pg_name (i := 10) sc_law.nd rfl (Or.inl rfl))
      (pss_cons (ps_set (i := 11) sc_law.nd rfl (Or.inl rfl) (pe_m0 M_took (hr.mono (by first | decide | omega)) (pe_ix ix_list (pv 3) (pv 10) (fun _ _ => rfl))))
    (pss_one (ps_if (PW.pt (pw_or (pt_not (pt_val (pe_c G_law_whole (hr.mono (by first | decide | omega)) (pa_cons (pv 11) pa_nil)))) (pw_or1 (pt_cmpR op_ne (pv 11) (pe_c G_law_took (hr.mono (by first | decide | omega)) (pa_cons (pe_ix ix_list (pv 4) (pv 10) (fun _ _ => rfl)) pa_nil)) (nomark _)))))
      (pss_one (ps_ret pe_bl)) pss_nil)))))))))))
    (pss_one (ps_ret pe_bl))))))), ?_⟩
    have wd : ∀ z : Int, z ≤ 1000 → z < 2 ^ 8000 := fun z hz => Int.lt_of_le_of_lt hz (by decide +kernel)
    refine ⟨_, rfl, a, ns, rfl, hS, hlen, fun r H1 nr s1 R1 => ?_⟩
    refine ⟨_, rfl, _, rfl, r, a, ns, 4, rfl, R1, by decide, wd _ (by decide), fun x4 H2 x0 x1 R2 kp2 => ⟨_, _, rfl, rfl, r, a, ns, x4.toNat, ?_, by omega, R2, fun v t H3 ht gt hh R3 kp3 => ?_⟩⟩
    · show [V.ref r, V.int (1 + x4)] = _
      rw [show (1 + x4) = ((x4.toNat + 1 : Nat) : Int) by omega]
    have hh3 : t.ht ≤ 3 := by omega
    refine ⟨_, rfl, v, t, rfl, ht, gt, by omega, fun rd0 ax0 mt0 fp0 B H4 RD0 st0 s4 nrd0 nmt0 nfp0 => ?_⟩
    refine ⟨_, rfl, v, t, rfl, ht.same s4, gt, by omega, fun rd1 ax1 mt1 fp1 B1 H5 RD1 st1 s5 nrd1 nmt1 nfp1 => ⟨(by show 2 ≤ sizeLine; decide), fun ml nml => ?_⟩⟩
    obtain rfl := Starts.one st0 st1
    have s6 := same_upd (o := .lst [V.ref rd0, .ref rd1]) nml
    have hml6 : upd H5 ml (.lst [V.ref rd0, .ref rd1]) ml = _ := upd_same
    generalize upd H5 ml (.lst [V.ref rd0, .ref rd1]) = H6 at *
    have ht6 := ((ht.same s4).same s5).same s6
    refine ⟨_, rfl, v, t, rfl, ht6, gt, hh3, fun m0 M0 fm0 H7 hM0 fr0 nf0 s7 => ?_⟩
    refine ⟨_, rfl, v, t, rfl, ht6.same s7, gt, hh3, fun m1 M1 fm1 H8 hM1 fr1 nf1 s8 => ⟨(by show 2 ≤ sizeLine; decide), fun gl ngl => ?_⟩⟩
    have s9 := same_upd (o := .lst [V.ref m0, .ref m1]) ngl
    have hgl9 : upd H8 gl (.lst [V.ref m0, .ref m1]) gl = _ := upd_same
    have S08 := (side_new gt hh3 RD0 st0 (s5.trans s6) hM0 fr0 nf0 s7).same s8
    have S18 := side_new gt hh3 RD1 st1 (s6.trans s7) hM1 fr1 nf1 s8
    have q1 : ∀ c, (c = rd1 ∨ c = mt1 ∨ c ∈ fp1) → H4 c = none := fun c h => by
      rcases h with rfl | rfl | h
      · exact nrd1
      · exact nmt1
      · exact nfp1 c h
    have q0 : ∀ c, (c = rd0 ∨ c = mt0 ∨ c ∈ fp0) → H3 c = none := fun c h => by
      rcases h with rfl | rfl | h
      · exact nrd0
      · exact nmt0
      · exact nfp0 c h
    have own : ∀ {rd mt : Addr} {fp fm : List Addr} {c : Addr}, Own rd mt fp fm c → (c = rd ∨ c = mt ∨ c ∈ fp) ∨ c ∈ fm := fun h => by
      rcases h with h | h | h | h
      · exact .inl (.inl h)
      · exact .inl (.inr (.inl h))
      · exact .inl (.inr (.inr h))
      · exact .inr h
    have apart : ∀ c, Own rd0 mt0 fp0 fm0 c → ¬ Own rd1 mt1 fp1 fm1 c := fun c h h' => by
      rcases own h with h | h
      · rcases own h' with h' | h'
        · exact RD0.there h (q1 c h')
        · exact RD0.there h (same_none (s5.trans (s6.trans s7)) (nf1 c h'))
      · rcases own h' with h' | h'
        · exact RD1.there h' (same_none s6 (nf0 c h))
        · exact hM0.there h (nf1 c h')
    obtain ⟨rx0, rxs0, er3⟩ := R3.at_
    have r0 : ¬ Own rd0 mt0 fp0 fm0 r := fun h => by
      have z : H3 r = none := by
        rcases own h with h | h
        · exact q0 r h
        · exact same_none (s4.trans (s5.trans s6)) (nf0 r h)
      rw [z] at er3; cases er3
    have r1 : ¬ Own rd1 mt1 fp1 fm1 r := fun h => by
      have z : H3 r = none := by
        rcases own h with h | h
        · exact same_none s4 (q1 r h)
        · exact same_none (s4.trans (s5.trans (s6.trans s7))) (nf1 r h)
      rw [z] at er3; cases er3
    have ml0 : ¬ Own rd0 mt0 fp0 fm0 ml := fun h => by
      rcases own h with h | h
      · exact RD0.there h (same_none s5 nml)
      · rw [nf0 ml h] at hml6; cases hml6
    have ml1 : ¬ Own rd1 mt1 fp1 fm1 ml := fun h => by
      rcases own h with h | h
      · exact RD1.there h nml
      · have e := s7 _ _ hml6
        rw [nf1 ml h] at e; cases e
    have gl0 : ¬ Own rd0 mt0 fp0 fm0 gl := fun h => S08.there h ngl
    have gl1 : ¬ Own rd1 mt1 fp1 fm1 gl := fun h => S18.there h ngl
    have nmlr : ml ≠ r := (ne_of_none (s5 _ _ (s4 _ _ er3)) nml).symm
    have nglr : gl ≠ r := (ne_of_none (s8 _ _ (s7 _ _ (s6 _ _ (s5 _ _ (s4 _ _ er3))))) ngl).symm
    have S09 := S08.same s9
    have S19 := S18.same s9
    have hml9 := s9 _ _ (s8 _ _ (s7 _ _ hml6))
    have R9 := (((((R3.same s4).same s5).same s6).same s7).same s8).same s9
    generalize upd H8 gl (.lst [V.ref m0, .ref m1]) = H9 at *
    obtain ⟨_, inv0⟩ := tree_inv (T := 440) (by decide) (by decide) (v := (1, 0)) gt st0 RD0.ok (show t.ht ≤ 3 from hh3) (by decide)
    obtain ⟨rd, ax, mt, m, fm, fp, M, hml, hgl, hSd, hap, hout⟩ : ∃ (rd ax mt m : Nat → Addr) (fm fp : Nat → List Addr) (M : Nat → Mac), H9 ml = some (.lst [.ref (rd 0), .ref (rd 1)]) ∧ H9 gl = some (.lst [.ref (m 0), .ref (m 1)]) ∧ (∀ j, j < 2 → Side A K H9 (rd j) (ax j) (mt j) (fp j) (m j) (fm j) B 0 (M j)) ∧ (∀ c, Own (rd 0) (mt 0) (fp 0) (fm 0) c → ¬ Own (rd 1) (mt 1) (fp 1) (fm 1) c) ∧ ∀ j, j < 2 → ¬ Own (rd j) (mt j) (fp j) (fm j) r ∧ ¬ Own (rd j) (mt j) (fp j) (fm j) ml ∧ ¬ Own (rd j) (mt j) (fp j) (fm j) gl :=
      ⟨sel rd0 rd1, sel ax0 ax1, sel mt0 mt1, sel m0 m1, sel fm0 fm1, sel fp0 fp1, sel M0 M1, hml9, hgl9, (fun j hj => match j, hj with | 0, _ => S09 | 1, _ => S19), apart, fun j hj => match j, hj with | 0, _ => ⟨r0, ml0, gl0⟩ | 1, _ => ⟨r1, ml1, gl1⟩⟩
    clear apart own q0 q1 r0 r1 ml0 ml1 gl0 gl1 S08 S18 S09 S19
    refine ⟨_, rfl, r, a, ns, 40, rfl, R9, by decide, wd _ (by decide), fun x40 H10 y0 y1 R10 kp10 => ?_⟩
    obtain ⟨N, hN, hN40⟩ : ∃ N : Nat, 1 + x40 = (N : Int) ∧ N ≤ 40 := ⟨(1 + x40).toNat, by omega, by omega⟩
    refine ⟨_, _, rfl, rfl, (N : Int), (by show [V.int (1 + x40)] = _; rw [hN]), by omega, by omega, for_range (lo := 0) (n := N) (fun i σ H' => ∃ (fp : Nat → List Addr) (B : Nat → Box) (l : Nat → Int) (M : Nat → Mac) (v5 v6 v7 v8 v9 v10 v11 : Option V), σ = [some (.ref a), some (.ref r), some (.ref v), some (.ref ml), some (.ref gl), v5, v6, v7, v8, v9, v10, v11] ∧ RowAt K H' r a ns ∧ H' ml = some (.lst [.ref (rd 0), .ref (rd 1)]) ∧ H' gl = some (.lst [.ref (m 0), .ref (m 1)]) ∧
        (∀ j, j < 2 → Side A K H' (rd j) (ax j) (mt j) (fp j) (m j) (fm j) (B j) (l j) (M j)) ∧ (∀ j, j < 2 → ∃ b val MM, Inv (11 * (40 - (i : Int))) (B j) b val MM) ∧ (∀ c, Own (rd 0) (mt 0) (fp 0) (fm 0) c → ¬ Own (rd 1) (mt 1) (fp 1) (fm 1) c) ∧ ∀ j, j < 2 → ¬ Own (rd j) (mt j) (fp j) (fm j) r ∧ ¬ Own (rd j) (mt j) (fp j) (fm j) ml ∧ ¬ Own (rd j) (mt j) (fp j) (fm j) gl)
      ⟨fp, fun _ => B, fun _ => 0, M, none, none, none, none, none, none, none, rfl, R10, kp10 _ _ hml nmlr, kp10 _ _ hgl nglr, (fun j hj => (hSd j hj).kept (N := fun b => b = r) kp10 (rowNo R9) (fun c h z => (hout j hj).1 (z ▸ h))), (fun j _ => ⟨_, _, _, inv0.mono (by omega)⟩), hap, hout⟩ ?_ ?_⟩
    · rintro i σ H' hi ⟨fp, B, l, M, v5, v6, v7, v8, v9, v10, v11, rfl, R', hml', hgl', hSd, hinv, hap, hout⟩
      have hap2 : ∀ j j', j < 2 → j' < 2 → j ≠ j' → ∀ c, Own (rd j) (mt j) (fp j) (fm j) c → ¬ Own (rd j') (mt j') (fp j') (fm j') c := fun j j' hj hj' ne c h h' => by
        match j, j', hj, hj', ne, h, h' with
        | 0, 1, _, _, _, h, h' => exact hap c h h'
        | 1, 0, _, _, _, h, h' => exact hap c h' h
        | 0, 0, _, _, ne, _, _ => exact ne rfl
        | 1, 1, _, _, ne, _, _ => exact ne rfl
      refine ⟨_, rfl, r, a, ns, 4, rfl, R', by decide, wd _ (by decide), fun xw H2 w0 w1 R2 kp2 => ⟨_, _, rfl, rfl, (by first | decide | exact ⟨by omega, by omega⟩ | omega), ?_⟩⟩
      obtain ⟨wn, hw2, ew⟩ : ∃ wn : Nat, wn < 2 ∧ xw / 3 = (wn : Int) := ⟨(xw / 3).toNat, by omega, by omega⟩
      refine ⟨(by show 5 ≤ sizeLine; decide), fun ql nql => ?_⟩
      have s3 := same_upd (o := .lst [V.int 0, .int 1, .int 2, .int 5, .int 11]) nql
      have hql := upd_at s3
      have R3 := R2.same s3
      have nqr : ql ≠ r := by
        obtain ⟨_, _, e⟩ := R2.at_
        exact (ne_of_none e nql).symm
      have S2 := fun j hj => ((hSd j hj).kept (N := fun b => b = r) kp2 (rowNo R') (fun c h z => (hout j hj).1 (z ▸ h))).same s3
      have hml3 := s3 _ _ (kp2 _ _ hml' nmlr)
      have hgl3 := s3 _ _ (kp2 _ _ hgl' nglr)
      generalize upd H2 ql (.lst [V.int 0, .int 1, .int 2, .int 5, .int 11]) = H3b at *
      refine ⟨_, rfl, r, a, ns, 5, rfl, R3, by decide, wd _ (by decide), fun yq H4 y0 y1 R4 kp4 => ?_⟩
      obtain ⟨q, hq, q0, q11⟩ : ∃ q : Int, atI [V.int 0, .int 1, .int 2, .int 5, .int 11] yq = some (.int q) ∧ 0 ≤ q ∧ q ≤ 11 := by
        obtain ⟨yn, rfl⟩ := Int.eq_ofNat_of_zero_le y0
        have : yn < 5 := by omega
        match yn, this with
        | 0, _ => exact ⟨0, rfl, by decide, by decide⟩
        | 1, _ => exact ⟨1, rfl, by decide, by decide⟩
        | 2, _ => exact ⟨2, rfl, by decide, by decide⟩
        | 3, _ => exact ⟨5, rfl, by decide, by decide⟩
        | 4, _ => exact ⟨11, rfl, by decide, by decide⟩
      refine ⟨ql, _, yq, _, rfl, rfl, SqL.of (kp4 _ _ hql nqr), hq, ?_⟩
      have S4 := fun j hj => (S2 j hj).kept (N := fun b => b = r) kp4 (rowNo R3) (fun c h z => (hout j hj).1 (z ▸ h))
      have hml4 := kp4 _ _ hml3 nmlr
      have hgl4 := kp4 _ _ hgl3 nglr
      have at2 : ∀ (f : Nat → Addr), atI [V.ref (f 0), .ref (f 1)] (xw / 3) = some (.ref (f wn)) := fun f => by
        rw [ew]
        match wn, hw2 with
        | 0, _ => rfl
        | 1, _ => rfl
      obtain ⟨b, val, MM, inv⟩ := hinv wn hw2
      have Sw4 := S4 wn hw2
      obtain ⟨oo, B7, l7, asks, out⟩ := asks_all (l := q) (D := 11 * (39 - (i : Int))) Sw4.rdb.ok q0 (by omega) (inv.mono (l' := q + 11 * (39 - (i : Int))) (by omega))
      obtain ⟨n0, en⟩ := askF_up asks
      have ha := en n0 (Nat.le_refl _)
      refine ⟨_, rfl, _, rfl, gl, _, xw / 3, _, rfl, rfl, SqL.of hgl4, at2 m, _, rfl, (by show 1 ≤ sizeLine; decide), fun pu npu => ?_⟩
      have s5 := same_upd (o := .lst [V.int q]) npu
      have hpu5 := upd_at s5
      have S5 := fun j hj => (S4 j hj).same s5
      have npuO : ∀ j, j < 2 → ¬ Own (rd j) (mt j) (fp j) (fm j) pu := fun j hj h => (S4 j hj).there h npu
      have hml5 := s5 _ _ hml4
      have hgl5 := s5 _ _ hgl4
      have R5 := R4.same s5
      have nmlp : ml ≠ pu := ne_of_none hml4 npu
      have nglp : gl ≠ pu := ne_of_none hgl4 npu
      have nrp : r ≠ pu := by
        obtain ⟨_, _, e⟩ := R4.at_
        exact ne_of_none e npu
      generalize upd H4 pu (.lst [V.int q]) = H5b at *
      have Sw5 := S5 wn hw2
      refine ⟨m wn, pu, M wn, fm wn, B wn, q, n0, oo, B7, l7, rfl, Sw5.mac, Sw5.ht, Sw5.sim, hpu5, fun z => npuO wn hw2 (.inr (.inr (.inr z))), q0, ha, fun dt H6 M' hdt hM6 hS6 htook htold hfin hpu6 l70 fr6 hht6 => ?_⟩
      -- what is left as it was
      have hN6 : ∀ c o, (c ∈ fm wn ∨ c = pu) → H5b c = some o → (∀ ys, o ≠ .tup ys) ∧ ∀ ob u, o ≠ .frz ob u := fun c o h e => by
        rcases h with h | rfl
        · exact (Sw5.mac.soft c h).no e
        · rw [hpu5] at e; cases e; exact ⟨fun _ q => (by cases q), fun _ _ q => (by cases q)⟩
      have kp6 : ∀ c o, H5b c = some o → ¬ (c ∈ fm wn ∨ c = pu) → H6 c = some o := fun c o e n => fr6 c o e (fun z => n (.inl z)) fun z => n (.inr z)
      have RD6 := Sw5.rdb.kept (N := fun c => c ∈ fm wn ∨ c = pu) kp6 hN6 (fun z => z.elim (fun y => (Sw5.dis _ y).2.1 rfl) fun y => npuO wn hw2 (.inl y.symm)) (fun z => z.elim (fun y => (Sw5.dis _ y).2.2 rfl) fun y => npuO wn hw2 (.inr (.inl y.symm))) (fun c hc z => z.elim (fun y => (Sw5.dis _ y).1 hc) fun y => npuO wn hw2 (.inr (.inr (.inl (y ▸ hc)))))
      have So6 : ∀ j, j < 2 → j ≠ wn → Side A K H6 (rd j) (ax j) (mt j) (fp j) (m j) (fm j) (B j) (l j) (M j) := fun j hj ne => (S5 j hj).kept (N := fun c => c ∈ fm wn ∨ c = pu) kp6 hN6 fun c h z => z.elim (fun y => hap2 j wn hj hw2 ne c h (.inr (.inr (.inr y)))) fun y => npuO j hj (y ▸ h)
      have ho := hout wn hw2
      have R6 := R5.keptN (N := fun c => c ∈ fm wn ∨ c = pu) kp6 hN6 fun z => z.elim (fun y => ho.1 (.inr (.inr (.inr y)))) nrp
      have hml6 := kp6 _ _ hml5 fun z => z.elim (fun y => ho.2.1 (.inr (.inr (.inr y)))) nmlp
      have hgl6 := kp6 _ _ hgl5 fun z => z.elim (fun y => ho.2.2 (.inr (.inr (.inr y)))) nglp
      -- the program's own asking
      refine ⟨fun σ H7 => ∃ (fp7 : List Addr) (tf : Addr), σ = [some (.ref a), some (.ref r), some (.ref v), some (.ref ml), some (.ref gl), some (.int (0 + (i : Int))), some (.int (xw / 3)), some (.int q), some (.ref dt), some (.ref tf), v10, v11] ∧ SqT K H7 tf (oVals oo) ∧ ReadB A K H7 (rd wn) (ax wn) (mt wn) fp7 B7 l7 (((M wn).took : Int) + (q - l7)) ∧ (∀ c z, H6 c = some z → c ∉ fp wn → c ≠ mt wn → H7 c = some z) ∧ ∀ c ∈ fp7, c ∈ fp wn ∨ H6 c = none, ?_, ?_⟩
      · obtain ⟨rx, er⟩ := RD6.rd
        refine ⟨_, rfl, _, rfl, ml, _, xw / 3, _, rfl, rfl, SqL.of hml6, at2 rd, rd wn, rx, _, rfl, er, rfl, _, rfl, rd wn, ax wn, mt wn, fp wn, B wn, l wn, _, q, n0, oo, B7, l7, rfl, RD6, Sw5.wt, ha, fun H7 fp7 R7 fr7 sub7 => ?_⟩
        cases oo with
        | some an =>
          intro v hv
          obtain ⟨tf, rfl, htf⟩ := hv.tup T
          exact ⟨fp7, tf, rfl, htf, R7, fr7, sub7⟩
        | none =>
          refine ⟨true, XM, fun _ a0 na => ?_, fun z => nomatch z⟩
          refine ⟨(by show 1 ≤ sizeLine; decide), fun t nt => ?_⟩
          have s2 := same_upd (o := .tup [V.str "none"]) nt
          exact ⟨fp7, t, rfl, SqT.of upd_same, R7.same s2, (fun c z e hc hcm => s2 _ _ (fr7 c z e hc hcm)), sub7⟩
      rintro σ H7 ⟨fp7, tf, rfl, htf, RD7, fr7, sub7⟩
      have hN7 : ∀ c o, (c ∈ fp wn ∨ c = mt wn) → H6 c = some o → (∀ ys, o ≠ .tup ys) ∧ ∀ ob u, o ≠ .frz ob u := fun c o h e => by
        rcases h with h | h
        · exact (RD6.bx.soft c h).no e
        · obtain ⟨dm, em⟩ := RD6.mt
          rw [h, em] at e
          exact ins_no (Option.some.inj e).symm
      have kp7 : ∀ c o, H6 c = some o → ¬ (c ∈ fp wn ∨ c = mt wn) → H7 c = some o := fun c o e n => fr7 c o e (fun z => n (.inl z)) fun z => n (.inr z)
      have hdt7 := sqT_but (N := fun c => c ∈ fp wn ∨ c = mt wn) hdt kp7 hN7
      have ty : TyX K H7 (.ref tf) (.type "tuple") := tyT htf
      have tk7 : ((M wn).took : Int) + (q - l7) = (M'.took : Int) := by omega
      rw [tk7] at RD7
      have Snew : Side A K H7 (rd wn) (ax wn) (mt wn) fp7 (m wn) (fm wn) B7 l7 M' := by
        refine ⟨RD7, hM6.imp (fun _ _ z => sqT_but (N := fun c => c ∈ fp wn ∨ c = mt wn) z kp7 hN7) (fun c hc o e => fr7 c o e (Sw5.dis c hc).1 (Sw5.dis c hc).2.2), hS6, by rw [hht6]; exact Sw5.ht, Nat.le_trans (askF_ok Sw5.rdb.ok ha).2.1 Sw5.wt, fun c hc => ⟨fun z => ?_, (Sw5.dis c hc).2.1, (Sw5.dis c hc).2.2⟩⟩
        rcases sub7 c z with y | y
        · exact (Sw5.dis c hc).1 y
        · exact hM6.there hc y
      have So7 : ∀ j, j < 2 → j ≠ wn → Side A K H7 (rd j) (ax j) (mt j) (fp j) (m j) (fm j) (B j) (l j) (M j) := fun j hj ne => (So6 j hj ne).kept (N := fun c => c ∈ fp wn ∨ c = mt wn) kp7 hN7 fun c h z => z.elim (fun y => hap2 j wn hj hw2 ne c h (.inr (.inr (.inl y)))) fun y => hap2 j wn hj hw2 ne c h (.inr (.inl y))
      have R7 := R6.keptN (N := fun c => c ∈ fp wn ∨ c = mt wn) kp7 hN7 fun z => z.elim (fun y => ho.1 (.inr (.inr (.inl y)))) fun y => ho.1 (.inr (.inl y))
      have hml7 := kp7 _ _ hml6 fun z => z.elim (fun y => ho.2.1 (.inr (.inr (.inl y)))) fun y => ho.2.1 (.inr (.inl y))
      have hgl7 := kp7 _ _ hgl6 fun z => z.elim (fun y => ho.2.2 (.inr (.inr (.inl y)))) fun y => ho.2.2 (.inr (.inl y))
      have inv7 : ∃ b val, Inv (11 * (39 - (i : Int))) B7 b val MM := by
        have mono : ∀ {b val}, Inv (l7 + 11 * (39 - (i : Int))) B7 b val MM → Inv (11 * (39 - (i : Int))) B7 b val MM := fun h => h.mono (by omega)
        match oo, out with
        | none, out => obtain ⟨_, v', z⟩ := out.1 rfl; exact ⟨_, _, mono z⟩
        | some .waits, out => obtain ⟨v', z, _⟩ := out.2.1 rfl; exact ⟨_, _, mono z⟩
        | some .fin, out => obtain ⟨_, _, v', z, _⟩ := out.2.2.1 rfl; exact ⟨_, _, mono z⟩
        | some (.part x), out => obtain ⟨_, v', _, _, _, _, z, _⟩ := out.2.2.2 x rfl; exact ⟨_, _, mono z⟩
      obtain ⟨b7, val7, inv7⟩ := inv7
      have ei : (11 : Int) * (39 - (i : Int)) = 11 * (40 - ((i + 1 : Nat) : Int)) := by omega
      rw [ei] at inv7
      have ownN : ∀ c, Own (rd wn) (mt wn) fp7 (fm wn) c → Own (rd wn) (mt wn) (fp wn) (fm wn) c ∨ H6 c = none := fun c h => by
        rcases h with h | h | h | h
        · exact .inl (.inl h)
        · exact .inl (.inr (.inl h))
        · rcases sub7 c h with y | y
          · exact .inl (.inr (.inr (.inl y)))
          · exact .inr y
        · exact .inl (.inr (.inr (.inr h)))
      obtain ⟨_, _, er6⟩ := R6.at_
      have outN : ∀ {c o}, H6 c = some o → ¬ Own (rd wn) (mt wn) (fp wn) (fm wn) c → ¬ Own (rd wn) (mt wn) fp7 (fm wn) c := fun {c o} e n h => by
        rcases ownN c h with y | y
        · exact n y
        · rw [e] at y; cases y
      have apN : ∀ j, j < 2 → j ≠ wn → ∀ c, Own (rd j) (mt j) (fp j) (fm j) c → ¬ Own (rd wn) (mt wn) fp7 (fm wn) c := fun j hj ne c h h' => by
        rcases ownN c h' with y | y
        · exact hap2 j wn hj hw2 ne c h y
        · exact (So6 j hj ne).there h y
      obtain ⟨fp', B', l', M'', hS8, hinv8, hap8, hout8⟩ : ∃ (fp' : Nat → List Addr) (B' : Nat → Box) (l' : Nat → Int) (M'' : Nat → Mac), (∀ j, j < 2 → Side A K H7 (rd j) (ax j) (mt j) (fp' j) (m j) (fm j) (B' j) (l' j) (M'' j)) ∧ (∀ j, j < 2 → ∃ b val MM, Inv (11 * (40 - ((i + 1 : Nat) : Int))) (B' j) b val MM) ∧ (∀ c, Own (rd 0) (mt 0) (fp' 0) (fm 0) c → ¬ Own (rd 1) (mt 1) (fp' 1) (fm 1) c) ∧ ∀ j, j < 2 → ¬ Own (rd j) (mt j) (fp' j) (fm j) r ∧ ¬ Own (rd j) (mt j) (fp' j) (fm j) ml ∧ ¬ Own (rd j) (mt j) (fp' j) (fm j) gl := by
        refine ⟨fun j => if j = wn then fp7 else fp j, fun j => if j = wn then B7 else B j, fun j => if j = wn then l7 else l j, fun j => if j = wn then M' else M j, fun j hj => ?_, fun j hj => ?_, fun c h h' => ?_, fun j hj => ?_⟩
        · by_cases e : j = wn
          · subst e
            simp only [if_pos]
            exact Snew
          · simp only [if_neg e]
            exact So7 j hj e
        · by_cases e : j = wn
          · subst e
            simp only [if_pos]
            exact ⟨_, _, _, inv7⟩
          · simp only [if_neg e]
            obtain ⟨b', val', MM', z⟩ := hinv j hj
            exact ⟨b', val', MM', z.mono (by omega)⟩
        · by_cases e : (0 : Nat) = wn
          · have e1 : ¬ (1 : Nat) = wn := by omega
            simp only [if_neg e1] at h'
            simp only [if_pos e] at h
            rw [e] at h
            exact apN 1 (by omega) e1 c h' h
          · have e1 : (1 : Nat) = wn := by omega
            simp only [if_neg e] at h
            simp only [if_pos e1] at h'
            rw [e1] at h'
            exact apN 0 (by omega) e c h h'
        · by_cases e : j = wn
          · subst e
            simp only [if_pos]
            exact ⟨outN er6 ho.1, outN hml6 ho.2.1, outN hgl6 ho.2.2⟩
          · simp only [if_neg e]
            exact hout j hj
      -- what was found, beside what was due
      refine ⟨fun σ H8 => σ = [some (.ref a), some (.ref r), some (.ref v), some (.ref ml), some (.ref gl), some (.int (0 + (i : Int))), some (.int (xw / 3)), some (.int q), some (.ref dt), some (.ref tf), v10, v11] ∧ H8 = H7, ?_, ?_⟩
      · refine ⟨_, rfl, _, _, _, _, true, rfl, .ty "tuple", ty, kit_ty (by decide +kernel), _, rfl, iteF ?_⟩
        refine ⟨_, rfl, _, rfl, _, _, oDp _ htf, oDp _ hdt7, oShaped _, oShaped _, _, rfl, ?_⟩
        rw [SeqAt.eqv_refl _ (SeqAt.canLay_of_shaped (oShaped oo))]
        refine iteF ?_
        clear out asks ha en hS8 hinv8 hap8 hout8 hfin htold
        cases oo with
        | none => exact ⟨_, rfl, tf, _, rfl, .inr htf, rfl, _, rfl, iteF (iteF ⟨rfl, rfl⟩)⟩
        | some an =>
          cases an with
          | waits => exact ⟨_, rfl, tf, _, rfl, .inr htf, rfl, _, rfl, iteF (iteF ⟨rfl, rfl⟩)⟩
          | fin => exact ⟨_, rfl, tf, _, rfl, .inr htf, rfl, _, rfl, iteF (iteF ⟨rfl, rfl⟩)⟩
          | part z => exact ⟨_, rfl, tf, _, rfl, .inr htf, rfl, _, rfl, iteT ⟨_, rfl, tf, _, 1, .int z, rfl, rfl, htf, atI_nat (j := 1) rfl, z, rfl, _, rfl, iteF ⟨rfl, rfl⟩⟩⟩
      rintro σ H8 ⟨rfl, rfl⟩
      refine ⟨2, rfl, by decide, by decide, for_range (lo := 0) (n := 2) (fun j σ H9 => ∃ v10 v11 : Option V, σ = [some (.ref a), some (.ref r), some (.ref v), some (.ref ml), some (.ref gl), some (.int (0 + (i : Int))), some (.int (xw / 3)), some (.int q), some (.ref dt), some (.ref tf), v10, v11] ∧ Same H8 H9) ⟨v10, v11, rfl, Same.refl _⟩ ?_ ?_⟩
      · rintro j σ H9 hj ⟨v10, v11, rfl, s9⟩
        have Sj := (hS8 j hj).same s9
        obtain ⟨rxj, erj⟩ := Sj.rdb.rd
        have atj : ∀ (f : Nat → Addr), atI [V.ref (f 0), .ref (f 1)] (0 + (j : Int)) = some (.ref (f j)) := fun f => by
          rw [Int.zero_add]
          match j, hj with
          | 0, _ => rfl
          | 1, _ => rfl
        refine ⟨_, rfl, _, rfl, ml, _, 0 + (j : Int), _, rfl, rfl, SqL.of (s9 _ _ hml7), atj rd, rd j, rxj, _, rfl, erj, rfl, rd j, ax j, mt j, fp' j, B' j, l' j, _, rfl, Sj.rdb, ?_⟩
        refine ⟨_, rfl, _, rfl, _, rfl, iteF ?_⟩
        refine ⟨_, rfl, _, rfl, _, rfl, gl, _, 0 + (j : Int), _, rfl, rfl, SqL.of (s9 _ _ hgl7), atj m, m j, M'' j, fm j, rfl, Sj.mac, Sj.ht, fun H10 s10 => ⟨rfl, _, rfl, ?_⟩⟩
        have e0 : (!decide (V.int ((M'' j).took : Int) = V.int ((M'' j).took : Int))) = false := by
          rw [decide_eq_true rfl]
          rfl
        refine cast (congrArg (fun b : Bool => if b = true then _ else _) e0.symm) (iteF ⟨_, _, rfl, s9.trans s10⟩)
      · rintro σ H9 ⟨v10, v11, rfl, s9⟩
        exact ⟨fp', B', l', M'', _, _, _, _, _, _, _, rfl, R7.same s9, s9 _ _ hml7, s9 _ _ hgl7, fun j hj => (hS8 j hj).same s9, hinv8, hap8, hout8⟩
    · rintro σ H' ⟨fp, B, l, M, v5, v6, v7, v8, v9, v10, v11, rfl, _⟩
      exact k _
end
theorem fun_ofD {K : PySem.W.Frag} {x qual : Str} {st : Stmt} {f : Addr} {fd : FuncData} (F : FunD K x qual (defArgs st) (defBody st) (defScope st) [] [] f fd) : Fun K x qual st f fd := by
  obtain ⟨⟨oc, od, dV, kV, doc, pm, an, cdv, ct, osl, rfl, lk, hcd, hd, hk⟩, kp⟩ := F
  rcases hd with ⟨_, rfl⟩ | ⟨z, _⟩
  · exact ⟨⟨oc, od, kV, doc, pm, an, cdv, ct, osl, rfl, lk, hcd⟩, kp⟩
  · exact absurd rfl z
def adOf (K : PySem.W.Frag) : Ad := ⟨He.ga K "Meter", He.ga K "FractionChain", He.ga K "RootChain", He.ga K "RuledChain", He.ga K "Leaf", He.ga K "FractionBox", He.ga K "FourBox", He.ga K "EightBox", He.ga K "Reading", He.ga K "END", He.ga K "WAITS", He.ga K "TIMES", He.ga K "LENGTHS", He.ga K "CHECKS", He.ga K "NoValue"⟩
section
variable {w : World} {K : PySem.W.Frag} {h : Heap} {mg : Str → Option Value}
theorem ct_of (X : K.In h) (G : h.Ns mainGlobals mg) (c : He.SaysX faL fnL tsL [] exL w h K) : CT K mg (adOf K) := by
  have d := c.t.d
  have ex : exL K = true := c.more
  obtain ⟨e0, ex⟩ := He.ba ex
  obtain ⟨e1, ex⟩ := He.ba ex
  obtain ⟨e2, ex⟩ := He.ba ex
  obtain ⟨e3, ex⟩ := He.ba ex
  obtain ⟨e4, ex⟩ := He.ba ex
  have e5 := ex
  exact {
    seer := seer_ok e5,
    b_len := He.free_ok X G (d.fact 0 (f := .free "len") (by rfl)),
    b_isinstance := He.free_ok X G (d.fact 1 (f := .free "isinstance") (by rfl)),
    b_range := He.free_ok X G (d.fact 2 (f := .free "range") (by rfl)),
    b_zip := He.free_ok X G (d.fact 3 (f := .free "zip") (by rfl)),
    b_abs := He.free_ok X G (d.fact 4 (f := .free "abs") (by rfl)),
    b_divmod := He.free_ok X G (d.fact 5 (f := .free "divmod") (by rfl)),
    b_min := He.free_ok X G (d.fact 6 (f := .free "min") (by rfl)),
    b_all := He.free_ok X G (d.fact 7 (f := .free "all") (by rfl)),
    b_any := He.free_ok X G (d.fact 8 (f := .free "any") (by rfl)),
    b_list := He.free_ok X G (d.fact 9 (f := .free "list") (by rfl)),
    b_tuple := He.free_ok X G (d.fact 10 (f := .free "tuple") (by rfl)),
    b_str := He.free_ok X G (d.fact 11 (f := .free "str") (by rfl)),
    b_int := He.free_ok X G (d.fact 12 (f := .free "int") (by rfl)),
    b_bool := He.free_ok X G (d.fact 13 (f := .free "bool") (by rfl)),
    b_sum := He.free_ok X G (d.fact 14 (f := .free "sum") (by rfl)),
    b_max := He.free_ok X G (d.fact 15 (f := .free "max") (by rfl)),
    b_reversed := He.free_ok X G (d.fact 16 (f := .free "reversed") (by rfl)),
    cl_Meter := He.cls_ok (d.fact 27 (f := .cls "Meter") (by rfl)),
    n_Meter_left := He.noat_ok (d.fact 31 (f := .noat "Meter" "left") (by rfl)),
    n_Meter_spent := He.noat_ok (d.fact 32 (f := .noat "Meter" "spent") (by rfl)),
    g_Meter := He.glo_ok X G (d.fact 26 (f := .glo "Meter") (by rfl)),
    cl_FractionChain := He.cls_ok (d.fact 34 (f := .cls "FractionChain") (by rfl)),
    n_FractionChain_top := He.noat_ok (d.fact 38 (f := .noat "FractionChain" "top") (by rfl)),
    n_FractionChain_below := He.noat_ok (d.fact 39 (f := .noat "FractionChain" "below") (by rfl)),
    g_FractionChain := He.glo_ok X G (d.fact 33 (f := .glo "FractionChain") (by rfl)),
    cl_RootChain := He.cls_ok (d.fact 41 (f := .cls "RootChain") (by rfl)),
    n_RootChain_top := He.noat_ok (d.fact 46 (f := .noat "RootChain" "top") (by rfl)),
    n_RootChain_square := He.noat_ok (d.fact 47 (f := .noat "RootChain" "square") (by rfl)),
    n_RootChain_below := He.noat_ok (d.fact 48 (f := .noat "RootChain" "below") (by rfl)),
    n_RootChain_root := He.noat_ok (d.fact 49 (f := .noat "RootChain" "root") (by rfl)),
    g_RootChain := He.glo_ok X G (d.fact 40 (f := .glo "RootChain") (by rfl)),
    cl_RuledChain := He.cls_ok (d.fact 51 (f := .cls "RuledChain") (by rfl)),
    n_RuledChain_parts := He.noat_ok (d.fact 55 (f := .noat "RuledChain" "parts") (by rfl)),
    n_RuledChain_ring := He.noat_ok (d.fact 56 (f := .noat "RuledChain" "ring") (by rfl)),
    n_RuledChain_steps := He.noat_ok (d.fact 57 (f := .noat "RuledChain" "steps") (by rfl)),
    n_RuledChain_at := He.noat_ok (d.fact 58 (f := .noat "RuledChain" "at") (by rfl)),
    g_RuledChain := He.glo_ok X G (d.fact 50 (f := .glo "RuledChain") (by rfl)),
    cl_Leaf := He.cls_ok (d.fact 60 (f := .cls "Leaf") (by rfl)),
    n_Leaf_chain := He.noat_ok (d.fact 63 (f := .noat "Leaf" "chain") (by rfl)),
    g_Leaf := He.glo_ok X G (d.fact 59 (f := .glo "Leaf") (by rfl)),
    cl_FractionBox := He.cls_ok (d.fact 67 (f := .cls "FractionBox") (by rfl)),
    n_FractionBox_top := He.noat_ok (d.fact 71 (f := .noat "FractionBox" "top") (by rfl)),
    n_FractionBox_below := He.noat_ok (d.fact 72 (f := .noat "FractionBox" "below") (by rfl)),
    n_FractionBox_told := He.noat_ok (d.fact 73 (f := .noat "FractionBox" "told") (by rfl)),
    g_FractionBox := He.glo_ok X G (d.fact 66 (f := .glo "FractionBox") (by rfl)),
    cl_FourBox := He.cls_ok (d.fact 75 (f := .cls "FourBox") (by rfl)),
    n_FourBox_numbers := He.noat_ok (d.fact 80 (f := .noat "FourBox" "numbers") (by rfl)),
    n_FourBox_tree := He.noat_ok (d.fact 81 (f := .noat "FourBox" "tree") (by rfl)),
    n_FourBox_started := He.noat_ok (d.fact 82 (f := .noat "FourBox" "started") (by rfl)),
    n_FourBox_told := He.noat_ok (d.fact 83 (f := .noat "FourBox" "told") (by rfl)),
    n_FourBox_rest := He.noat_ok (d.fact 84 (f := .noat "FourBox" "rest") (by rfl)),
    g_FourBox := He.glo_ok X G (d.fact 74 (f := .glo "FourBox") (by rfl)),
    cl_EightBox := He.cls_ok (d.fact 86 (f := .cls "EightBox") (by rfl)),
    n_EightBox_numbers := He.noat_ok (d.fact 92 (f := .noat "EightBox" "numbers") (by rfl)),
    n_EightBox_trees := He.noat_ok (d.fact 93 (f := .noat "EightBox" "trees") (by rfl)),
    n_EightBox_taken := He.noat_ok (d.fact 94 (f := .noat "EightBox" "taken") (by rfl)),
    n_EightBox_told := He.noat_ok (d.fact 95 (f := .noat "EightBox" "told") (by rfl)),
    n_EightBox_rest := He.noat_ok (d.fact 96 (f := .noat "EightBox" "rest") (by rfl)),
    g_EightBox := He.glo_ok X G (d.fact 85 (f := .glo "EightBox") (by rfl)),
    cl_Reading := He.cls_ok (d.fact 124 (f := .cls "Reading") (by rfl)),
    n_Reading_box := He.noat_ok (d.fact 128 (f := .noat "Reading" "box") (by rfl)),
    n_Reading_meter := He.noat_ok (d.fact 129 (f := .noat "Reading" "meter") (by rfl)),
    g_Reading := He.glo_ok X G (d.fact 123 (f := .glo "Reading") (by rfl)),
    g_END := He.glo_ok X G (d.fact 24 (f := .glo "END") (by rfl)),
    t_END := fun H => He.tupB_ok e0 H,
    g_WAITS := He.glo_ok X G (d.fact 25 (f := .glo "WAITS") (by rfl)),
    t_WAITS := fun H => He.tupB_ok e1 H,
    g_TIMES := He.glo_ok X G (d.fact 122 (f := .glo "TIMES") (by rfl)),
    t_TIMES := fun H => He.tupB_ok e4 H,
    i_MOST_NUMBER := He.int_ok X G (d.fact 104 (f := .int "MOST_NUMBER" 1000000000000) (by rfl)),
    i_MOST_DEPTH := He.int_ok X G (d.fact 105 (f := .int "MOST_DEPTH" 5) (by rfl)),
    i_MOST_PARTS := He.int_ok X G (d.fact 106 (f := .int "MOST_PARTS" 12) (by rfl)),
    i_MOST_POWER := He.int_ok X G (d.fact 107 (f := .int "MOST_POWER" 4) (by rfl)),
    g_LENGTHS := He.glo_ok X G (d.fact 120 (f := .glo "LENGTHS") (by rfl)),
    g_CHECKS := He.glo_ok X G (d.fact 121 (f := .glo "CHECKS") (by rfl)),
    x_NoValue := ⟨He.glo_ok X G (d.fact 22 (f := .glo "NoValue") (by rfl)), (He.exc_ok (d.fact 17 (f := .exc "NoValue") (by rfl))).1, (He.exc_ok (d.fact 17 (f := .exc "NoValue") (by rfl))).2.1, (He.exc_ok (d.fact 17 (f := .exc "NoValue") (by rfl))).2.2.1, (He.exc_ok (d.fact 17 (f := .exc "NoValue") (by rfl))).2.2.2⟩ }
theorem tb_of (X : K.In h) (G : h.Ns mainGlobals mg) (c : He.SaysX faL fnL tsL [] exL w h K) : TB K w mg (adOf K) := by
  have d := c.t.d
  have ex : exL K = true := c.more
  obtain ⟨e0, ex⟩ := He.ba ex
  obtain ⟨e1, ex⟩ := He.ba ex
  obtain ⟨e2, ex⟩ := He.ba ex
  obtain ⟨e3, ex⟩ := He.ba ex
  obtain ⟨e4, ex⟩ := He.ba ex
  have e5 := ex
  refine ⟨c.t.tab 0 (t := (fun K => He.ga K "LENGTHS", ["fraction", "root", "ruled", "four", "eight", "power"])) (by rfl), c.t.tab 1 (t := (fun K => He.ga K "CHECKS", ["fraction", "root", "ruled", "four", "eight", "power"])) (by rfl), fun x n hm => ?_, fun x y f hm hf => ?_⟩
  · simp only [List.mem_cons, Prod.mk.injEq, List.not_mem_nil, or_false] at hm
    rcases hm with ⟨rfl, rfl⟩ | ⟨rfl, rfl⟩ | ⟨rfl, rfl⟩ | ⟨rfl, rfl⟩ | ⟨rfl, rfl⟩ | ⟨rfl, rfl⟩
    · obtain ⟨u, e, t, rfl⟩ := He.valsB_ok e2 (q := ("fraction", .int 3)) (by simp)
      exact ⟨t, e⟩
    · obtain ⟨u, e, t, rfl⟩ := He.valsB_ok e2 (q := ("root", .int 4)) (by simp)
      exact ⟨t, e⟩
    · obtain ⟨u, e, t, rfl⟩ := He.valsB_ok e2 (q := ("ruled", .int 4)) (by simp)
      exact ⟨t, e⟩
    · obtain ⟨u, e, t, rfl⟩ := He.valsB_ok e2 (q := ("four", .int 3)) (by simp)
      exact ⟨t, e⟩
    · obtain ⟨u, e, t, rfl⟩ := He.valsB_ok e2 (q := ("eight", .int 4)) (by simp)
      exact ⟨t, e⟩
    · obtain ⟨u, e, t, rfl⟩ := He.valsB_ok e2 (q := ("power", .int 3)) (by simp)
      exact ⟨t, e⟩
  · simp only [List.mem_cons, Prod.mk.injEq, List.not_mem_nil, or_false] at hm
    rcases hm with ⟨rfl, rfl⟩ | ⟨rfl, rfl⟩ | ⟨rfl, rfl⟩ | ⟨rfl, rfl⟩ | ⟨rfl, rfl⟩ | ⟨rfl, rfl⟩
    · obtain ⟨u, e, r⟩ := He.valsB_ok e3 (q := ("fraction", .glo "check_fraction")) (by simp)
      have g := (He.glo_ok X G (d.fact 113 (f := .glo "check_fraction") (by rfl))).symm.trans hf
      cases g
      cases r
      exact e
    · obtain ⟨u, e, r⟩ := He.valsB_ok e3 (q := ("root", .glo "check_root")) (by simp)
      have g := (He.glo_ok X G (d.fact 114 (f := .glo "check_root") (by rfl))).symm.trans hf
      cases g
      cases r
      exact e
    · obtain ⟨u, e, r⟩ := He.valsB_ok e3 (q := ("ruled", .glo "check_ruled")) (by simp)
      have g := (He.glo_ok X G (d.fact 115 (f := .glo "check_ruled") (by rfl))).symm.trans hf
      cases g
      cases r
      exact e
    · obtain ⟨u, e, r⟩ := He.valsB_ok e3 (q := ("four", .glo "check_four")) (by simp)
      have g := (He.glo_ok X G (d.fact 116 (f := .glo "check_four") (by rfl))).symm.trans hf
      cases g
      cases r
      exact e
    · obtain ⟨u, e, r⟩ := He.valsB_ok e3 (q := ("eight", .glo "check_eight")) (by simp)
      have g := (He.glo_ok X G (d.fact 117 (f := .glo "check_eight") (by rfl))).symm.trans hf
      cases g
      cases r
      exact e
    · obtain ⟨u, e, r⟩ := He.valsB_ok e3 (q := ("power", .glo "check_power")) (by simp)
      have g := (He.glo_ok X G (d.fact 119 (f := .glo "check_power") (by rfl))).symm.trans hf
      cases g
      cases r
      exact e
theorem dt_of (X : K.In h) (G : h.Ns mainGlobals mg) (c : He.SaysX faL fnL tsL [] exL w h K) : DT K mg (adOf K) := by
  have d := c.t.d
  exact {
    wall := by
      obtain ⟨fd, F0⟩ := d.def_ 0 (d := d_wall) (by rfl)
      have F := fun_ofD (st := s_wall) F0
      exact ⟨_, fd, F, He.glo_ok X G (d.fact 19 (f := .glo "_wall") (by rfl)), (F.binds (ps := ["k"]) fun _ _ _ _ _ _ us hl => match us, hl with | [_], _ => rfl)⟩
    root_below := by
      obtain ⟨fd, F0⟩ := d.def_ 1 (d := d_root_below) (by rfl)
      have F := fun_ofD (st := s_root_below) F0
      exact ⟨_, fd, F, He.glo_ok X G (d.fact 23 (f := .glo "root_below") (by rfl)), (F.binds (ps := ["number"]) fun _ _ _ _ _ _ us hl => match us, hl with | [_], _ => rfl)⟩
    Meter_init := by
      obtain ⟨fd, F0⟩ := d.def_ 2 (d := d_Meter_init) (by rfl)
      have F := fun_ofD (st := s_Meter_init) F0
      exact ⟨_, fd, F, He.mkr_ok (d.fact 28 (f := .mkr "Meter") (by rfl)), (F.binds (ps := ["self"]) fun _ _ _ _ _ _ us hl => match us, hl with | [_], _ => rfl)⟩
    Meter_allow := by
      obtain ⟨fd, F0⟩ := d.def_ 3 (d := d_Meter_allow) (by rfl)
      have F := fun_ofD (st := s_Meter_allow) F0
      exact ⟨_, fd, F, He.meth_ok (d.fact 29 (f := .meth "Meter" "allow") (by rfl)), (F.binds (ps := ["self", "most"]) fun _ _ _ _ _ _ us hl => match us, hl with | [_, _], _ => rfl)⟩
    Meter_pay := by
      obtain ⟨fd, F0⟩ := d.def_ 4 (d := d_Meter_pay) (by rfl)
      have F := fun_ofD (st := s_Meter_pay) F0
      exact ⟨_, fd, F, He.meth_ok (d.fact 30 (f := .meth "Meter" "pay") (by rfl)), (F.binds (ps := ["self"]) fun _ _ _ _ _ _ us hl => match us, hl with | [_], _ => rfl)⟩
    FractionChain_init := by
      obtain ⟨fd, F0⟩ := d.def_ 5 (d := d_FractionChain_init) (by rfl)
      have F := fun_ofD (st := s_FractionChain_init) F0
      exact ⟨_, fd, F, He.mkr_ok (d.fact 35 (f := .mkr "FractionChain") (by rfl)), (F.binds (ps := ["self", "top", "below"]) fun _ _ _ _ _ _ us hl => match us, hl with | [_, _, _], _ => rfl)⟩
    FractionChain_has_ended := by
      obtain ⟨fd, F0⟩ := d.def_ 6 (d := d_FractionChain_has_ended) (by rfl)
      have F := fun_ofD (st := s_FractionChain_has_ended) F0
      exact ⟨_, fd, F, He.meth_ok (d.fact 36 (f := .meth "FractionChain" "has_ended") (by rfl)), (F.binds (ps := ["self"]) fun _ _ _ _ _ _ us hl => match us, hl with | [_], _ => rfl)⟩
    FractionChain_next_part := by
      obtain ⟨fd, F0⟩ := d.def_ 7 (d := d_FractionChain_next_part) (by rfl)
      have F := fun_ofD (st := s_FractionChain_next_part) F0
      exact ⟨_, fd, F, He.meth_ok (d.fact 37 (f := .meth "FractionChain" "next_part") (by rfl)), (F.binds (ps := ["self"]) fun _ _ _ _ _ _ us hl => match us, hl with | [_], _ => rfl)⟩
    RootChain_init := by
      obtain ⟨fd, F0⟩ := d.def_ 8 (d := d_RootChain_init) (by rfl)
      have F := fun_ofD (st := s_RootChain_init) F0
      exact ⟨_, fd, F, He.mkr_ok (d.fact 42 (f := .mkr "RootChain") (by rfl)), (F.binds (ps := ["self", "top", "square", "below"]) fun _ _ _ _ _ _ us hl => match us, hl with | [_, _, _, _], _ => rfl)⟩
    RootChain_has_ended := by
      obtain ⟨fd, F0⟩ := d.def_ 9 (d := d_RootChain_has_ended) (by rfl)
      have F := fun_ofD (st := s_RootChain_has_ended) F0
      exact ⟨_, fd, F, He.meth_ok (d.fact 43 (f := .meth "RootChain" "has_ended") (by rfl)), (F.binds (ps := ["self"]) fun _ _ _ _ _ _ us hl => match us, hl with | [_], _ => rfl)⟩
    RootChain_next_part := by
      obtain ⟨fd, F0⟩ := d.def_ 10 (d := d_RootChain_next_part) (by rfl)
      have F := fun_ofD (st := s_RootChain_next_part) F0
      exact ⟨_, fd, F, He.meth_ok (d.fact 44 (f := .meth "RootChain" "next_part") (by rfl)), (F.binds (ps := ["self"]) fun _ _ _ _ _ _ us hl => match us, hl with | [_], _ => rfl)⟩
    RootChain_what_is_left := by
      obtain ⟨fd, F0⟩ := d.def_ 11 (d := d_RootChain_what_is_left) (by rfl)
      have F := fun_ofD (st := s_RootChain_what_is_left) F0
      exact ⟨_, fd, F, He.meth_ok (d.fact 45 (f := .meth "RootChain" "what_is_left") (by rfl)), (F.binds (ps := ["self"]) fun _ _ _ _ _ _ us hl => match us, hl with | [_], _ => rfl)⟩
    RuledChain_init := by
      obtain ⟨fd, F0⟩ := d.def_ 12 (d := d_RuledChain_init) (by rfl)
      have F := fun_ofD (st := s_RuledChain_init) F0
      exact ⟨_, fd, F, He.mkr_ok (d.fact 52 (f := .mkr "RuledChain") (by rfl)), (F.binds (ps := ["self", "parts", "ring", "steps"]) fun _ _ _ _ _ _ us hl => match us, hl with | [_, _, _, _], _ => rfl)⟩
    RuledChain_has_ended := by
      obtain ⟨fd, F0⟩ := d.def_ 13 (d := d_RuledChain_has_ended) (by rfl)
      have F := fun_ofD (st := s_RuledChain_has_ended) F0
      exact ⟨_, fd, F, He.meth_ok (d.fact 53 (f := .meth "RuledChain" "has_ended") (by rfl)), (F.binds (ps := ["self"]) fun _ _ _ _ _ _ us hl => match us, hl with | [_], _ => rfl)⟩
    RuledChain_next_part := by
      obtain ⟨fd, F0⟩ := d.def_ 14 (d := d_RuledChain_next_part) (by rfl)
      have F := fun_ofD (st := s_RuledChain_next_part) F0
      exact ⟨_, fd, F, He.meth_ok (d.fact 54 (f := .meth "RuledChain" "next_part") (by rfl)), (F.binds (ps := ["self"]) fun _ _ _ _ _ _ us hl => match us, hl with | [_], _ => rfl)⟩
    Leaf_init := by
      obtain ⟨fd, F0⟩ := d.def_ 15 (d := d_Leaf_init) (by rfl)
      have F := fun_ofD (st := s_Leaf_init) F0
      exact ⟨_, fd, F, He.mkr_ok (d.fact 61 (f := .mkr "Leaf") (by rfl)), (F.binds (ps := ["self", "chain"]) fun _ _ _ _ _ _ us hl => match us, hl with | [_, _], _ => rfl)⟩
    Leaf_ask := by
      obtain ⟨fd, F0⟩ := d.def_ 16 (d := d_Leaf_ask) (by rfl)
      have F := fun_ofD (st := s_Leaf_ask) F0
      exact ⟨_, fd, F, He.meth_ok (d.fact 62 (f := .meth "Leaf" "ask") (by rfl)), (F.binds (ps := ["self", "meter"]) fun _ _ _ _ _ _ us hl => match us, hl with | [_, _], _ => rfl)⟩
    leaf_of := by
      obtain ⟨fd, F0⟩ := d.def_ 17 (d := d_leaf_of) (by rfl)
      have F := fun_ofD (st := s_leaf_of) F0
      exact ⟨_, fd, F, He.glo_ok X G (d.fact 64 (f := .glo "leaf_of") (by rfl)), (F.binds (ps := ["tree"]) fun _ _ _ _ _ _ us hl => match us, hl with | [_], _ => rfl)⟩
    root_chain := by
      obtain ⟨fd, F0⟩ := d.def_ 18 (d := d_root_chain) (by rfl)
      have F := fun_ofD (st := s_root_chain) F0
      exact ⟨_, fd, F, He.glo_ok X G (d.fact 65 (f := .glo "root_chain") (by rfl)), (F.binds (ps := ["top", "square", "below"]) fun _ _ _ _ _ _ us hl => match us, hl with | [_, _, _], _ => rfl)⟩
    FractionBox_init := by
      obtain ⟨fd, F0⟩ := d.def_ 19 (d := d_FractionBox_init) (by rfl)
      have F := fun_ofD (st := s_FractionBox_init) F0
      exact ⟨_, fd, F, He.mkr_ok (d.fact 68 (f := .mkr "FractionBox") (by rfl)), (F.binds (ps := ["self", "top", "below", "told"]) fun _ _ _ _ _ _ us hl => match us, hl with | [_, _, _, _], _ => rfl)⟩
    FractionBox_ask := by
      obtain ⟨fd, F0⟩ := d.def_ 20 (d := d_FractionBox_ask) (by rfl)
      have F := fun_ofD (st := s_FractionBox_ask) F0
      exact ⟨_, fd, F, He.meth_ok (d.fact 69 (f := .meth "FractionBox" "ask") (by rfl)), (F.binds (ps := ["self", "meter"]) fun _ _ _ _ _ _ us hl => match us, hl with | [_, _], _ => rfl)⟩
    FractionBox_nothing_left := by
      obtain ⟨fd, F0⟩ := d.def_ 21 (d := d_FractionBox_nothing_left) (by rfl)
      have F := fun_ofD (st := s_FractionBox_nothing_left) F0
      exact ⟨_, fd, F, He.meth_ok (d.fact 70 (f := .meth "FractionBox" "nothing_left") (by rfl)), (F.binds (ps := ["self"]) fun _ _ _ _ _ _ us hl => match us, hl with | [_], _ => rfl)⟩
    FourBox_init := by
      obtain ⟨fd, F0⟩ := d.def_ 22 (d := d_FourBox_init) (by rfl)
      have F := fun_ofD (st := s_FourBox_init) F0
      exact ⟨_, fd, F, He.mkr_ok (d.fact 76 (f := .mkr "FourBox") (by rfl)), (F.binds (ps := ["self", "numbers", "tree", "started", "told"]) fun _ _ _ _ _ _ us hl => match us, hl with | [_, _, _, _, _], _ => rfl)⟩
    FourBox_ask := by
      obtain ⟨fd, F0⟩ := d.def_ 23 (d := d_FourBox_ask) (by rfl)
      have F := fun_ofD (st := s_FourBox_ask) F0
      exact ⟨_, fd, F, He.meth_ok (d.fact 77 (f := .meth "FourBox" "ask") (by rfl)), (F.binds (ps := ["self", "meter"]) fun _ _ _ _ _ _ us hl => match us, hl with | [_, _], _ => rfl)⟩
    FourBox_tell := by
      obtain ⟨fd, F0⟩ := d.def_ 24 (d := d_FourBox_tell) (by rfl)
      have F := fun_ofD (st := s_FourBox_tell) F0
      exact ⟨_, fd, F, He.meth_ok (d.fact 78 (f := .meth "FourBox" "tell") (by rfl)), (F.binds (ps := ["self", "part"]) fun _ _ _ _ _ _ us hl => match us, hl with | [_, _], _ => rfl)⟩
    FourBox_take := by
      obtain ⟨fd, F0⟩ := d.def_ 25 (d := d_FourBox_take) (by rfl)
      have F := fun_ofD (st := s_FourBox_take) F0
      exact ⟨_, fd, F, He.meth_ok (d.fact 79 (f := .meth "FourBox" "take") (by rfl)), (F.binds (ps := ["self", "answer"]) fun _ _ _ _ _ _ us hl => match us, hl with | [_, _], _ => rfl)⟩
    EightBox_init := by
      obtain ⟨fd, F0⟩ := d.def_ 26 (d := d_EightBox_init) (by rfl)
      have F := fun_ofD (st := s_EightBox_init) F0
      exact ⟨_, fd, F, He.mkr_ok (d.fact 87 (f := .mkr "EightBox") (by rfl)), (F.binds (ps := ["self", "numbers", "one", "other"]) fun _ _ _ _ _ _ us hl => match us, hl with | [_, _, _, _], _ => rfl)⟩
    EightBox_ask := by
      obtain ⟨fd, F0⟩ := d.def_ 27 (d := d_EightBox_ask) (by rfl)
      have F := fun_ofD (st := s_EightBox_ask) F0
      exact ⟨_, fd, F, He.meth_ok (d.fact 88 (f := .meth "EightBox" "ask") (by rfl)), (F.binds (ps := ["self", "meter"]) fun _ _ _ _ _ _ us hl => match us, hl with | [_, _], _ => rfl)⟩
    EightBox_tell := by
      obtain ⟨fd, F0⟩ := d.def_ 28 (d := d_EightBox_tell) (by rfl)
      have F := fun_ofD (st := s_EightBox_tell) F0
      exact ⟨_, fd, F, He.meth_ok (d.fact 89 (f := .meth "EightBox" "tell") (by rfl)), (F.binds (ps := ["self", "part"]) fun _ _ _ _ _ _ us hl => match us, hl with | [_, _], _ => rfl)⟩
    EightBox_take := by
      obtain ⟨fd, F0⟩ := d.def_ 29 (d := d_EightBox_take) (by rfl)
      have F := fun_ofD (st := s_EightBox_take) F0
      exact ⟨_, fd, F, He.meth_ok (d.fact 90 (f := .meth "EightBox" "take") (by rfl)), (F.binds (ps := ["self", "which", "answer"]) fun _ _ _ _ _ _ us hl => match us, hl with | [_, _, _], _ => rfl)⟩
    EightBox_left_without := by
      obtain ⟨fd, F0⟩ := d.def_ 30 (d := d_EightBox_left_without) (by rfl)
      have F := fun_ofD (st := s_EightBox_left_without) F0
      exact ⟨_, fd, F, He.meth_ok (d.fact 91 (f := .meth "EightBox" "left_without") (by rfl)), (F.binds (ps := ["self", "which"]) fun _ _ _ _ _ _ us hl => match us, hl with | [_, _], _ => rfl)⟩
    box_of_one := by
      obtain ⟨fd, F0⟩ := d.def_ 31 (d := d_box_of_one) (by rfl)
      have F := fun_ofD (st := s_box_of_one) F0
      exact ⟨_, fd, F, He.glo_ok X G (d.fact 97 (f := .glo "box_of_one") (by rfl)), (F.binds (ps := ["numbers", "tree", "told"]) fun _ _ _ _ _ _ us hl => match us, hl with | [_, _, _], _ => rfl)⟩
    with_first_part := by
      obtain ⟨fd, F0⟩ := d.def_ 32 (d := d_with_first_part) (by rfl)
      have F := fun_ofD (st := s_with_first_part) F0
      exact ⟨_, fd, F, He.glo_ok X G (d.fact 98 (f := .glo "with_first_part") (by rfl)), (F.binds (ps := ["numbers", "part"]) fun _ _ _ _ _ _ us hl => match us, hl with | [_, _], _ => rfl)⟩
    with_second_part := by
      obtain ⟨fd, F0⟩ := d.def_ 33 (d := d_with_second_part) (by rfl)
      have F := fun_ofD (st := s_with_second_part) F0
      exact ⟨_, fd, F, He.glo_ok X G (d.fact 99 (f := .glo "with_second_part") (by rfl)), (F.binds (ps := ["numbers", "part"]) fun _ _ _ _ _ _ us hl => match us, hl with | [_, _], _ => rfl)⟩
    turned_over := by
      obtain ⟨fd, F0⟩ := d.def_ 34 (d := d_turned_over) (by rfl)
      have F := fun_ofD (st := s_turned_over) F0
      exact ⟨_, fd, F, He.glo_ok X G (d.fact 100 (f := .glo "turned_over") (by rfl)), (F.binds (ps := ["numbers", "part"]) fun _ _ _ _ _ _ us hl => match us, hl with | [_, _], _ => rfl)⟩
    four_corners := by
      obtain ⟨fd, F0⟩ := d.def_ 35 (d := d_four_corners) (by rfl)
      have F := fun_ofD (st := s_four_corners) F0
      exact ⟨_, fd, F, He.glo_ok X G (d.fact 101 (f := .glo "four_corners") (by rfl)), (F.binds (ps := ["numbers"]) fun _ _ _ _ _ _ us hl => match us, hl with | [_], _ => rfl)⟩
    eight_corners := by
      obtain ⟨fd, F0⟩ := d.def_ 36 (d := d_eight_corners) (by rfl)
      have F := fun_ofD (st := s_eight_corners) F0
      exact ⟨_, fd, F, He.glo_ok X G (d.fact 102 (f := .glo "eight_corners") (by rfl)), (F.binds (ps := ["numbers"]) fun _ _ _ _ _ _ us hl => match us, hl with | [_], _ => rfl)⟩
    sure_part := by
      obtain ⟨fd, F0⟩ := d.def_ 37 (d := d_sure_part) (by rfl)
      have F := fun_ofD (st := s_sure_part) F0
      exact ⟨_, fd, F, He.glo_ok X G (d.fact 103 (f := .glo "sure_part") (by rfl)), (F.binds (ps := ["corners"]) fun _ _ _ _ _ _ us hl => match us, hl with | [_], _ => rfl)⟩
    check_tree := by
      obtain ⟨fd, F0⟩ := d.def_ 38 (d := d_check_tree) (by rfl)
      have F := fun_ofD (st := s_check_tree) F0
      exact ⟨_, fd, F, He.glo_ok X G (d.fact 108 (f := .glo "check_tree") (by rfl)), (F.binds (ps := ["tree"]) fun _ _ _ _ _ _ us hl => match us, hl with | [_], _ => rfl)⟩
    check_at_depth := by
      obtain ⟨fd, F0⟩ := d.def_ 39 (d := d_check_at_depth) (by rfl)
      have F := fun_ofD (st := s_check_at_depth) F0
      exact ⟨_, fd, F, He.glo_ok X G (d.fact 109 (f := .glo "check_at_depth") (by rfl)), (F.binds (ps := ["tree", "depth"]) fun _ _ _ _ _ _ us hl => match us, hl with | [_, _], _ => rfl)⟩
    require := by
      obtain ⟨fd, F0⟩ := d.def_ 40 (d := d_require) (by rfl)
      have F := fun_ofD (st := s_require) F0
      exact ⟨_, fd, F, He.glo_ok X G (d.fact 110 (f := .glo "require") (by rfl)), (F.binds (ps := ["holds", "why"]) fun _ _ _ _ _ _ us hl => match us, hl with | [_, _], _ => rfl)⟩
    check_row := by
      obtain ⟨fd, F0⟩ := d.def_ 41 (d := d_check_row) (by rfl)
      have F := fun_ofD (st := s_check_row) F0
      exact ⟨_, fd, F, He.glo_ok X G (d.fact 111 (f := .glo "check_row") (by rfl)), (F.binds (ps := ["row", "fewest", "most"]) fun _ _ _ _ _ _ us hl => match us, hl with | [_, _, _], _ => rfl)⟩
    is_whole := by
      obtain ⟨fd, F0⟩ := d.def_ 42 (d := d_is_whole) (by rfl)
      have F := fun_ofD (st := s_is_whole) F0
      exact ⟨_, fd, F, He.glo_ok X G (d.fact 112 (f := .glo "is_whole") (by rfl)), (F.binds (ps := ["number"]) fun _ _ _ _ _ _ us hl => match us, hl with | [_], _ => rfl)⟩
    check_fraction := by
      obtain ⟨fd, F0⟩ := d.def_ 43 (d := d_check_fraction) (by rfl)
      have F := fun_ofD (st := s_check_fraction) F0
      exact ⟨_, fd, F, He.glo_ok X G (d.fact 113 (f := .glo "check_fraction") (by rfl)), (F.binds (ps := ["tree", "depth"]) fun _ _ _ _ _ _ us hl => match us, hl with | [_, _], _ => rfl)⟩
    check_root := by
      obtain ⟨fd, F0⟩ := d.def_ 44 (d := d_check_root) (by rfl)
      have F := fun_ofD (st := s_check_root) F0
      exact ⟨_, fd, F, He.glo_ok X G (d.fact 114 (f := .glo "check_root") (by rfl)), (F.binds (ps := ["tree", "depth"]) fun _ _ _ _ _ _ us hl => match us, hl with | [_, _], _ => rfl)⟩
    check_ruled := by
      obtain ⟨fd, F0⟩ := d.def_ 45 (d := d_check_ruled) (by rfl)
      have F := fun_ofD (st := s_check_ruled) F0
      exact ⟨_, fd, F, He.glo_ok X G (d.fact 115 (f := .glo "check_ruled") (by rfl)), (F.binds (ps := ["tree", "depth"]) fun _ _ _ _ _ _ us hl => match us, hl with | [_, _], _ => rfl)⟩
    check_four := by
      obtain ⟨fd, F0⟩ := d.def_ 46 (d := d_check_four) (by rfl)
      have F := fun_ofD (st := s_check_four) F0
      exact ⟨_, fd, F, He.glo_ok X G (d.fact 116 (f := .glo "check_four") (by rfl)), (F.binds (ps := ["tree", "depth"]) fun _ _ _ _ _ _ us hl => match us, hl with | [_, _], _ => rfl)⟩
    check_eight := by
      obtain ⟨fd, F0⟩ := d.def_ 47 (d := d_check_eight) (by rfl)
      have F := fun_ofD (st := s_check_eight) F0
      exact ⟨_, fd, F, He.glo_ok X G (d.fact 117 (f := .glo "check_eight") (by rfl)), (F.binds (ps := ["tree", "depth"]) fun _ _ _ _ _ _ us hl => match us, hl with | [_, _], _ => rfl)⟩
    check_line := by
      obtain ⟨fd, F0⟩ := d.def_ 48 (d := d_check_line) (by rfl)
      have F := fun_ofD (st := s_check_line) F0
      exact ⟨_, fd, F, He.glo_ok X G (d.fact 118 (f := .glo "check_line") (by rfl)), (F.binds (ps := ["numbers"]) fun _ _ _ _ _ _ us hl => match us, hl with | [_], _ => rfl)⟩
    check_power := by
      obtain ⟨fd, F0⟩ := d.def_ 49 (d := d_check_power) (by rfl)
      have F := fun_ofD (st := s_check_power) F0
      exact ⟨_, fd, F, He.glo_ok X G (d.fact 119 (f := .glo "check_power") (by rfl)), (F.binds (ps := ["tree", "depth"]) fun _ _ _ _ _ _ us hl => match us, hl with | [_, _], _ => rfl)⟩
    Reading_init := by
      obtain ⟨fd, F0⟩ := d.def_ 50 (d := d_Reading_init) (by rfl)
      have F := fun_ofD (st := s_Reading_init) F0
      exact ⟨_, fd, F, He.mkr_ok (d.fact 125 (f := .mkr "Reading") (by rfl)), (F.binds (ps := ["self", "box"]) fun _ _ _ _ _ _ us hl => match us, hl with | [_, _], _ => rfl)⟩
    Reading_part := by
      obtain ⟨fd, F0⟩ := d.def_ 51 (d := d_Reading_part) (by rfl)
      have F := fun_ofD (st := s_Reading_part) F0
      exact ⟨_, fd, F, He.meth_ok (d.fact 126 (f := .meth "Reading" "part") (by rfl)), (F.binds (ps := ["self", "most"]) fun _ _ _ _ _ _ us hl => match us, hl with | [_, _], _ => rfl)⟩
    Reading_took := by
      obtain ⟨fd, F0⟩ := d.def_ 52 (d := d_Reading_took) (by rfl)
      have F := fun_ofD (st := s_Reading_took) F0
      exact ⟨_, fd, F, He.meth_ok (d.fact 127 (f := .meth "Reading" "took") (by rfl)), (F.binds (ps := ["self"]) fun _ _ _ _ _ _ us hl => match us, hl with | [_], _ => rfl)⟩
    reader := by
      obtain ⟨fd, F0⟩ := d.def_ 53 (d := d_reader) (by rfl)
      have F := fun_ofD (st := s_reader) F0
      exact ⟨_, fd, F, He.glo_ok X G (d.fact 130 (f := .glo "reader") (by rfl)), (F.binds (ps := ["tree"]) fun _ _ _ _ _ _ us hl => match us, hl with | [_], _ => rfl)⟩
    box_of := by
      obtain ⟨fd, F0⟩ := d.def_ 54 (d := d_box_of) (by rfl)
      have F := fun_ofD (st := s_box_of) F0
      exact ⟨_, fd, F, He.glo_ok X G (d.fact 131 (f := .glo "box_of") (by rfl)), (F.binds (ps := ["tree"]) fun _ _ _ _ _ _ us hl => match us, hl with | [_], _ => rfl)⟩
    power_box := by
      obtain ⟨fd, F0⟩ := d.def_ 55 (d := d_power_box) (by rfl)
      have F := fun_ofD (st := s_power_box) F0
      exact ⟨_, fd, F, He.glo_ok X G (d.fact 132 (f := .glo "power_box") (by rfl)), (F.binds (ps := ["tree", "times"]) fun _ _ _ _ _ _ us hl => match us, hl with | [_, _], _ => rfl)⟩
    law_row := by
      obtain ⟨fd, F0⟩ := d.def_ 56 (d := d_law_row) (by rfl)
      have F := fun_ofD (st := s_law_row) F0
      exact ⟨_, fd, F, He.glo_ok X G (d.fact 133 (f := .glo "_law_row") (by rfl)), (F.binds (ps := ["_law_script"]) fun _ _ _ _ _ _ us hl => match us, hl with | [_], _ => rfl)⟩
    law_taken := by
      obtain ⟨fd, F0⟩ := d.def_ 57 (d := d_law_taken) (by rfl)
      have F := fun_ofD (st := s_law_taken) F0
      exact ⟨_, fd, F, He.glo_ok X G (d.fact 134 (f := .glo "_law_taken") (by rfl)), (F.binds (ps := ["_law_row_here", "_law_many"]) fun _ _ _ _ _ _ us hl => match us, hl with | [_, _], _ => rfl)⟩
    law_whole := by
      obtain ⟨fd, F0⟩ := d.def_ 58 (d := d_law_whole) (by rfl)
      have F := fun_ofD (st := s_law_whole) F0
      exact ⟨_, fd, F, He.glo_ok X G (d.fact 135 (f := .glo "_law_whole") (by rfl)), (F.binds (ps := ["_law_found"]) fun _ _ _ _ _ _ us hl => match us, hl with | [_], _ => rfl)⟩
    law_signed := by
      obtain ⟨fd, F0⟩ := d.def_ 59 (d := d_law_signed) (by rfl)
      have F := fun_ofD (st := s_law_signed) F0
      exact ⟨_, fd, F, He.glo_ok X G (d.fact 136 (f := .glo "_law_signed") (by rfl)), (F.binds (ps := ["_law_row_here", "_law_most"]) fun _ _ _ _ _ _ us hl => match us, hl with | [_, _], _ => rfl)⟩
    law_root := by
      obtain ⟨fd, F0⟩ := d.def_ 60 (d := d_law_root) (by rfl)
      have F := fun_ofD (st := s_law_root) F0
      exact ⟨_, fd, F, He.glo_ok X G (d.fact 137 (f := .glo "_law_root") (by rfl)), (F.binds (ps := ["_law_number"]) fun _ _ _ _ _ _ us hl => match us, hl with | [_], _ => rfl)⟩
    law_common := by
      obtain ⟨fd, F0⟩ := d.def_ 61 (d := d_law_common) (by rfl)
      have F := fun_ofD (st := s_law_common) F0
      exact ⟨_, fd, F, He.glo_ok X G (d.fact 138 (f := .glo "_law_common") (by rfl)), (F.binds (ps := ["_law_one", "_law_other"]) fun _ _ _ _ _ _ us hl => match us, hl with | [_, _], _ => rfl)⟩
    law_lowest := by
      obtain ⟨fd, F0⟩ := d.def_ 62 (d := d_law_lowest) (by rfl)
      have F := fun_ofD (st := s_law_lowest) F0
      exact ⟨_, fd, F, He.glo_ok X G (d.fact 139 (f := .glo "_law_lowest") (by rfl)), (F.binds (ps := ["_law_top", "_law_below_here"]) fun _ _ _ _ _ _ us hl => match us, hl with | [_, _], _ => rfl)⟩
    law_made := by
      obtain ⟨fd, F0⟩ := d.def_ 63 (d := d_law_made) (by rfl)
      have F := fun_ofD (st := s_law_made) F0
      exact ⟨_, fd, F, He.glo_ok X G (d.fact 140 (f := .glo "_law_made") (by rfl)), (F.binds (ps := ["_law_a", "_law_b", "_law_c"]) fun _ _ _ _ _ _ us hl => match us, hl with | [_, _, _], _ => rfl)⟩
    law_sum := by
      obtain ⟨fd, F0⟩ := d.def_ 64 (d := d_law_sum) (by rfl)
      have F := fun_ofD (st := s_law_sum) F0
      exact ⟨_, fd, F, He.glo_ok X G (d.fact 141 (f := .glo "_law_sum") (by rfl)), (F.binds (ps := ["_law_one", "_law_other", "_law_by"]) fun _ _ _ _ _ _ us hl => match us, hl with | [_, _, _], _ => rfl)⟩
    law_product := by
      obtain ⟨fd, F0⟩ := d.def_ 65 (d := d_law_product) (by rfl)
      have F := fun_ofD (st := s_law_product) F0
      exact ⟨_, fd, F, He.glo_ok X G (d.fact 142 (f := .glo "_law_product") (by rfl)), (F.binds (ps := ["_law_one", "_law_other", "_law_d"]) fun _ _ _ _ _ _ us hl => match us, hl with | [_, _, _], _ => rfl)⟩
    law_quotient := by
      obtain ⟨fd, F0⟩ := d.def_ 66 (d := d_law_quotient) (by rfl)
      have F := fun_ofD (st := s_law_quotient) F0
      exact ⟨_, fd, F, He.glo_ok X G (d.fact 143 (f := .glo "_law_quotient") (by rfl)), (F.binds (ps := ["_law_one", "_law_other", "_law_d"]) fun _ _ _ _ _ _ us hl => match us, hl with | [_, _, _], _ => rfl)⟩
    law_below := by
      obtain ⟨fd, F0⟩ := d.def_ 67 (d := d_law_below) (by rfl)
      have F := fun_ofD (st := s_law_below) F0
      exact ⟨_, fd, F, He.glo_ok X G (d.fact 144 (f := .glo "_law_below") (by rfl)), (F.binds (ps := ["_law_one", "_law_d"]) fun _ _ _ _ _ _ us hl => match us, hl with | [_, _], _ => rfl)⟩
    law_ruled := by
      obtain ⟨fd, F0⟩ := d.def_ 68 (d := d_law_ruled) (by rfl)
      have F := fun_ofD (st := s_law_ruled) F0
      exact ⟨_, fd, F, He.glo_ok X G (d.fact 145 (f := .glo "_law_ruled") (by rfl)), (F.binds (ps := ["_law_row_here"]) fun _ _ _ _ _ _ us hl => match us, hl with | [_], _ => rfl)⟩
    law_corners := by
      obtain ⟨fd, F0⟩ := d.def_ 69 (d := d_law_corners) (by rfl)
      have F := fun_ofD (st := s_law_corners) F0
      exact ⟨_, fd, F, He.glo_ok X G (d.fact 146 (f := .glo "_law_corners") (by rfl)), (F.binds (ps := ["_law_numbers_here"]) fun _ _ _ _ _ _ us hl => match us, hl with | [_], _ => rfl)⟩
    law_sure := by
      obtain ⟨fd, F0⟩ := d.def_ 70 (d := d_law_sure) (by rfl)
      have F := fun_ofD (st := s_law_sure) F0
      exact ⟨_, fd, F, He.glo_ok X G (d.fact 147 (f := .glo "_law_sure") (by rfl)), (F.binds (ps := ["_law_corners_here"]) fun _ _ _ _ _ _ us hl => match us, hl with | [_], _ => rfl)⟩
    law_moved := by
      obtain ⟨fd, F0⟩ := d.def_ 71 (d := d_law_moved) (by rfl)
      have F := fun_ofD (st := s_law_moved) F0
      exact ⟨_, fd, F, He.glo_ok X G (d.fact 148 (f := .glo "_law_moved") (by rfl)), (F.binds (ps := ["_law_numbers_here", "_law_which", "_law_part"]) fun _ _ _ _ _ _ us hl => match us, hl with | [_, _, _], _ => rfl)⟩
    law_ended := by
      obtain ⟨fd, F0⟩ := d.def_ 72 (d := d_law_ended) (by rfl)
      have F := fun_ofD (st := s_law_ended) F0
      exact ⟨_, fd, F, He.glo_ok X G (d.fact 149 (f := .glo "_law_ended") (by rfl)), (F.binds (ps := ["_law_m", "_law_which"]) fun _ _ _ _ _ _ us hl => match us, hl with | [_, _], _ => rfl)⟩
    law_rest := by
      obtain ⟨fd, F0⟩ := d.def_ 73 (d := d_law_rest) (by rfl)
      have F := fun_ofD (st := s_law_rest) F0
      exact ⟨_, fd, F, He.glo_ok X G (d.fact 150 (f := .glo "_law_rest") (by rfl)), (F.binds (ps := ["_law_m"]) fun _ _ _ _ _ _ us hl => match us, hl with | [_], _ => rfl)⟩
    law_apart := by
      obtain ⟨fd, F0⟩ := d.def_ 74 (d := d_law_apart) (by rfl)
      have F := fun_ofD (st := s_law_apart) F0
      exact ⟨_, fd, F, He.glo_ok X G (d.fact 151 (f := .glo "_law_apart") (by rfl)), (F.binds (ps := ["_law_some"]) fun _ _ _ _ _ _ us hl => match us, hl with | [_], _ => rfl)⟩
    law_numbers := by
      obtain ⟨fd, F0⟩ := d.def_ 75 (d := d_law_numbers) (by rfl)
      have F := fun_ofD (st := s_law_numbers) F0
      exact ⟨_, fd, F, He.glo_ok X G (d.fact 152 (f := .glo "_law_numbers") (by rfl)), (F.binds (ps := ["_law_row_here", "_law_many"]) fun _ _ _ _ _ _ us hl => match us, hl with | [_, _], _ => rfl)⟩
    law_any_leaf := by
      obtain ⟨fd, F0⟩ := d.def_ 76 (d := d_law_any_leaf) (by rfl)
      have F := fun_ofD (st := s_law_any_leaf) F0
      exact ⟨_, fd, F, He.glo_ok X G (d.fact 153 (f := .glo "_law_any_leaf") (by rfl)), (F.binds (ps := ["_law_row_here"]) fun _ _ _ _ _ _ us hl => match us, hl with | [_], _ => rfl)⟩
    law_any := by
      obtain ⟨fd, F0⟩ := d.def_ 77 (d := d_law_any) (by rfl)
      have F := fun_ofD (st := s_law_any) F0
      exact ⟨_, fd, F, He.glo_ok X G (d.fact 154 (f := .glo "_law_any") (by rfl)), (F.binds (ps := ["_law_row_here", "_law_deep"]) fun _ _ _ _ _ _ us hl => match us, hl with | [_, _], _ => rfl)⟩
    law_opened := by
      obtain ⟨fd, F0⟩ := d.def_ 78 (d := d_law_opened) (by rfl)
      have F := fun_ofD (st := s_law_opened) F0
      exact ⟨_, fd, F, He.glo_ok X G (d.fact 155 (f := .glo "_law_opened") (by rfl)), (F.binds (ps := ["_law_tree"]) fun _ _ _ _ _ _ us hl => match us, hl with | [_], _ => rfl)⟩
    law_took := by
      obtain ⟨fd, F0⟩ := d.def_ 79 (d := d_law_took) (by rfl)
      have F := fun_ofD (st := s_law_took) F0
      exact ⟨_, fd, F, He.glo_ok X G (d.fact 156 (f := .glo "_law_took") (by rfl)), (F.binds (ps := ["_law_m"]) fun _ _ _ _ _ _ us hl => match us, hl with | [_], _ => rfl)⟩
    law_leaf_told := by
      obtain ⟨fd, F0⟩ := d.def_ 80 (d := d_law_leaf_told) (by rfl)
      have F := fun_ofD (st := s_law_leaf_told) F0
      exact ⟨_, fd, F, He.glo_ok X G (d.fact 157 (f := .glo "_law_leaf_told") (by rfl)), (F.binds (ps := ["_law_m", "_law_purse"]) fun _ _ _ _ _ _ us hl => match us, hl with | [_, _], _ => rfl)⟩
    law_told := by
      obtain ⟨fd, F0⟩ := d.def_ 81 (d := d_law_told) (by rfl)
      have F := fun_ofD (st := s_law_told) F0
      exact ⟨_, fd, F, He.glo_ok X G (d.fact 158 (f := .glo "_law_told") (by rfl)), (F.binds (ps := ["_law_m", "_law_purse"]) fun _ _ _ _ _ _ us hl => match us, hl with | [_, _], _ => rfl)⟩
    law := by
      obtain ⟨fd, F0⟩ := d.def_ 82 (d := d_law) (by rfl)
      have F := fun_ofD (st := s_law) F0
      exact ⟨_, fd, F, He.glo_ok X G (d.fact 159 (f := .glo "law") (by rfl)), (F.binds (ps := ["_law_script"]) fun _ _ _ _ _ _ us hl => match us, hl with | [_], _ => rfl)⟩ }
theorem facts {P : Program} [NoTree P] {fa : Addr} (X : K.In h) (G : h.Ns mainGlobals mg) (hfa : mg "law" = some (.ref fa)) (c : He.SaysX faL fnL tsL [] exL w h K) :
    ∃ fd : FuncData, (∀ (s : Shared) (v : Value), BindsTo s fd ⟨[v], []⟩ [("_law_script", v)]) ∧ ∀ base : Heap, K.In base → base.Ns mainGlobals mg → FnOk P w K mg base CX0 80 fa fd ["_law_script"] (sp_law K) := by
  have T := ct_of X G c
  have TT := tb_of X G c
  have D := dt_of X G c
  have XM : PySem.W.exmOne K (.ref (adOf K).c_NoValue) (.ref (adOf K).c_NoValue) = some true := He.exm_ok (c.t.d.fact 18 (f := .exm "NoValue" "NoValue" true) (by rfl))
  obtain ⟨fd0, F0⟩ := c.t.d.def_ 82 (d := d_law) (by rfl)
  have e := hfa.symm.trans (He.glo_ok X G (c.t.d.fact 159 (f := .glo "law") (by rfl)))
  cases e
  refine ⟨fd0, fun s v => ?_, fun base _ _ => ?_⟩
  · exact (FunD.bindsA (ps := ["_law_script"]) F0 fun _ _ _ _ _ _ us hl => match us, hl with | [_], _ => rfl) s [v] rfl
  · exact ok_law T TT XM D (fun_ofD (st := s_law) F0)
end
instance : NoTree (PySem.Challenge.rw_chainparts_k26_whole_any_tree_step_by_st).prog := ⟨by kernel_rfl⟩
end Cp
open PySem PySem.W PySem.Calls PyProof.Rows
set_option maxRecDepth 100000 in
set_option maxHeartbeats 0 in
theorem PySem.Challenge.cw_chainparts_k26_whole_any_tree_step_by_st_holds : PySem.Challenge.rw_chainparts_k26_whole_any_tree_step_by_st.Holds := by
  w_on; o_law
  refine HandSHeadRun.head_any (r := OpenLaw.row PySem.Challenge.rw_chainparts_k26_whole_any_tree_step_by_st) (q := view (OpenLaw.row PySem.Challenge.rw_chainparts_k26_whole_any_tree_step_by_st).prog [80]) (H := Cp.hk) (ob := Cp.ob) (M := 7500) (loose := Cp.looseL) (d := HandSHeadRun.topDef (OpenLaw.row PySem.Challenge.rw_chainparts_k26_whole_any_tree_step_by_st).prog 80) (kwd := []) Cp.ob_eq
    (by kernel_rfl) (fun s => by kernel_rfl) Cp.run (by kernel_rfl) (by kernel_rfl) (by kernel_rfl) (by rfl) (by first | assumption | decide +kernel) (by decide +kernel) ⟨rfl, rfl, rfl, rfl, rfl, by decide +kernel⟩ ?hw ?hc
  case hw => w_witness2
  case hc =>
    refine L2.walk_ofE (l := PySem.Challenge.rw_chainparts_k26_whole_any_tree_step_by_st) (n := 63) (k := 80) (x := "_law_script") (CX := L2.CX0) rfl (by decide) (by kernel_rfl) ⟨rfl, by decide, by decide⟩ ?F (fun _ _ _ _ z => z)
    intro w mg fa h Y G hmg0
    obtain ⟨K, KX, c⟩ := Y
    have hmg : mg ("law" : PySem.Str) = some (.ref fa) := by
      have e : (HandSHeadRun.topDef (OpenLaw.row PySem.Challenge.rw_chainparts_k26_whole_any_tree_step_by_st).prog 80).name = ("law" : PySem.Str) := by kernel_rfl
      rw [← e]
      exact hmg0
    obtain ⟨fd, hb, hF⟩ := Cp.facts (P := (PySem.Challenge.rw_chainparts_k26_whole_any_tree_step_by_st).prog) (w := w) KX G hmg c
    exact ⟨K, fd, Cp.sp_law K, KX, hb, fun H a ns hl hO hS => ⟨a, ns, rfl, Cp.ScrAt.of hO hS, hl, fun _ => rfl⟩, hF⟩
