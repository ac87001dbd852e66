import PyProof.Rows.All
import Wide.All
import OpenK.AllK
import Wide.FinOn
import HandS.ForMost
import HandS.Style
import KE.KRevSl
import KE.KEqSeq
import HandS.Wide
import HandS.WideBits
import HandS.IsInst
import HandS.Codes
import HandS.More
import HandS.CallLocal
import HandS.TupAny
import HandS.Zip
import HandS.ForExc
import HandS.ExcIs
import HandS.Deep
import HandS.TryOnly
import KE.KStateDown
import HandS.ForExc
import HandS.Defaults
import HandS.Head0
import HandS.Head1
import HandS.Head2
import HandS.HeadEnd
import HandS.HeadHook1
import HandS.HeadHook2
import HandS.HeadHook3
import HandS.HeadHook4
import PySem.Challenge.RW_chainparts_k25_step_by_step
set_option Elab.async false
set_option linter.all false
set_option maxRecDepth 100000
set_option maxHeartbeats 4000000
namespace Cp
open PySem L2
def topS (i : Nat) : Stmt := PySem.Challenge.pw_chainparts_k25_step_by_step.main.body.getD i (.Pass ⟨0, 0, 0, 0⟩)
abbrev s_wall : Stmt := topS 0
theorem sc_wall : FnScope ["k"] ["k"] (defScope s_wall) := ⟨rfl, rfl, rfl, by decide +kernel, rfl, by decide +kernel, by decide +kernel⟩
abbrev s_root_below : Stmt := topS 6
theorem sc_root_below : FnScope ["number", "guess", "better"] ["number"] (defScope s_root_below) := ⟨rfl, rfl, rfl, by decide +kernel, rfl, by decide +kernel, by decide +kernel⟩
abbrev s_Meter_init : Stmt := inClass (topS 10) 0
theorem sc_Meter_init : FnScope ["self"] ["self"] (defScope s_Meter_init) := ⟨rfl, rfl, rfl, by decide +kernel, rfl, by decide +kernel, by decide +kernel⟩
abbrev s_Meter_allow : Stmt := inClass (topS 10) 1
theorem sc_Meter_allow : FnScope ["self", "most"] ["self", "most"] (defScope s_Meter_allow) := ⟨rfl, rfl, rfl, by decide +kernel, rfl, by decide +kernel, by decide +kernel⟩
abbrev s_Meter_pay : Stmt := inClass (topS 10) 2
theorem sc_Meter_pay : FnScope ["self"] ["self"] (defScope s_Meter_pay) := ⟨rfl, rfl, rfl, by decide +kernel, rfl, by decide +kernel, by decide +kernel⟩
abbrev s_FractionChain_init : Stmt := inClass (topS 11) 0
theorem sc_FractionChain_init : FnScope ["self", "top", "below"] ["self", "top", "below"] (defScope s_FractionChain_init) := ⟨rfl, rfl, rfl, by decide +kernel, rfl, by decide +kernel, by decide +kernel⟩
abbrev s_FractionChain_has_ended : Stmt := inClass (topS 11) 1
theorem sc_FractionChain_has_ended : FnScope ["self"] ["self"] (defScope s_FractionChain_has_ended) := ⟨rfl, rfl, rfl, by decide +kernel, rfl, by decide +kernel, by decide +kernel⟩
abbrev s_FractionChain_next_part : Stmt := inClass (topS 11) 2
theorem sc_FractionChain_next_part : FnScope ["self", "part"] ["self"] (defScope s_FractionChain_next_part) := ⟨rfl, rfl, rfl, by decide +kernel, rfl, by decide +kernel, by decide +kernel⟩
abbrev s_RootChain_init : Stmt := inClass (topS 12) 0
theorem sc_RootChain_init : FnScope ["self", "top", "square", "below", "wide"] ["self", "top", "square", "below"] (defScope s_RootChain_init) := ⟨rfl, rfl, rfl, by decide +kernel, rfl, by decide +kernel, by decide +kernel⟩
abbrev s_RootChain_has_ended : Stmt := inClass (topS 12) 1
theorem sc_RootChain_has_ended : FnScope ["self"] ["self"] (defScope s_RootChain_has_ended) := ⟨rfl, rfl, rfl, by decide +kernel, rfl, by decide +kernel, by decide +kernel⟩
abbrev s_RootChain_next_part : Stmt := inClass (topS 12) 2
theorem sc_RootChain_next_part : FnScope ["self", "upward", "part"] ["self"] (defScope s_RootChain_next_part) := ⟨rfl, rfl, rfl, by decide +kernel, rfl, by decide +kernel, by decide +kernel⟩
abbrev s_RootChain_what_is_left : Stmt := inClass (topS 12) 3
theorem sc_RootChain_what_is_left : FnScope ["self"] ["self"] (defScope s_RootChain_what_is_left) := ⟨rfl, rfl, rfl, by decide +kernel, rfl, by decide +kernel, by decide +kernel⟩
abbrev s_RuledChain_init : Stmt := inClass (topS 13) 0
theorem sc_RuledChain_init : FnScope ["self", "parts", "ring", "steps"] ["self", "parts", "ring", "steps"] (defScope s_RuledChain_init) := ⟨rfl, rfl, rfl, by decide +kernel, rfl, by decide +kernel, by decide +kernel⟩
abbrev s_RuledChain_has_ended : Stmt := inClass (topS 13) 1
theorem sc_RuledChain_has_ended : FnScope ["self"] ["self"] (defScope s_RuledChain_has_ended) := ⟨rfl, rfl, rfl, by decide +kernel, rfl, by decide +kernel, by decide +kernel⟩
abbrev s_RuledChain_next_part : Stmt := inClass (topS 13) 2
theorem sc_RuledChain_next_part : FnScope ["self", "at", "turn", "place"] ["self"] (defScope s_RuledChain_next_part) := ⟨rfl, rfl, rfl, by decide +kernel, rfl, by decide +kernel, by decide +kernel⟩
abbrev s_Leaf_init : Stmt := inClass (topS 14) 0
theorem sc_Leaf_init : FnScope ["self", "chain"] ["self", "chain"] (defScope s_Leaf_init) := ⟨rfl, rfl, rfl, by decide +kernel, rfl, by decide +kernel, by decide +kernel⟩
abbrev s_Leaf_ask : Stmt := inClass (topS 14) 1
theorem sc_Leaf_ask : FnScope ["self", "meter"] ["self", "meter"] (defScope s_Leaf_ask) := ⟨rfl, rfl, rfl, by decide +kernel, rfl, by decide +kernel, by decide +kernel⟩
abbrev s_leaf_of : Stmt := topS 15
theorem sc_leaf_of : FnScope ["tree"] ["tree"] (defScope s_leaf_of) := ⟨rfl, rfl, rfl, by decide +kernel, rfl, by decide +kernel, by decide +kernel⟩
abbrev s_root_chain : Stmt := topS 16
theorem sc_root_chain : FnScope ["top", "square", "below", "root"] ["top", "square", "below"] (defScope s_root_chain) := ⟨rfl, rfl, rfl, by decide +kernel, rfl, by decide +kernel, by decide +kernel⟩
abbrev s_FractionBox_init : Stmt := inClass (topS 18) 0
theorem sc_FractionBox_init : FnScope ["self", "top", "below", "told"] ["self", "top", "below", "told"] (defScope s_FractionBox_init) := ⟨rfl, rfl, rfl, by decide +kernel, rfl, by decide +kernel, by decide +kernel⟩
abbrev s_FractionBox_ask : Stmt := inClass (topS 18) 1
theorem sc_FractionBox_ask : FnScope ["self", "meter", "part"] ["self", "meter"] (defScope s_FractionBox_ask) := ⟨rfl, rfl, rfl, by decide +kernel, rfl, by decide +kernel, by decide +kernel⟩
abbrev s_FractionBox_nothing_left : Stmt := inClass (topS 18) 2
theorem sc_FractionBox_nothing_left : FnScope ["self"] ["self"] (defScope s_FractionBox_nothing_left) := ⟨rfl, rfl, rfl, by decide +kernel, rfl, by decide +kernel, by decide +kernel⟩
abbrev s_FourBox_init : Stmt := inClass (topS 19) 0
theorem sc_FourBox_init : FnScope ["self", "numbers", "tree", "started", "told"] ["self", "numbers", "tree", "started", "told"] (defScope s_FourBox_init) := ⟨rfl, rfl, rfl, by decide +kernel, rfl, by decide +kernel, by decide +kernel⟩
abbrev s_FourBox_ask : Stmt := inClass (topS 19) 1
theorem sc_FourBox_ask : FnScope ["self", "meter", "part", "answer"] ["self", "meter"] (defScope s_FourBox_ask) := ⟨rfl, rfl, rfl, by decide +kernel, rfl, by decide +kernel, by decide +kernel⟩
abbrev s_FourBox_tell : Stmt := inClass (topS 19) 2
theorem sc_FourBox_tell : FnScope ["self", "part"] ["self", "part"] (defScope s_FourBox_tell) := ⟨rfl, rfl, rfl, by decide +kernel, rfl, by decide +kernel, by decide +kernel⟩
abbrev s_FourBox_take : Stmt := inClass (topS 19) 3
theorem sc_FourBox_take : FnScope ["self", "answer", "a", "b", "c", "d", "part"] ["self", "answer"] (defScope s_FourBox_take) := ⟨rfl, rfl, rfl, by decide +kernel, rfl, by decide +kernel, by decide +kernel⟩
abbrev s_EightBox_init : Stmt := inClass (topS 20) 0
theorem sc_EightBox_init : FnScope ["self", "numbers", "one", "other"] ["self", "numbers", "one", "other"] (defScope s_EightBox_init) := ⟨rfl, rfl, rfl, by decide +kernel, rfl, by decide +kernel, by decide +kernel⟩
abbrev s_EightBox_ask : Stmt := inClass (topS 20) 1
theorem sc_EightBox_ask : FnScope ["self", "meter", "part", "which", "answer"] ["self", "meter"] (defScope s_EightBox_ask) := ⟨rfl, rfl, rfl, by decide +kernel, rfl, by decide +kernel, by decide +kernel⟩
abbrev s_EightBox_tell : Stmt := inClass (topS 20) 2
theorem sc_EightBox_tell : FnScope ["self", "part"] ["self", "part"] (defScope s_EightBox_tell) := ⟨rfl, rfl, rfl, by decide +kernel, rfl, by decide +kernel, by decide +kernel⟩
abbrev s_EightBox_take : Stmt := inClass (topS 20) 3
theorem sc_EightBox_take : FnScope ["self", "which", "answer"] ["self", "which", "answer"] (defScope s_EightBox_take) := ⟨rfl, rfl, rfl, by decide +kernel, rfl, by decide +kernel, by decide +kernel⟩
abbrev s_EightBox_left_without : Stmt := inClass (topS 20) 4
theorem sc_EightBox_left_without : FnScope ["self", "which", "a", "b", "c", "d", "e", "f", "g", "h"] ["self", "which"] (defScope s_EightBox_left_without) := ⟨rfl, rfl, rfl, by decide +kernel, rfl, by decide +kernel, by decide +kernel⟩
abbrev s_box_of_one : Stmt := topS 21
theorem sc_box_of_one : FnScope ["numbers", "tree", "told", "a", "b", "c", "d"] ["numbers", "tree", "told"] (defScope s_box_of_one) := ⟨rfl, rfl, rfl, by decide +kernel, rfl, by decide +kernel, by decide +kernel⟩
abbrev s_with_first_part : Stmt := topS 22
theorem sc_with_first_part : FnScope ["numbers", "part", "a", "b", "c", "d", "e", "f", "g", "h"] ["numbers", "part"] (defScope s_with_first_part) := ⟨rfl, rfl, rfl, by decide +kernel, rfl, by decide +kernel, by decide +kernel⟩
abbrev s_with_second_part : Stmt := topS 23
theorem sc_with_second_part : FnScope ["numbers", "part", "a", "b", "c", "d", "e", "f", "g", "h"] ["numbers", "part"] (defScope s_with_second_part) := ⟨rfl, rfl, rfl, by decide +kernel, rfl, by decide +kernel, by decide +kernel⟩
abbrev s_turned_over : Stmt := topS 24
theorem sc_turned_over : FnScope ["numbers", "part", "half", "above", "below", "left", "top", "under"] ["numbers", "part"] (defScope s_turned_over) := ⟨rfl, rfl, rfl, by decide +kernel, rfl, by decide +kernel, by decide +kernel⟩
abbrev s_four_corners : Stmt := topS 25
theorem sc_four_corners : FnScope ["numbers", "a", "b", "c", "d"] ["numbers"] (defScope s_four_corners) := ⟨rfl, rfl, rfl, by decide +kernel, rfl, by decide +kernel, by decide +kernel⟩
abbrev s_eight_corners : Stmt := topS 26
theorem sc_eight_corners : FnScope ["numbers", "a", "b", "c", "d", "e", "f", "g", "h"] ["numbers"] (defScope s_eight_corners) := ⟨rfl, rfl, rfl, by decide +kernel, rfl, by decide +kernel, by decide +kernel⟩
abbrev s_sure_part : Stmt := topS 27
theorem sc_sure_part : FnScope ["corners", "top", "below", "part"] ["corners"] (defScope s_sure_part) := ⟨rfl, rfl, rfl, by decide +kernel, rfl, by decide +kernel, by decide +kernel⟩
abbrev s_check_tree : Stmt := topS 33
theorem sc_check_tree : FnScope ["tree"] ["tree"] (defScope s_check_tree) := ⟨rfl, rfl, rfl, by decide +kernel, rfl, by decide +kernel, by decide +kernel⟩
abbrev s_check_at_depth : Stmt := topS 34
theorem sc_check_at_depth : FnScope ["tree", "depth", "word", "check"] ["tree", "depth"] (defScope s_check_at_depth) := ⟨rfl, rfl, rfl, by decide +kernel, rfl, by decide +kernel, by decide +kernel⟩
abbrev s_require : Stmt := topS 35
theorem sc_require : FnScope ["holds", "why"] ["holds", "why"] (defScope s_require) := ⟨rfl, rfl, rfl, by decide +kernel, rfl, by decide +kernel, by decide +kernel⟩
abbrev s_check_row : Stmt := topS 36
theorem sc_check_row : FnScope ["row", "fewest", "most", "number"] ["row", "fewest", "most"] (defScope s_check_row) := ⟨rfl, rfl, rfl, by decide +kernel, rfl, by decide +kernel, by decide +kernel⟩
abbrev s_is_whole : Stmt := topS 37
theorem sc_is_whole : FnScope ["number"] ["number"] (defScope s_is_whole) := ⟨rfl, rfl, rfl, by decide +kernel, rfl, by decide +kernel, by decide +kernel⟩
abbrev s_check_fraction : Stmt := topS 38
theorem sc_check_fraction : FnScope ["tree", "depth"] ["tree", "depth"] (defScope s_check_fraction) := ⟨rfl, rfl, rfl, by decide +kernel, rfl, by decide +kernel, by decide +kernel⟩
abbrev s_check_root : Stmt := topS 39
theorem sc_check_root : FnScope ["tree", "depth"] ["tree", "depth"] (defScope s_check_root) := ⟨rfl, rfl, rfl, by decide +kernel, rfl, by decide +kernel, by decide +kernel⟩
abbrev s_check_ruled : Stmt := topS 40
theorem sc_check_ruled : FnScope ["tree", "depth", "parts", "ring", "steps", "part", "step", "ends"] ["tree", "depth"] (defScope s_check_ruled) := ⟨rfl, rfl, rfl, by decide +kernel, rfl, by decide +kernel, by decide +kernel⟩
abbrev s_check_four : Stmt := topS 41
theorem sc_check_four : FnScope ["tree", "depth"] ["tree", "depth"] (defScope s_check_four) := ⟨rfl, rfl, rfl, by decide +kernel, rfl, by decide +kernel, by decide +kernel⟩
abbrev s_check_eight : Stmt := topS 42
theorem sc_check_eight : FnScope ["tree", "depth"] ["tree", "depth"] (defScope s_check_eight) := ⟨rfl, rfl, rfl, by decide +kernel, rfl, by decide +kernel, by decide +kernel⟩
abbrev s_check_line : Stmt := topS 43
theorem sc_check_line : FnScope ["numbers", "half", "above", "below", "crossed", "i", "k"] ["numbers"] (defScope s_check_line) := ⟨rfl, rfl, rfl, by decide +kernel, rfl, by decide +kernel, by decide +kernel⟩
abbrev s_check_power : Stmt := topS 44
theorem sc_check_power : FnScope ["tree", "depth"] ["tree", "depth"] (defScope s_check_power) := ⟨rfl, rfl, rfl, by decide +kernel, rfl, by decide +kernel, by decide +kernel⟩
abbrev s_Reading_init : Stmt := inClass (topS 49) 0
theorem sc_Reading_init : FnScope ["self", "box"] ["self", "box"] (defScope s_Reading_init) := ⟨rfl, rfl, rfl, by decide +kernel, rfl, by decide +kernel, by decide +kernel⟩
abbrev s_Reading_part : Stmt := inClass (topS 49) 1
theorem sc_Reading_part : FnScope ["self", "most"] ["self", "most"] (defScope s_Reading_part) := ⟨rfl, rfl, rfl, by decide +kernel, rfl, by decide +kernel, by decide +kernel⟩
abbrev s_Reading_took : Stmt := inClass (topS 49) 2
theorem sc_Reading_took : FnScope ["self"] ["self"] (defScope s_Reading_took) := ⟨rfl, rfl, rfl, by decide +kernel, rfl, by decide +kernel, by decide +kernel⟩
abbrev s_reader : Stmt := topS 50
theorem sc_reader : FnScope ["tree"] ["tree"] (defScope s_reader) := ⟨rfl, rfl, rfl, by decide +kernel, rfl, by decide +kernel, by decide +kernel⟩
abbrev s_box_of : Stmt := topS 51
theorem sc_box_of : FnScope ["tree", "word"] ["tree"] (defScope s_box_of) := ⟨rfl, rfl, rfl, by decide +kernel, rfl, by decide +kernel, by decide +kernel⟩
abbrev s_power_box : Stmt := topS 52
theorem sc_power_box : FnScope ["tree", "times"] ["tree", "times"] (defScope s_power_box) := ⟨rfl, rfl, rfl, by decide +kernel, rfl, by decide +kernel, by decide +kernel⟩
abbrev s_law_row : Stmt := topS 54
theorem sc_law_row : FnScope ["_law_script", "_law_mixed", "_law_cell"] ["_law_script"] (defScope s_law_row) := ⟨rfl, rfl, rfl, by decide +kernel, rfl, by decide +kernel, by decide +kernel⟩
abbrev s_law_taken : Stmt := topS 55
theorem sc_law_taken : FnScope ["_law_row_here", "_law_many", "_law_found", "_law_cell"] ["_law_row_here", "_law_many"] (defScope s_law_taken) := ⟨rfl, rfl, rfl, by decide +kernel, rfl, by decide +kernel, by decide +kernel⟩
abbrev s_law_whole : Stmt := topS 56
theorem sc_law_whole : FnScope ["_law_found"] ["_law_found"] (defScope s_law_whole) := ⟨rfl, rfl, rfl, by decide +kernel, rfl, by decide +kernel, by decide +kernel⟩
abbrev s_law_signed : Stmt := topS 57
theorem sc_law_signed : FnScope ["_law_row_here", "_law_most"] ["_law_row_here", "_law_most"] (defScope s_law_signed) := ⟨rfl, rfl, rfl, by decide +kernel, rfl, by decide +kernel, by decide +kernel⟩
abbrev s_law_ruled : Stmt := topS 58
theorem sc_law_ruled : FnScope ["_law_row_here", "_law_many", "_law_parts", "_law_k", "_law_size", "_law_ring", "_law_steps"] ["_law_row_here"] (defScope s_law_ruled) := ⟨rfl, rfl, rfl, by decide +kernel, rfl, by decide +kernel, by decide +kernel⟩
abbrev s_law_turns : Stmt := topS 59
theorem sc_law_turns : FnScope ["_law_tree", "_law_many", "_law_found", "_law_turn", "_law_k"] ["_law_tree", "_law_many"] (defScope s_law_turns) := ⟨rfl, rfl, rfl, by decide +kernel, rfl, by decide +kernel, by decide +kernel⟩
abbrev s_law_four : Stmt := topS 60
theorem sc_law_four : FnScope ["_law_row_here", "_law_numbers", "_law_k"] ["_law_row_here"] (defScope s_law_four) := ⟨rfl, rfl, rfl, by decide +kernel, rfl, by decide +kernel, by decide +kernel⟩
abbrev s_law_eight : Stmt := topS 61
theorem sc_law_eight : FnScope ["_law_row_here", "_law_way", "_law_some", "_law_numbers", "_law_k", "_law_i", "_law_j"] ["_law_row_here"] (defScope s_law_eight) := ⟨rfl, rfl, rfl, by decide +kernel, rfl, by decide +kernel, by decide +kernel⟩
abbrev s_law_corners : Stmt := topS 62
theorem sc_law_corners : FnScope ["_law_numbers", "_law_a", "_law_b", "_law_c", "_law_d", "_law_e", "_law_f", "_law_g", "_law_h"] ["_law_numbers"] (defScope s_law_corners) := ⟨rfl, rfl, rfl, by decide +kernel, rfl, by decide +kernel, by decide +kernel⟩
abbrev s_law_sure : Stmt := topS 63
theorem sc_law_sure : FnScope ["_law_corners_here", "_law_unders", "_law_top", "_law_below", "_law_part"] ["_law_corners_here"] (defScope s_law_sure) := ⟨rfl, rfl, rfl, by decide +kernel, rfl, by decide +kernel, by decide +kernel⟩
abbrev s_law_moved : Stmt := topS 64
theorem sc_law_moved : FnScope ["_law_numbers", "_law_which", "_law_part", "_law_a", "_law_b", "_law_c", "_law_d", "_law_e", "_law_f", "_law_g", "_law_h"] ["_law_numbers", "_law_which", "_law_part"] (defScope s_law_moved) := ⟨rfl, rfl, rfl, by decide +kernel, rfl, by decide +kernel, by decide +kernel⟩
abbrev s_law_ended : Stmt := topS 65
theorem sc_law_ended : FnScope ["_law_m", "_law_which", "_law_a", "_law_left"] ["_law_m", "_law_which"] (defScope s_law_ended) := ⟨rfl, rfl, rfl, by decide +kernel, rfl, by decide +kernel, by decide +kernel⟩
abbrev s_law_rest : Stmt := topS 66
theorem sc_law_rest : FnScope ["_law_m", "_law_top", "_law_below", "_law_part"] ["_law_m"] (defScope s_law_rest) := ⟨rfl, rfl, rfl, by decide +kernel, rfl, by decide +kernel, by decide +kernel⟩
abbrev s_law_step : Stmt := topS 67
theorem sc_law_step : FnScope ["_law_m", "_law_chains", "_law_may", "_law_which", "_law_ready", "_law_part", "_law_half", "_law_below", "_law_k"] ["_law_m", "_law_chains", "_law_may"] (defScope s_law_step) := ⟨rfl, rfl, rfl, by decide +kernel, rfl, by decide +kernel, by decide +kernel⟩
abbrev s_law : Stmt := topS 68
theorem sc_law : FnScope ["_law_script", "_law_row_here", "_law_trees", "_law_chains", "_law_tree", "_law_m", "_law_made", "_law_k", "_law_most", "_law_due", "_law_found"] ["_law_script"] (defScope s_law) := ⟨rfl, rfl, rfl, by decide +kernel, rfl, by decide +kernel, by decide +kernel⟩
/-! ### the head: facts by names, the run -/
def d_wall : He.DefD := ⟨("_wall", none), "_wall", "_wall", defArgs s_wall, defBody s_wall, defScope s_wall, [], []⟩
def d_root_below : He.DefD := ⟨("root_below", none), "root_below", "root_below", defArgs s_root_below, defBody s_root_below, defScope s_root_below, [], []⟩
def d_Meter_init : He.DefD := ⟨("Meter", some "__init__"), "__init__", "Meter.__init__", defArgs s_Meter_init, defBody s_Meter_init, defScope s_Meter_init, [], []⟩
def d_Meter_allow : He.DefD := ⟨("Meter", some "allow"), "allow", "Meter.allow", defArgs s_Meter_allow, defBody s_Meter_allow, defScope s_Meter_allow, [], []⟩
def d_Meter_pay : He.DefD := ⟨("Meter", some "pay"), "pay", "Meter.pay", defArgs s_Meter_pay, defBody s_Meter_pay, defScope s_Meter_pay, [], []⟩
def d_FractionChain_init : He.DefD := ⟨("FractionChain", some "__init__"), "__init__", "FractionChain.__init__", defArgs s_FractionChain_init, defBody s_FractionChain_init, defScope s_FractionChain_init, [], []⟩
def d_FractionChain_has_ended : He.DefD := ⟨("FractionChain", some "has_ended"), "has_ended", "FractionChain.has_ended", defArgs s_FractionChain_has_ended, defBody s_FractionChain_has_ended, defScope s_FractionChain_has_ended, [], []⟩
def d_FractionChain_next_part : He.DefD := ⟨("FractionChain", some "next_part"), "next_part", "FractionChain.next_part", defArgs s_FractionChain_next_part, defBody s_FractionChain_next_part, defScope s_FractionChain_next_part, [], []⟩
def d_RootChain_init : He.DefD := ⟨("RootChain", some "__init__"), "__init__", "RootChain.__init__", defArgs s_RootChain_init, defBody s_RootChain_init, defScope s_RootChain_init, [], []⟩
def d_RootChain_has_ended : He.DefD := ⟨("RootChain", some "has_ended"), "has_ended", "RootChain.has_ended", defArgs s_RootChain_has_ended, defBody s_RootChain_has_ended, defScope s_RootChain_has_ended, [], []⟩
def d_RootChain_next_part : He.DefD := ⟨("RootChain", some "next_part"), "next_part", "RootChain.next_part", defArgs s_RootChain_next_part, defBody s_RootChain_next_part, defScope s_RootChain_next_part, [], []⟩
def d_RootChain_what_is_left : He.DefD := ⟨("RootChain", some "what_is_left"), "what_is_left", "RootChain.what_is_left", defArgs s_RootChain_what_is_left, defBody s_RootChain_what_is_left, defScope s_RootChain_what_is_left, [], []⟩
def d_RuledChain_init : He.DefD := ⟨("RuledChain", some "__init__"), "__init__", "RuledChain.__init__", defArgs s_RuledChain_init, defBody s_RuledChain_init, defScope s_RuledChain_init, [], []⟩
def d_RuledChain_has_ended : He.DefD := ⟨("RuledChain", some "has_ended"), "has_ended", "RuledChain.has_ended", defArgs s_RuledChain_has_ended, defBody s_RuledChain_has_ended, defScope s_RuledChain_has_ended, [], []⟩
def d_RuledChain_next_part : He.DefD := ⟨("RuledChain", some "next_part"), "next_part", "RuledChain.next_part", defArgs s_RuledChain_next_part, defBody s_RuledChain_next_part, defScope s_RuledChain_next_part, [], []⟩
def d_Leaf_init : He.DefD := ⟨("Leaf", some "__init__"), "__init__", "Leaf.__init__", defArgs s_Leaf_init, defBody s_Leaf_init, defScope s_Leaf_init, [], []⟩
def d_Leaf_ask : He.DefD := ⟨("Leaf", some "ask"), "ask", "Leaf.ask", defArgs s_Leaf_ask, defBody s_Leaf_ask, defScope s_Leaf_ask, [], []⟩
def d_leaf_of : He.DefD := ⟨("leaf_of", none), "leaf_of", "leaf_of", defArgs s_leaf_of, defBody s_leaf_of, defScope s_leaf_of, [], []⟩
def d_root_chain : He.DefD := ⟨("root_chain", none), "root_chain", "root_chain", defArgs s_root_chain, defBody s_root_chain, defScope s_root_chain, [], []⟩
def d_FractionBox_init : He.DefD := ⟨("FractionBox", some "__init__"), "__init__", "FractionBox.__init__", defArgs s_FractionBox_init, defBody s_FractionBox_init, defScope s_FractionBox_init, [], []⟩
def d_FractionBox_ask : He.DefD := ⟨("FractionBox", some "ask"), "ask", "FractionBox.ask", defArgs s_FractionBox_ask, defBody s_FractionBox_ask, defScope s_FractionBox_ask, [], []⟩
def d_FractionBox_nothing_left : He.DefD := ⟨("FractionBox", some "nothing_left"), "nothing_left", "FractionBox.nothing_left", defArgs s_FractionBox_nothing_left, defBody s_FractionBox_nothing_left, defScope s_FractionBox_nothing_left, [], []⟩
def d_FourBox_init : He.DefD := ⟨("FourBox", some "__init__"), "__init__", "FourBox.__init__", defArgs s_FourBox_init, defBody s_FourBox_init, defScope s_FourBox_init, [], []⟩
def d_FourBox_ask : He.DefD := ⟨("FourBox", some "ask"), "ask", "FourBox.ask", defArgs s_FourBox_ask, defBody s_FourBox_ask, defScope s_FourBox_ask, [], []⟩
def d_FourBox_tell : He.DefD := ⟨("FourBox", some "tell"), "tell", "FourBox.tell", defArgs s_FourBox_tell, defBody s_FourBox_tell, defScope s_FourBox_tell, [], []⟩
def d_FourBox_take : He.DefD := ⟨("FourBox", some "take"), "take", "FourBox.take", defArgs s_FourBox_take, defBody s_FourBox_take, defScope s_FourBox_take, [], []⟩
def d_EightBox_init : He.DefD := ⟨("EightBox", some "__init__"), "__init__", "EightBox.__init__", defArgs s_EightBox_init, defBody s_EightBox_init, defScope s_EightBox_init, [], []⟩
def d_EightBox_ask : He.DefD := ⟨("EightBox", some "ask"), "ask", "EightBox.ask", defArgs s_EightBox_ask, defBody s_EightBox_ask, defScope s_EightBox_ask, [], []⟩
def d_EightBox_tell : He.DefD := ⟨("EightBox", some "tell"), "tell", "EightBox.tell", defArgs s_EightBox_tell, defBody s_EightBox_tell, defScope s_EightBox_tell, [], []⟩
def d_EightBox_take : He.DefD := ⟨("EightBox", some "take"), "take", "EightBox.take", defArgs s_EightBox_take, defBody s_EightBox_take, defScope s_EightBox_take, [], []⟩
def d_EightBox_left_without : He.DefD := ⟨("EightBox", some "left_without"), "left_without", "EightBox.left_without", defArgs s_EightBox_left_without, defBody s_EightBox_left_without, defScope s_EightBox_left_without, [], []⟩
def d_box_of_one : He.DefD := ⟨("box_of_one", none), "box_of_one", "box_of_one", defArgs s_box_of_one, defBody s_box_of_one, defScope s_box_of_one, [], []⟩
def d_with_first_part : He.DefD := ⟨("with_first_part", none), "with_first_part", "with_first_part", defArgs s_with_first_part, defBody s_with_first_part, defScope s_with_first_part, [], []⟩
def d_with_second_part : He.DefD := ⟨("with_second_part", none), "with_second_part", "with_second_part", defArgs s_with_second_part, defBody s_with_second_part, defScope s_with_second_part, [], []⟩
def d_turned_over : He.DefD := ⟨("turned_over", none), "turned_over", "turned_over", defArgs s_turned_over, defBody s_turned_over, defScope s_turned_over, [], []⟩
def d_four_corners : He.DefD := ⟨("four_corners", none), "four_corners", "four_corners", defArgs s_four_corners, defBody s_four_corners, defScope s_four_corners, [], []⟩
def d_eight_corners : He.DefD := ⟨("eight_corners", none), "eight_corners", "eight_corners", defArgs s_eight_corners, defBody s_eight_corners, defScope s_eight_corners, [], []⟩
def d_sure_part : He.DefD := ⟨("sure_part", none), "sure_part", "sure_part", defArgs s_sure_part, defBody s_sure_part, defScope s_sure_part, [], []⟩
def d_check_tree : He.DefD := ⟨("check_tree", none), "check_tree", "check_tree", defArgs s_check_tree, defBody s_check_tree, defScope s_check_tree, [], []⟩
def d_check_at_depth : He.DefD := ⟨("check_at_depth", none), "check_at_depth", "check_at_depth", defArgs s_check_at_depth, defBody s_check_at_depth, defScope s_check_at_depth, [], []⟩
def d_require : He.DefD := ⟨("require", none), "require", "require", defArgs s_require, defBody s_require, defScope s_require, [], []⟩
def d_check_row : He.DefD := ⟨("check_row", none), "check_row", "check_row", defArgs s_check_row, defBody s_check_row, defScope s_check_row, [], []⟩
def d_is_whole : He.DefD := ⟨("is_whole", none), "is_whole", "is_whole", defArgs s_is_whole, defBody s_is_whole, defScope s_is_whole, [], []⟩
def d_check_fraction : He.DefD := ⟨("check_fraction", none), "check_fraction", "check_fraction", defArgs s_check_fraction, defBody s_check_fraction, defScope s_check_fraction, [], []⟩
def d_check_root : He.DefD := ⟨("check_root", none), "check_root", "check_root", defArgs s_check_root, defBody s_check_root, defScope s_check_root, [], []⟩
def d_check_ruled : He.DefD := ⟨("check_ruled", none), "check_ruled", "check_ruled", defArgs s_check_ruled, defBody s_check_ruled, defScope s_check_ruled, [], []⟩
def d_check_four : He.DefD := ⟨("check_four", none), "check_four", "check_four", defArgs s_check_four, defBody s_check_four, defScope s_check_four, [], []⟩
def d_check_eight : He.DefD := ⟨("check_eight", none), "check_eight", "check_eight", defArgs s_check_eight, defBody s_check_eight, defScope s_check_eight, [], []⟩
def d_check_line : He.DefD := ⟨("check_line", none), "check_line", "check_line", defArgs s_check_line, defBody s_check_line, defScope s_check_line, [], []⟩
def d_check_power : He.DefD := ⟨("check_power", none), "check_power", "check_power", defArgs s_check_power, defBody s_check_power, defScope s_check_power, [], []⟩
def d_Reading_init : He.DefD := ⟨("Reading", some "__init__"), "__init__", "Reading.__init__", defArgs s_Reading_init, defBody s_Reading_init, defScope s_Reading_init, [], []⟩
def d_Reading_part : He.DefD := ⟨("Reading", some "part"), "part", "Reading.part", defArgs s_Reading_part, defBody s_Reading_part, defScope s_Reading_part, [], []⟩
def d_Reading_took : He.DefD := ⟨("Reading", some "took"), "took", "Reading.took", defArgs s_Reading_took, defBody s_Reading_took, defScope s_Reading_took, [], []⟩
def d_reader : He.DefD := ⟨("reader", none), "reader", "reader", defArgs s_reader, defBody s_reader, defScope s_reader, [], []⟩
def d_box_of : He.DefD := ⟨("box_of", none), "box_of", "box_of", defArgs s_box_of, defBody s_box_of, defScope s_box_of, [], []⟩
def d_power_box : He.DefD := ⟨("power_box", none), "power_box", "power_box", defArgs s_power_box, defBody s_power_box, defScope s_power_box, [], []⟩
def d_law_row : He.DefD := ⟨("_law_row", none), "_law_row", "_law_row", defArgs s_law_row, defBody s_law_row, defScope s_law_row, [], []⟩
def d_law_taken : He.DefD := ⟨("_law_taken", none), "_law_taken", "_law_taken", defArgs s_law_taken, defBody s_law_taken, defScope s_law_taken, [], []⟩
def d_law_whole : He.DefD := ⟨("_law_whole", none), "_law_whole", "_law_whole", defArgs s_law_whole, defBody s_law_whole, defScope s_law_whole, [], []⟩
def d_law_signed : He.DefD := ⟨("_law_signed", none), "_law_signed", "_law_signed", defArgs s_law_signed, defBody s_law_signed, defScope s_law_signed, [], []⟩
def d_law_ruled : He.DefD := ⟨("_law_ruled", none), "_law_ruled", "_law_ruled", defArgs s_law_ruled, defBody s_law_ruled, defScope s_law_ruled, [], []⟩
def d_law_turns : He.DefD := ⟨("_law_turns", none), "_law_turns", "_law_turns", defArgs s_law_turns, defBody s_law_turns, defScope s_law_turns, [], []⟩
def d_law_four : He.DefD := ⟨("_law_four", none), "_law_four", "_law_four", defArgs s_law_four, defBody s_law_four, defScope s_law_four, [], []⟩
def d_law_eight : He.DefD := ⟨("_law_eight", none), "_law_eight", "_law_eight", defArgs s_law_eight, defBody s_law_eight, defScope s_law_eight, [], []⟩
def d_law_corners : He.DefD := ⟨("_law_corners", none), "_law_corners", "_law_corners", defArgs s_law_corners, defBody s_law_corners, defScope s_law_corners, [], []⟩
def d_law_sure : He.DefD := ⟨("_law_sure", none), "_law_sure", "_law_sure", defArgs s_law_sure, defBody s_law_sure, defScope s_law_sure, [], []⟩
def d_law_moved : He.DefD := ⟨("_law_moved", none), "_law_moved", "_law_moved", defArgs s_law_moved, defBody s_law_moved, defScope s_law_moved, [], []⟩
def d_law_ended : He.DefD := ⟨("_law_ended", none), "_law_ended", "_law_ended", defArgs s_law_ended, defBody s_law_ended, defScope s_law_ended, [], []⟩
def d_law_rest : He.DefD := ⟨("_law_rest", none), "_law_rest", "_law_rest", defArgs s_law_rest, defBody s_law_rest, defScope s_law_rest, [], []⟩
def d_law_step : He.DefD := ⟨("_law_step", none), "_law_step", "_law_step", defArgs s_law_step, defBody s_law_step, defScope s_law_step, [], []⟩
def d_law : He.DefD := ⟨("law", none), "law", "law", defArgs s_law, defBody s_law, defScope s_law, [], []⟩
def fnL : List He.DefD := ([d_wall, d_root_below, d_Meter_init, d_Meter_allow, d_Meter_pay, d_FractionChain_init, d_FractionChain_has_ended, d_FractionChain_next_part, d_RootChain_init, d_RootChain_has_ended, d_RootChain_next_part, d_RootChain_what_is_left, d_RuledChain_init, d_RuledChain_has_ended, d_RuledChain_next_part, d_Leaf_init, d_Leaf_ask, d_leaf_of, d_root_chain, d_FractionBox_init, d_FractionBox_ask, d_FractionBox_nothing_left, d_FourBox_init, d_FourBox_ask, d_FourBox_tell, d_FourBox_take, d_EightBox_init, d_EightBox_ask, d_EightBox_tell, d_EightBox_take] : List He.DefD) ++ ([d_EightBox_left_without, d_box_of_one, d_with_first_part, d_with_second_part, d_turned_over, d_four_corners, d_eight_corners, d_sure_part, d_check_tree, d_check_at_depth, d_require, d_check_row, d_is_whole, d_check_fraction, d_check_root, d_check_ruled, d_check_four, d_check_eight, d_check_line, d_check_power, d_Reading_init, d_Reading_part, d_Reading_took, d_reader, d_box_of, d_power_box, d_law_row, d_law_taken, d_law_whole, d_law_signed] : List He.DefD) ++ ([d_law_ruled, d_law_turns, d_law_four, d_law_eight, d_law_corners, d_law_sure, d_law_moved, d_law_ended, d_law_rest, d_law_step, d_law] : List He.DefD)
def faL : List He.Fa := ([.free "len", .free "isinstance", .free "range", .free "zip", .free "abs", .free "divmod", .free "min", .free "all", .free "any", .free "list", .free "tuple", .free "str", .free "int", .free "bool", .free "sum", .free "max", .exc "NoValue", .exm "NoValue" "NoValue" true, .glo "_wall", .glo "PartError", .glo "BadTree", .glo "NoValue", .glo "root_below", .glo "END", .glo "WAITS", .glo "Meter", .cls "Meter", .mkr "Meter", .meth "Meter" "allow", .meth "Meter" "pay"] : List He.Fa) ++ ([.noat "Meter" "left", .noat "Meter" "spent", .glo "FractionChain", .cls "FractionChain", .mkr "FractionChain", .meth "FractionChain" "has_ended", .meth "FractionChain" "next_part", .noat "FractionChain" "top", .noat "FractionChain" "below", .glo "RootChain", .cls "RootChain", .mkr "RootChain", .meth "RootChain" "has_ended", .meth "RootChain" "next_part", .meth "RootChain" "what_is_left", .noat "RootChain" "top", .noat "RootChain" "square", .noat "RootChain" "below", .noat "RootChain" "root", .glo "RuledChain", .cls "RuledChain", .mkr "RuledChain", .meth "RuledChain" "has_ended", .meth "RuledChain" "next_part", .noat "RuledChain" "parts", .noat "RuledChain" "ring", .noat "RuledChain" "steps", .noat "RuledChain" "at", .glo "Leaf", .cls "Leaf"] : List He.Fa) ++ ([.mkr "Leaf", .meth "Leaf" "ask", .noat "Leaf" "chain", .glo "leaf_of", .glo "root_chain", .glo "FractionBox", .cls "FractionBox", .mkr "FractionBox", .meth "FractionBox" "ask", .meth "FractionBox" "nothing_left", .noat "FractionBox" "top", .noat "FractionBox" "below", .noat "FractionBox" "told", .glo "FourBox", .cls "FourBox", .mkr "FourBox", .meth "FourBox" "ask", .meth "FourBox" "tell", .meth "FourBox" "take", .noat "FourBox" "numbers", .noat "FourBox" "tree", .noat "FourBox" "started", .noat "FourBox" "told", .noat "FourBox" "rest", .glo "EightBox", .cls "EightBox", .mkr "EightBox", .meth "EightBox" "ask", .meth "EightBox" "tell", .meth "EightBox" "take"] : List He.Fa) ++ ([.meth "EightBox" "left_without", .noat "EightBox" "numbers", .noat "EightBox" "trees", .noat "EightBox" "taken", .noat "EightBox" "told", .noat "EightBox" "rest", .glo "box_of_one", .glo "with_first_part", .glo "with_second_part", .glo "turned_over", .glo "four_corners", .glo "eight_corners", .glo "sure_part", .int "MOST_NUMBER" 1000000000000, .int "MOST_DEPTH" 5, .int "MOST_PARTS" 12, .int "MOST_POWER" 4, .glo "check_tree", .glo "check_at_depth", .glo "require", .glo "check_row", .glo "is_whole", .glo "check_fraction", .glo "check_root", .glo "check_ruled", .glo "check_four", .glo "check_eight", .glo "check_line", .glo "check_power", .glo "LENGTHS"] : List He.Fa) ++ ([.glo "CHECKS", .glo "TIMES", .glo "Reading", .cls "Reading", .mkr "Reading", .meth "Reading" "part", .meth "Reading" "took", .noat "Reading" "box", .noat "Reading" "meter", .glo "reader", .glo "box_of", .glo "power_box", .glo "_law_row", .glo "_law_taken", .glo "_law_whole", .glo "_law_signed", .glo "_law_ruled", .glo "_law_turns", .glo "_law_four", .glo "_law_eight", .glo "_law_corners", .glo "_law_sure", .glo "_law_moved", .glo "_law_ended", .glo "_law_rest", .glo "_law_step", .glo "law"] : List He.Fa)
def tsL : List He.Tab := [(fun K => He.ga K "LENGTHS", ["fraction", "root", "ruled", "four", "eight", "power"]), (fun K => He.ga K "CHECKS", ["fraction", "root", "ruled", "four", "eight", "power"])]
open He in
def exL (K : PySem.W.Frag) : Bool := tupB K "END" [.str "end"] && (tupB K "WAITS" [.str "waits"] && (valsB K (ga K "LENGTHS") [("fraction", .int 3), ("root", .int 4), ("ruled", .int 4), ("four", .int 3), ("eight", .int 4), ("power", .int 3)] && (valsB K (ga K "CHECKS") [("fraction", .glo "check_fraction"), ("root", .glo "check_root"), ("ruled", .glo "check_ruled"), ("four", .glo "check_four"), ("eight", .glo "check_eight"), ("power", .glo "check_power")] && (tupB K "TIMES" [.int 1, .int 0, .int 0, .int 0, .int 0, .int 0, .int 0, .int 1]))))
def looseL : List Str := (["_wall", "PartError", "BadTree", "NoValue", "root_below", "END", "WAITS", "Meter", "FractionChain", "RootChain", "RuledChain", "Leaf", "leaf_of", "root_chain", "FractionBox", "FourBox", "EightBox", "box_of_one", "with_first_part", "with_second_part", "turned_over", "four_corners", "eight_corners", "sure_part", "MOST_NUMBER", "MOST_DEPTH", "MOST_PARTS", "MOST_POWER", "check_tree", "check_at_depth"] : List Str) ++ (["require", "check_row", "is_whole", "check_fraction", "check_root", "check_ruled", "check_four", "check_eight", "check_line", "check_power", "LENGTHS", "CHECKS", "TIMES", "Reading", "reader", "box_of", "power_box", "_law_row", "_law_taken", "_law_whole", "_law_signed", "_law_ruled", "_law_turns", "_law_four", "_law_eight", "_law_corners", "_law_sure", "_law_moved", "_law_ended", "_law_rest"] : List Str) ++ (["_law_step"] : List Str)
abbrev hk : PySem.W.Hook := He.hookX 4 faL fnL tsL [] exL
def ob (s : PySem.W.SharedT) : He.AlX := He.obsX 4 faL fnL tsL [] exL (HandSHeadRun.getT s)
theorem ob_eq (s : PySem.W.SharedT) : ob s = hk.obs s.abs := He.obsX_eq (HandSHeadRun.getT_eq s)
section
open PySem PySem.W PySem.Calls PyProof.Rows HandSHeadRun
theorem map3 {α β γ δ : Type _} {o : Option α} {f : α → β} {g : α → γ} {h : α → δ} {x : β} {y : γ} {z : δ} (a : o.map f = some x) (b : o.map g = some y) (c : o.map h = some z) : o.map (fun s => (f s, g s, h s)) = some (x, y, z) := by
  cases o with
  | none => cases a
  | some s => cases a; cases b; cases c; rfl
def RunA (r : OpenRow) (M : Nat) (w : World) : Prop := ∀ os : OsState, (endF (stepQ (denQ tabQ) r.prog w) M r.prog w os).map (fun s => looksF r.prog (boot_heap w.params) s.abs) = some true
def RunB (r : OpenRow) (q : Program) (M : Nat) (loose : List PySem.Str) (w : World) : Prop := ∀ os : OsState, (endF (stepQ (denQ tabQ) r.prog w) M r.prog w os).map (fun s => seenQ q loose (importedModules r.prog.main.body) (fun s => xlAt q [] s && recOk r.toRowW.records s) s.abs) = some (openGood q loose)
def RunC (r : OpenRow) (H : Hook) (ob : SharedT → H.α) (M : Nat) (w : World) : Prop := ∀ os : OsState, (endF (stepQ (denQ tabQ) r.prog w) M r.prog w os).map (fun s => ob s) = some (H.val w)
theorem run_of {r : OpenRow} {q : Program} {H : Hook} {ob : SharedT → H.α} {M : Nat} {loose : List PySem.Str} {w : World} (a : RunA r M w) (b : RunB r q M loose w) (c : RunC r H ob M w) : RunEq r q H ob M loose w := fun os => map3 (a os) (b os) (c os)
end
set_option maxHeartbeats 0 in
theorem run0a (w : World) : RunA (PySem.W.OpenLaw.row PySem.Challenge.rw_chainparts_k25_step_by_step) 7500 (w.withFollow "special-get-raises" false) := by
  intro os
  kernel_rfl
set_option maxHeartbeats 0 in
theorem run0b (w : World) : RunB (PySem.W.OpenLaw.row PySem.Challenge.rw_chainparts_k25_step_by_step) (PySem.W.view (PySem.W.OpenLaw.row PySem.Challenge.rw_chainparts_k25_step_by_step).prog [68]) 7500 looseL (w.withFollow "special-get-raises" false) := by
  intro os
  kernel_rfl
set_option maxHeartbeats 0 in
theorem run0c (w : World) : RunC (PySem.W.OpenLaw.row PySem.Challenge.rw_chainparts_k25_step_by_step) hk ob 7500 (w.withFollow "special-get-raises" false) := by
  intro os
  kernel_rfl
theorem run0 (w : World) : HandSHeadRun.RunEq (PySem.W.OpenLaw.row PySem.Challenge.rw_chainparts_k25_step_by_step) (PySem.W.view (PySem.W.OpenLaw.row PySem.Challenge.rw_chainparts_k25_step_by_step).prog [68]) hk ob 7500 looseL (w.withFollow "special-get-raises" false) := run_of (run0a w) (run0b w) (run0c w)
set_option maxHeartbeats 0 in
theorem run1a (w : World) : RunA (PySem.W.OpenLaw.row PySem.Challenge.rw_chainparts_k25_step_by_step) 7500 (w.withFollow "special-get-raises" true) := by
  intro os
  kernel_rfl
set_option maxHeartbeats 0 in
theorem run1b (w : World) : RunB (PySem.W.OpenLaw.row PySem.Challenge.rw_chainparts_k25_step_by_step) (PySem.W.view (PySem.W.OpenLaw.row PySem.Challenge.rw_chainparts_k25_step_by_step).prog [68]) 7500 looseL (w.withFollow "special-get-raises" true) := by
  intro os
  kernel_rfl
set_option maxHeartbeats 0 in
theorem run1c (w : World) : RunC (PySem.W.OpenLaw.row PySem.Challenge.rw_chainparts_k25_step_by_step) hk ob 7500 (w.withFollow "special-get-raises" true) := by
  intro os
  kernel_rfl
theorem run1 (w : World) : HandSHeadRun.RunEq (PySem.W.OpenLaw.row PySem.Challenge.rw_chainparts_k25_step_by_step) (PySem.W.view (PySem.W.OpenLaw.row PySem.Challenge.rw_chainparts_k25_step_by_step).prog [68]) hk ob 7500 looseL (w.withFollow "special-get-raises" true) := run_of (run1a w) (run1b w) (run1c w)
theorem run (w : World) : HandSHeadRun.RunEq (PySem.W.OpenLaw.row PySem.Challenge.rw_chainparts_k25_step_by_step) (PySem.W.view (PySem.W.OpenLaw.row PySem.Challenge.rw_chainparts_k25_step_by_step).prog [68]) hk ob 7500 looseL w := PySem.W.byRow2 "special-get-raises" (P := fun w => HandSHeadRun.RunEq (PySem.W.OpenLaw.row PySem.Challenge.rw_chainparts_k25_step_by_step) (PySem.W.view (PySem.W.OpenLaw.row PySem.Challenge.rw_chainparts_k25_step_by_step).prog [68]) hk ob 7500 looseL w) run0 run1 w
/-! ### calls of defs, in short -/
/-- the def x of the text stands at f, no one else bears its name -/
structure DefAt (K : PySem.W.Frag) (mg : Str → Option Value) (x : Str) (st : Stmt) (ps : List Str) (f : Addr) (fd : FuncData) : Prop where
  fn : Fun K x x st f fd
  mgx : mg x = some (.ref f)
  bd : Binds K fd ps []
/-- the def x keeps the promise sp, at level k -/
def COk (P : Program) (w : World) (K : PySem.W.Frag) (mg : Str → Option Value) (base : Heap) (CX : CXT) (k : Nat) (x : Str) (ps : List Str) (sp : Sp) : Prop :=
  ∃ (f : Addr) (fd : FuncData), FnOk P w K mg base CX k f fd ps sp ∧ mg x = some (.ref f) ∧ PySem.W.keepIn K (.ref f) = true ∧ Binds K fd ps []
theorem COk.of {P : Program} {w : World} {K : PySem.W.Frag} {mg : Str → Option Value} {base : Heap} {CX : CXT} {k : Nat} {x : Str} {st : Stmt} {ps : List Str} {sp : Sp} {f : Addr} {fd : FuncData}
    (D : DefAt K mg x st ps f fd) (h : FnOk P w K mg base CX k f fd ps sp) : COk P w K mg base CX k x ps sp := ⟨f, fd, h, D.mgx, D.fn.kp, D.bd⟩
theorem COk.mono {P : Program} {w : World} {K : PySem.W.Frag} {mg : Str → Option Value} {base : Heap} {CX : CXT} {k j : Nat} {x : Str} {ps : List Str} {sp : Sp}
    (h : COk P w K mg base CX k x ps sp) (hk : k ≤ j) : COk P w K mg base CX j x ps sp := by
  obtain ⟨f, fd, F, a, b, c⟩ := h
  exact ⟨f, fd, F.mono hk, a, b, c⟩
section
variable {X : Cx} {k : Nat} {x : Str} {ps : List Str} {sp : Sp} {e : Expr} {es : List Expr} {t : TA} {p pos : Pos}
theorem pe_c (C : COk X.prog X.w X.K X.mg X.base CX0 k x ps sp) (hr : Room k X.A) (ha : PA X (e :: es) t) (hg : Gl X x := by rfl)
    (hdb : (x == ("__debug__" : Str)) = false := by decide) (he : starEach (e :: es) X.env = (false, eval e X.env) :: starEach es X.env := by rfl) (hpl : (backTo pos (starEach es X.env)).any (·.1) = false := by rfl) :
    PE X (.Call (.Name x p) (e :: es) [] pos) (tCall sp [] E0 t) := by
  obtain ⟨f, fd, F, a, b, c⟩ := C
  exact pe_call F hr hg a b c .nil pass0 ha hdb he hpl
/-- one of two readings -/
theorem pe_alt {e : Expr} {t u : TE} (h : PE X e t) (h' : PE X e u) : PE X e (fun σ H Q => t σ H Q ∨ u σ H Q) :=
  ⟨fun pins s σ H Q I q => q.elim (h.run pins s σ H Q I) (h'.run pins s σ H Q I)⟩
/-- // by any divisor but nought -/
def CDivS (_ j : Int) : Prop := j ≠ 0 ∧ j.natAbs < 2 ^ 8000
theorem op_fdivS : OpR X (binaryOp .FloorDiv) (rI CDivS fun i j => .int (i.fdiv j)) := opI fun _ _ _ _ _ _ _ hc q =>
  PyProof.Rows.floordiv_int hc.1 q (.inl (PyProof.noPylong_of_log2 (Nat.lt_of_lt_of_le (PySem.Flt.log2_lt_of (k := 8000) (by decide) hc.2) (by decide))))
/-- ** of great ints -/
def CPowW (i j : Int) : Prop := 0 ≤ j ∧ (Builtin.Int.intBits i : Int) * j ≤ 2 ^ 27
/-- a written power -/
theorem pe_powc {a n v : Int} {j j' : Nat} {p p' pos : Pos} (h : a ^ n.toNat = v) (hc : CPow a n) : PE X (.BinOp (.Constant (.int a) j p) .Pow (.Constant (.int n) j' p') pos) (tC (.int v)) := by
  refine ⟨fun pins s σ H Q I q => ?_⟩
  have q' : Q (.int (a ^ n.toNat)) H := by rw [h]; exact q
  exact (pe_op op_pow pe_int pe_int).run pins s σ H Q I ⟨a, n, rfl, rfl, hc, q'⟩
/-- x ** 2 -/
def CSq (i : Int) : Prop := (Builtin.Int.intBits i : Int) * 2 ≤ 2 ^ 27
theorem op_sq : OpR X (binaryOp .Pow) (fun x y H Q => ∃ i, x = .int i ∧ y = .int 2 ∧ CSq i ∧ Q (.int (i * i)) H) := by
  intro pins s σ H x y v u Q I rx ry h
  obtain ⟨i, rfl, rfl, hc, q⟩ := h
  have e : i ^ (2 : Int).toNat = i * i := by
    show i ^ 2 = i * i
    grind
  exact (opI fun _ _ _ _ _ _ _ hc q => PyProof.Rows.pow_int hc.1 hc.2 q : OpR X (binaryOp .Pow) (rI CPowW fun i j => .int (i ^ j.toNat))) pins s σ H _ _ v u Q I rx ry ⟨i, 2, rfl, rfl, ⟨by decide, hc⟩, by show Q (.int (i ^ (2 : Int).toNat)) H; rw [e]; exact q⟩
theorem op_powW : OpR X (binaryOp .Pow) (rI CPowW fun i j => .int (i ^ j.toNat)) := opI fun _ _ _ _ _ _ _ hc q => PyProof.Rows.pow_int hc.1 hc.2 q
end
theorem same_upd {H : Hp} {p : Addr} {o : HO} (h : H p = none) : Same H (upd H p o) := fun b x e => by
  rw [upd_ne (ne_of_none e h)]
  exact e
theorem defAt_mk {K : PySem.W.Frag} {mg : Str → Option Value} {h : Heap} {x : Str} {st : Stmt} {ps : List Str} {f : Addr} {oc : Value} {od an : Option Addr} {osl : Array (Option Value)} {kV doc pm cdv ct : Value}
    (X : K.In h) (G : h.Ns mainGlobals mg) (a : PySem.W.nsIn K mainGlobals x = some (some (.ref f)))
    (l : K.lookup f = some ⟨oc, od, .func (PySem.W.fnOf x x (defArgs st) (defBody st) (defScope st) .none kV doc pm an cdv ct), osl⟩) (c : PySem.W.codeIn K cdv x = true) (k : PySem.W.keepIn K (.ref f) = true)
    (hb : ∀ (kV doc pm : Value) (an : Option Addr) (cdv ct : Value) (us : List Value), us.length = ps.length → bindArgs (PySem.W.fnOf x x (defArgs st) (defBody st) (defScope st) .none kV doc pm an cdv ct) ⟨us, []⟩ = pure (ps.zip us)) :
    DefAt K mg x st ps f (PySem.W.fnOf x x (defArgs st) (defBody st) (defScope st) .none kV doc pm an cdv ct) :=
  ⟨fun_mk l c k, PySem.W.mg_of X G a, (fun_mk (st := st) l c k).binds hb⟩
/-- the built-ins' names are still their own -/
structure BT (mg : Str → Option Value) : Prop where
  b_len : mg "len" = none
  b_isinstance : mg "isinstance" = none
  b_range : mg "range" = none
  b_zip : mg "zip" = none
  b_abs : mg "abs" = none
  b_divmod : mg "divmod" = none
  b_min : mg "min" = none
  b_all : mg "all" = none
  b_any : mg "any" = none
  b_list : mg "list" = none
  b_tuple : mg "tuple" = none
  b_str : mg "str" = none
  b_int : mg "int" = none
  b_bool : mg "bool" = none
  b_sum : mg "sum" = none
  b_max : mg "max" = none
/-! ### what the laws' own helpers do: a row of numbers is drawn from the script -/
/-- the script at a: known, never written -/
def ScrAt (K : PySem.W.Frag) (H : Hp) (a : Addr) (ns : List Int) : Prop := (∃ o, H a = some (.frz o (.lst (ns.map V.int)))) ∨ ∀ H', SqL K H' a (ns.map V.int)
theorem ScrAt.seq {K : PySem.W.Frag} {H : Hp} {a : Addr} {ns : List Int} (h : ScrAt K H a ns) : SqL K H a (ns.map V.int) := by
  rcases h with ⟨o, h⟩ | h
  · exact .inl (.inr ⟨o, h⟩)
  · exact h H
theorem ScrAt.of {K : PySem.W.Frag} {H : Hp} {a : Addr} {ns : List Int} (hO : Only H) (h : SqL K H a (ns.map V.int)) : ScrAt K H a ns := by
  rcases h with (h | ⟨o, h⟩) | h
  · rcases hO a with z | ⟨o, xs, z⟩
    · rw [z] at h; cases h
    · rw [z] at h; cases h
  · exact .inl ⟨o, h⟩
  · exact .inr fun _ => .inr h
theorem ScrAt.same {K : PySem.W.Frag} {H H' : Hp} {a : Addr} {ns : List Int} (h : ScrAt K H a ns) (s : Same H H') : ScrAt K H' a ns := by
  rcases h with ⟨o, h⟩ | h
  · exact .inl ⟨o, s _ _ h⟩
  · exact .inr h
/-- what is no locked thing may be written -/
theorem ScrAt.but {K : PySem.W.Frag} {H H' : Hp} {a r : Addr} {ns : List Int} (h : ScrAt K H a ns) (hr : ∀ o u, H r ≠ some (.frz o u)) (k : ∀ b o, H b = some o → b ≠ r → H' b = some o) : ScrAt K H' a ns := by
  rcases h with ⟨o, h⟩ | h
  · exact .inl ⟨o, k _ _ h fun z => by rw [z] at h; exact hr _ _ h⟩
  · exact .inr h
theorem no_frz {H : Hp} {r : Addr} {xs : List V} (h : H r = some (.lst xs)) : ∀ o u, H r ≠ some (.frz o u) := fun o u z => by rw [h] at z; cases z
/-- the row at r: the script at a (ns), a place in it, what is left of a great number, a mixed number -/
structure RowAt (K : PySem.W.Frag) (H : Hp) (r a : Addr) (ns : List Int) : Prop where
  row : ∃ (i : Nat) (left mixed : Int), H r = some (.lst [.ref a, .int i, .int left, .int mixed]) ∧ i ≤ ns.length ∧ 0 ≤ left ∧ 0 ≤ mixed ∧ mixed < 2147483647
  scr : ScrAt K H a ns
theorem ref_ne {a : Addr} {xs : List V} (ns : List Int) : V.ref a :: xs ≠ ns.map V.int := by
  cases ns with
  | nil => intro z; cases z
  | cons n r => intro z; rw [List.map_cons] at z; cases (List.cons.inj z).1
theorem RowAt.same {K : PySem.W.Frag} {H H' : Hp} {r a : Addr} {ns : List Int} (R : RowAt K H r a ns) (s : Same H H') : RowAt K H' r a ns := by
  obtain ⟨⟨i, l, m, e, z⟩, hS⟩ := R
  exact ⟨⟨i, l, m, s _ _ e, z⟩, hS.same s⟩
/-- a list other than the row is written -/
theorem RowAt.put {K : PySem.W.Frag} {H : Hp} {r a d : Addr} {ns : List Int} {xs ys : List V} (R : RowAt K H r a ns) (hd : H d = some (.lst xs)) (ne : d ≠ r) : RowAt K (upd H d (.lst ys)) r a ns := by
  obtain ⟨⟨i, l, m, e, z⟩, hS⟩ := R
  exact ⟨⟨i, l, m, by rw [upd_ne ne.symm]; exact e, z⟩, hS.but (no_frz hd) fun b o h hb => by rw [upd_ne hb]; exact h⟩
theorem RowAt.at_ {K : PySem.W.Frag} {H : Hp} {r a : Addr} {ns : List Int} (R : RowAt K H r a ns) : ∃ x xs, H r = some (.lst (.ref x :: xs)) := by
  obtain ⟨⟨i, l, m, e, z⟩, hS⟩ := R
  exact ⟨_, _, e⟩
def sp_law_row (K : PySem.W.Frag) : Sp := fun vs H Q _ => ∃ (a : Addr) (ns : List Int), vs = [.ref a] ∧ ScrAt K H a ns ∧ ns.length ≤ 63 ∧
  ∀ r H', H r = none → Same H H' → RowAt K H' r a ns → Q (.ref r) H'
/-- a drawn number: any one below many; only the row's list changes -/
def sp_law_taken (K : PySem.W.Frag) : Sp := fun vs H Q _ => ∃ (r a : Addr) (ns : List Int) (many : Int), vs = [.ref r, .int many] ∧ RowAt K H r a ns ∧ 0 < many ∧ many < 2 ^ 8000 ∧
  ∀ v H', 0 ≤ v → v < many → RowAt K H' r a ns → (∀ b o, H b = some o → b ≠ r → H' b = some o) → Q (.int v) H'
section
variable {P : Program} {w : World} {K : PySem.W.Frag} {mg : Str → Option Value} {base : Heap}
theorem ok_law_row {f : Addr} {fd : FuncData} (F : Fun K "_law_row" "_law_row" s_law_row f fd) : FnOk P w K mg base CX0 1 f fd ["_law_script"] (sp_law_row K) := by
  refine F.ok sc_law_row (fun vs H Q E h => ?_) (fun cdv A outer s H vs Q E hr h => ?_)
  · obtain ⟨a, ns, rfl, _⟩ := h
    rfl
  · obtain ⟨a, ns, rfl, hC, hlen, k⟩ := h
    have hS := hC.seq
    refine ⟨_, (pss_cons (ps_set (i := 1) sc_law_row.nd rfl (Or.inl rfl) pe_int)
    (pss_cons (ps_for PassesOwn.never rfl (pi_list (pv 0)) (pg_name (i := 2) sc_law_row.nd rfl (Or.inl rfl))
      (pss_one (ps_set (i := 1) sc_law_row.nd rfl (Or.inl rfl) (pe_op op_mod (pe_op op_add (pe_op op_add (pe_op op_mul (pv 1) pe_int) (pv 2)) pe_int) pe_int))))
    (pss_one (ps_ret (pe_lst (pa_cons (pv 0) (pa_cons pe_int (pa_cons pe_int (pa_cons (pv 1) pa_nil))))))))), ?_⟩
    refine ⟨_, rfl, a, rfl, ⟨_, hS⟩, for_list (K := K) (a := a) (xs := ns.map V.int) (fun i σ H2 => ∃ (m : Int) (v : Option V), σ = [some (.ref a), some (.int m), v] ∧ 0 ≤ m ∧ m < 2147483647 ∧ H2 = H)
      ⟨7, none, rfl, by decide, by decide, rfl⟩ (fun i σ H2 _ ⟨_, _, _, _, _, e⟩ => by rw [e]; exact hS) ?_ ?_⟩
    · rintro i y σ H2 hi ⟨m, v, rfl, h0, h1, rfl⟩
      obtain ⟨z, rfl⟩ : ∃ z, y = V.int z := by
        rw [List.getElem?_map] at hi
        cases e : ns[i]? with
        | none => rw [e] at hi; cases hi
        | some z => rw [e] at hi; exact ⟨z, (Option.some.inj hi).symm⟩
      refine ⟨_, rfl, _, _, rfl, rfl, .inl ⟨by omega, by omega⟩, _, rfl, _, _, rfl, rfl, _, _, rfl, rfl, _, _, rfl, rfl, (by show (0 : Int) < 2147483647; decide), ?_⟩
      exact ⟨_, _, rfl, Int.emod_nonneg _ (by decide), Int.emod_lt_of_pos _ (by decide), rfl⟩
    · rintro σ H2 ⟨m, v, rfl, h0, h1, rfl⟩
      refine ⟨_, rfl, _, rfl, (by show 4 ≤ sizeLine; decide), fun p hp => ?_⟩
      exact k p _ hp (same_upd hp) ⟨⟨0, 0, m, upd_same, Nat.zero_le _, by decide, h0, h1⟩, hC.same (same_upd hp)⟩
theorem natAbs_lt_pow {z : Int} {n : Nat} (h0 : 0 ≤ z) (h : z < 2 ^ n) : z.natAbs < 2 ^ n := by
  have e : ((2 ^ n : Nat) : Int) = 2 ^ n := by norm_cast
  omega
theorem ok_law_taken {f : Addr} {fd : FuncData} (F : Fun K "_law_taken" "_law_taken" s_law_taken f fd) (T : BT mg) : FnOk P w K mg base CX0 1 f fd ["_law_row_here", "_law_many"] (sp_law_taken K) := by
  refine F.ok sc_law_taken (fun vs H Q E h => ?_) (fun cdv A outer s H vs Q E hr h => ?_)
  · obtain ⟨r, a, ns, many, rfl, _⟩ := h
    rfl
  · obtain ⟨r, a, ns, many, rfl, ⟨⟨i, left, mixed, hr0, hi, hl, hm0, hm1⟩, hC⟩, hm, hmw, k⟩ := h
    have hS := hC.seq
    have mw : ∀ z, CDivW z many := fun z => wide_div (b := 8000) hm (natAbs_lt_pow (Int.le_of_lt hm) hmw) (by decide) (by decide)
    have nra : ∀ o, ScrAt K (upd H r o) a ns := fun o => hC.but (no_frz hr0) fun b z e hb => by rw [upd_ne hb]; exact e
    have kp : ∀ o b z, H b = some z → b ≠ r → (upd H r o) b = some z := fun o b z e hb => by rw [upd_ne hb]; exact e
    refine ⟨_, (pss_cons (ps_if (pt_cmpR op_gt (pe_ix ix_list (pv 0) pe_int (fun _ _ => rfl)) pe_int (nomark _))
      (pss_cons (ps_set (i := 2) sc_law_taken.nd rfl (Or.inl rfl) (pe_op op_mod (pe_ix ix_list (pv 0) pe_int (fun _ _ => rfl)) (pv 1)))
    (pss_cons (ps_asg (pe_op op_fdivW (pe_ix ix_list (pv 0) pe_int (fun _ _ => rfl)) (pv 1)) (pg_sub (pv 0) pe_int set_list))
    (pss_one (ps_ret (pv 2))))) pss_nil)
    (pss_cons (ps_if (pt_cmpR op_lt (pe_ix ix_list (pv 0) pe_int (fun _ _ => rfl)) (pe_callB call_len_seq (by rfl) T.b_len (by decide +kernel) (pa_cons (pe_ix ix_list (pv 0) pe_int (fun _ _ => rfl)) pa_nil)) (nomark _))
      (pss_cons (ps_set (i := 3) sc_law_taken.nd rfl (Or.inl rfl) (pe_ix ix_list (pe_ix ix_list (pv 0) pe_int (fun _ _ => rfl)) (pe_ix ix_list (pv 0) pe_int (fun _ _ => rfl)) (fun _ _ => rfl)))
    (pss_cons (ps_asg (pe_op op_add (pe_ix ix_list (pv 0) pe_int (fun _ _ => rfl)) pe_int) (pg_sub (pv 0) pe_int set_list))
    (pss_cons (ps_if (pt_cmpR op_ge (pv 3) (pe_powc (v := 1000000000000000000) (by decide) ⟨by decide, by decide, by decide⟩) (nomark _))
      (pss_one (ps_asg (pe_op op_fdivW (pv 3) (pv 1)) (pg_sub (pv 0) pe_int set_list))) pss_nil)
    (pss_one (ps_ret (pe_op op_mod (pv 3) (pv 1))))))) pss_nil)
    (pss_cons (ps_asg (pe_op op_mod (pe_op op_add (pe_op op_mul (pe_ix ix_list (pv 0) pe_int (fun _ _ => rfl)) pe_int) pe_int) pe_int) (pg_sub (pv 0) pe_int set_list))
    (pss_one (ps_ret (pe_op op_mod (pe_op op_fdiv (pe_ix ix_list (pv 0) pe_int (fun _ _ => rfl)) pe_int) (pv 1))))))), ?_⟩
    refine ⟨_, rfl, r, _, 2, .int left, rfl, rfl, SqL.of hr0, atI_nat (j := 2) rfl, _, _, rfl, rfl, _, rfl, ite2 (fun c => ?_) (fun c => ?_)⟩
    · -- what is left of a great number
      refine ⟨_, rfl, r, _, 2, .int left, rfl, rfl, SqL.of hr0, atI_nat (j := 2) rfl, _, rfl, _, _, rfl, rfl, hm, ?_⟩
      refine ⟨_, rfl, r, _, 2, .int left, rfl, rfl, SqL.of hr0, atI_nat (j := 2) rfl, _, rfl, _, _, rfl, rfl, mw _, ?_⟩
      refine ⟨_, rfl, r, _, 2, 2, rfl, rfl, hr0, rfl, ?_⟩
      refine ⟨_, rfl, k _ _ (Int.emod_nonneg _ (by omega)) (Int.emod_lt_of_pos _ hm) ⟨⟨i, left / many, mixed, upd_same, hi, Int.ediv_nonneg hl (by omega), hm0, hm1⟩, nra _⟩ (kp _)⟩
    · refine ⟨_, rfl, r, _, 1, .int i, rfl, rfl, SqL.of hr0, atI_nat (j := 1) rfl, _, rfl, r, _, 0, .ref a, rfl, rfl, SqL.of hr0, atI_nat (j := 0) rfl, a, _, rfl, .inl hS, _, _, rfl, rfl, _, rfl, ite2 (fun c2 => ?_) (fun c2 => ?_)⟩
      · have hi2 : i < ns.length := by
          have := of_decide_eq_true c2
          rw [List.length_map] at this
          omega
        have hz : (ns.map V.int)[i]? = some (.int ns[i]) := by
          rw [List.getElem?_map, List.getElem?_eq_getElem hi2]
          rfl
        refine ⟨_, rfl, r, _, 0, .ref a, rfl, rfl, SqL.of hr0, atI_nat (j := 0) rfl, _, rfl, r, _, 1, .int i, rfl, rfl, SqL.of hr0, atI_nat (j := 1) rfl, a, _, i, _, rfl, rfl, hS, atI_nat hz, ?_⟩
        generalize ns[i] = cell
        refine ⟨_, rfl, r, _, 1, .int i, rfl, rfl, SqL.of hr0, atI_nat (j := 1) rfl, _, _, rfl, rfl, _, rfl, r, _, 1, 1, rfl, rfl, hr0, rfl, ?_⟩
        have h1 : (upd H r (.lst [V.ref a, .int ((i : Int) + 1), .int left, .int mixed])) r = _ := upd_same
        refine ⟨_, rfl, _, _, rfl, rfl, _, rfl, ite2 (fun c3 => ?_) (fun c3 => ?_)⟩
        · have hc : 0 ≤ cell := by
            have := of_decide_eq_true c3
            omega
          refine ⟨_, rfl, _, rfl, _, _, rfl, rfl, mw _, _, rfl, r, _, 2, 2, rfl, rfl, h1, rfl, ?_⟩
          refine ⟨_, rfl, _, rfl, _, _, rfl, rfl, hm, ?_⟩
          rw [upd_upd]
          exact k _ _ (Int.emod_nonneg _ (by omega)) (Int.emod_lt_of_pos _ hm) ⟨⟨i + 1, cell / many, mixed, upd_same, hi2, Int.ediv_nonneg hc (by omega), hm0, hm1⟩, nra _⟩ (kp _)
        · refine ⟨_, rfl, _, rfl, _, _, rfl, rfl, hm, ?_⟩
          exact k _ _ (Int.emod_nonneg _ (by omega)) (Int.emod_lt_of_pos _ hm) ⟨⟨i + 1, left, mixed, upd_same, hi2, hl, hm0, hm1⟩, nra _⟩ (kp _)
      · refine ⟨_, rfl, r, _, 3, .int mixed, rfl, rfl, SqL.of hr0, atI_nat (j := 3) rfl, _, _, rfl, rfl, .inl ⟨by omega, by omega⟩, _, _, rfl, rfl, _, _, rfl, rfl, (by show (0 : Int) < 2147483647; decide), _, rfl, r, _, 3, 3, rfl, rfl, hr0, rfl, ?_⟩
        have h1 : (upd H r (.lst [V.ref a, .int (i : Int), .int left, .int ((mixed * 48271 + 12345) % 2147483647)])) r = _ := upd_same
        refine ⟨_, rfl, r, _, 3, _, rfl, rfl, SqL.of h1, atI_nat (j := 3) rfl, _, _, rfl, rfl, ⟨by decide, by decide⟩, _, rfl, _, _, rfl, rfl, hm, ?_⟩
        exact k _ _ (Int.emod_nonneg _ (by omega)) (Int.emod_lt_of_pos _ hm) ⟨⟨i, left, _, upd_same, hi, hl, Int.emod_nonneg _ (by decide), Int.emod_lt_of_pos _ (by decide)⟩, nra _⟩ (kp _)
def sp_law_whole : Sp := fun vs H Q _ => ∃ i : Int, vs = [.int i] ∧ Q (.bl true) H
theorem ok_law_whole {f : Addr} {fd : FuncData} (F : Fun K "_law_whole" "_law_whole" s_law_whole f fd) (T : BT mg) : FnOk P w K mg base CX0 1 f fd ["_law_found"] sp_law_whole := by
  refine F.ok sc_law_whole (fun vs H Q E h => ?_) (fun cdv A outer s H vs Q E hr h => ?_)
  · obtain ⟨i, rfl, _⟩ := h
    rfl
  · obtain ⟨i, rfl, k⟩ := h
    refine ⟨_, (pss_one (ps_ret (pe_and (pe_callB call_isi (by rfl) T.b_isinstance (by decide +kernel) (pa_cons (pv 0) (pa_cons (pe_bltn (v := .ty "int") (by rfl) T.b_int (by decide +kernel) rfl) pa_nil))) (pe_one (pe_not (pe_callB call_isi (by rfl) T.b_isinstance (by decide +kernel) (pa_cons (pv 0) (pa_cons (pe_bltn (v := .ty "bool") (by rfl) T.b_bool (by decide +kernel) rfl) pa_nil)))))))), ?_⟩
    refine ⟨_, rfl, _, _, _, _, true, rfl, .ty "int", .base (.int i), kit_ty (by decide +kernel), _, rfl, iteT ?_⟩
    exact ⟨_, rfl, _, _, _, _, false, rfl, .ty "bool", .base (.int i), kit_ty (by decide +kernel), _, rfl, k⟩
def sp_law_signed (K : PySem.W.Frag) : Sp := fun vs H Q _ => ∃ (r a : Addr) (ns : List Int) (most : Int), vs = [.ref r, .int most] ∧ RowAt K H r a ns ∧ 0 ≤ most ∧ most < 2 ^ 60 ∧
  ∀ v H', -most ≤ v → v ≤ most → RowAt K H' r a ns → (∀ b o, H b = some o → b ≠ r → H' b = some o) → Q (.int v) H'
theorem ok_law_signed {f : Addr} {fd : FuncData} (F : Fun K "_law_signed" "_law_signed" s_law_signed f fd) (G_law_taken : COk P w K mg base CX0 1 "_law_taken" ["_law_row_here", "_law_many"] (sp_law_taken K)) : FnOk P w K mg base CX0 2 f fd ["_law_row_here", "_law_most"] (sp_law_signed K) := by
  refine F.ok sc_law_signed (fun vs H Q E h => ?_) (fun cdv A outer s H vs Q E hr h => ?_)
  · obtain ⟨r, a, ns, most, rfl, _⟩ := h
    rfl
  · obtain ⟨r, a, ns, most, rfl, R, h0, h1, k⟩ := h
    refine ⟨_, (pss_one (ps_ret (pe_op op_sub (pe_c G_law_taken (hr.mono (by first | decide | omega)) (pa_cons (pv 0) (pa_cons (pe_op op_add (pe_op op_mul pe_int (pv 1)) pe_int) pa_nil))) (pv 1)))), ?_⟩
    have b60 : (2 : Int) ^ 60 = 1152921504606846976 := by decide
    have b8 : (2 : Int) ^ 62 < 2 ^ 8000 := by decide +kernel
    have b62 : (2 : Int) ^ 62 = 4611686018427387904 := by decide
    refine ⟨_, rfl, _, rfl, _, _, rfl, rfl, .inl ⟨by decide, by decide⟩, _, _, rfl, rfl, r, a, ns, _, rfl, R, by omega, by omega, fun v H' v0 v1 R' kp => ?_⟩
    exact ⟨_, rfl, _, _, rfl, rfl, k _ _ (by omega) (by omega) R' kp⟩
end

/-! ### root_below -/
/-- r is the greatest whole number whose square is no greater than n -/
def IsRoot (n r : Int) : Prop := 0 ≤ r ∧ r * r ≤ n ∧ n < (r + 1) * (r + 1)
theorem sq_nonneg (x : Int) : 0 ≤ x * x := by
  rcases Int.le_total 0 x with h | h
  · exact Int.mul_nonneg h h
  · exact Int.mul_nonneg_of_nonpos_of_nonpos h h
theorem IsRoot.unique {n r s : Int} (a : IsRoot n r) (b : IsRoot n s) : r = s := by
  obtain ⟨a0, a1, a2⟩ := a
  obtain ⟨b0, b1, b2⟩ := b
  have key : ∀ x y : Int, 0 ≤ x → 0 ≤ y → x * x ≤ n → n < (y + 1) * (y + 1) → x ≤ y := fun x y hx hy h1 h2 => by
    rcases Int.lt_or_le y x with h | h
    · have := Int.mul_le_mul (show y + 1 ≤ x by omega) (show y + 1 ≤ x by omega) (by omega) hx
      omega
    · exact h
  have h1 := key r s a0 b0 a1 b2
  have h2 := key s r b0 a0 b1 a2
  omega
theorem newton {n g q b : Int} (hg : 0 < g) (hq : q = n / g) (hb : b = (g + q) / 2) : n < (b + 1) * (b + 1) := by
  have h1 : n < g * (q + 1) := by
    have := Int.lt_mul_ediv_self_add (x := n) (k := g) hg
    rw [← hq] at this
    have e : g * (q + 1) = g * q + g := by grind
    omega
  have h2 : g + q + 1 ≤ 2 * (b + 1) := by omega
  have h3 : 4 * (g * (q + 1)) ≤ (g + q + 1) * (g + q + 1) := by
    have h : (g + q + 1) * (g + q + 1) - 4 * (g * (q + 1)) = (g - q - 1) * (g - q - 1) := by grind
    have := sq_nonneg (g - q - 1)
    omega
  rcases Int.lt_or_le n 0 with hn | hn
  · have := sq_nonneg (b + 1)
    omega
  · have hq0 : 0 ≤ q := by rw [hq]; exact Int.ediv_nonneg hn (by omega)
    have h4 : (g + q + 1) * (g + q + 1) ≤ (2 * (b + 1)) * (2 * (b + 1)) := Int.mul_le_mul h2 h2 (by omega) (by omega)
    have h5 : (2 * (b + 1)) * (2 * (b + 1)) = 4 * ((b + 1) * (b + 1)) := by grind
    omega
theorem newton_end {n g : Int} (hg : 0 < g) (hn : 0 ≤ n) (h : g ≤ (g + n / g) / 2) : g * g ≤ n := by
  have h1 : g ≤ n / g := by omega
  have h2 := Int.mul_le_mul_of_nonneg_left h1 (show 0 ≤ g by omega)
  have h3 := Int.mul_ediv_self_le (x := n) (k := g) (by omega)
  omega
theorem first_guess {n : Int} (h : 0 ≤ n) : n < ((2 : Int) ^ ((Builtin.Int.intBits n + 1) / 2) + 1) * ((2 : Int) ^ ((Builtin.Int.intBits n + 1) / 2) + 1) := by
  have hb : n < (2 : Int) ^ Builtin.Int.intBits n := by
    unfold Builtin.Int.intBits
    split
    · rename_i z
      have : n = 0 := by simpa using z
      subst this
      decide
    · have := Nat.lt_log2_self (n := n.natAbs)
      have e : ((2 ^ (n.natAbs.log2 + 1) : Nat) : Int) = 2 ^ (n.natAbs.log2 + 1) := by norm_cast
      omega
  generalize Builtin.Int.intBits n = m at *
  have hp : ∀ k : Nat, (0 : Int) < 2 ^ k := fun k => Int.pow_pos (by decide)
  have h1 : (2 : Int) ^ m ≤ 2 ^ ((m + 1) / 2) * 2 ^ ((m + 1) / 2) := by
    rw [← Int.pow_add]
    have z := Nat.pow_le_pow_right (n := 2) (by decide) (show m ≤ (m + 1) / 2 + (m + 1) / 2 by omega)
    exact_mod_cast z
  have h2 := hp ((m + 1) / 2)
  generalize (2 : Int) ^ ((m + 1) / 2) = g at *
  have e : (g + 1) * (g + 1) = g * g + 2 * g + 1 := by grind
  omega
def sp_root_below : Sp := fun vs H Q _ => ∃ n : Int, vs = [.int n] ∧ 0 ≤ n ∧ n < 2 ^ 4000 ∧ ∀ r, IsRoot n r → Q (.int r) H
section
variable {P : Program} {w : World} {K : PySem.W.Frag} {mg : Str → Option Value} {base : Heap}
theorem ok_root_below {f : Addr} {fd : FuncData} (F : Fun K "root_below" "root_below" s_root_below f fd) : FnOk P w K mg base CX0 1 f fd ["number"] sp_root_below := by
  refine F.ok sc_root_below (fun vs H Q E h => ?_) (fun cdv A outer s H vs Q E hr h => ?_)
  · obtain ⟨n, rfl, _⟩ := h
    rfl
  · obtain ⟨n, rfl, h0, hw, k⟩ := h
    refine ⟨_, (pss_cons (ps_if (pt_cmpR op_eq (pv 0) pe_int (nomark _))
      (pss_one (ps_ret pe_int)) pss_nil)
    (pss_cons (ps_set (i := 1) sc_root_below.nd rfl (Or.inl rfl) (pe_op op_shl pe_int (pe_op op_fdiv (pe_op op_add (pe_bits (pv 0)) pe_int) pe_int)))
    (pss_one (ps_while PassesOwn.never (pt_val pe_bl)
      (pss_cons (ps_set (i := 2) sc_root_below.nd rfl (Or.inl rfl) (pe_op op_fdiv (pe_op op_add (pv 1) (pe_op op_fdivW (pv 0) (pv 1))) pe_int))
    (pss_cons (ps_if (pt_cmpR op_ge (pv 2) (pv 1) (nomark _))
      (pss_one (ps_ret (pv 1))) pss_nil)
    (pss_one (ps_set (i := 1) sc_root_below.nd rfl (Or.inl rfl) (pv 2))))))))), ?_⟩
    refine ⟨_, rfl, rfl, _, rfl, ite2 (fun c => ?_) (fun c => ?_)⟩
    · have e : n = 0 := V.int.inj (of_decide_eq_true c)
      subst e
      exact k 0 ⟨by decide, by decide, by decide⟩
    · have hn : 0 < n := by
        have : n ≠ 0 := fun z => c (decide_eq_true (by rw [z]))
        omega
      have hbits : Builtin.Int.intBits n ≤ 4000 := PyProof.Rows.intBits_le (natAbs_lt_pow h0 hw)
      refine ⟨_, rfl, _, rfl, _, _, rfl, rfl, _, _, rfl, rfl, ⟨by decide, by decide⟩, _, _, rfl, rfl, ⟨by omega, by omega, by decide⟩, ?_⟩
      have e0 : (((Builtin.Int.intBits n : Nat) : Int) + 1) / 2 = (((Builtin.Int.intBits n + 1) / 2 : Nat) : Int) := by omega
      have e1 : (1 : Int) * 2 ^ ((((Builtin.Int.intBits n : Nat) : Int) + 1) / 2).toNat = 2 ^ ((Builtin.Int.intBits n + 1) / 2) := by rw [e0, Int.toNat_natCast, Int.one_mul]
      show tWhile _ _ _ [some (V.int n), some (V.int ((1 : Int) * 2 ^ ((((Builtin.Int.intBits n : Nat) : Int) + 1) / 2).toNat)), none] H
      rw [e1]
      refine while_by (fun σ H2 => ∃ (g : Int) (b : Option V), σ = [some (.int n), some (.int g), b] ∧ 0 < g ∧ g < 2 ^ 4001 ∧ n < (g + 1) * (g + 1) ∧ H2 = H)
        (fun σ _ => match σ with | [_, some (.int g), _] => g.toNat | _ => 0) ⟨_, none, rfl, Int.pow_pos (by decide), ?_, first_guess h0, rfl⟩ ?_ ?_
      · exact Int.pow_lt_pow_of_lt (by decide) (by omega)
      · rintro σ H2 ⟨g, b, rfl, hg, hgw, hlt, rfl⟩
        refine ⟨_, rfl, iteT ?_⟩
        refine ⟨_, rfl, _, rfl, _, rfl, _, _, rfl, rfl, wide_div (b := 4001) hg (natAbs_lt_pow (Int.le_of_lt hg) hgw) (by decide) (by decide), _, _, rfl, rfl, _, _, rfl, rfl, ⟨by decide, by decide⟩, ?_⟩
        have hb := newton (n := n) hg rfl rfl
        refine ⟨_, rfl, _, rfl, _, _, rfl, rfl, _, rfl, ite2 (fun c2 => ?_) (fun c2 => ?_)⟩
        · exact ⟨_, rfl, k g ⟨by omega, newton_end hg h0 (of_decide_eq_true c2), hlt⟩⟩
        · have c3 : ¬ g ≤ (g + n / g) / 2 := fun z => c2 (decide_eq_true z)
          have hd : 0 ≤ n / g := Int.ediv_nonneg h0 (by omega)
          have hb0 : 0 < (g + n / g) / 2 := by
            rcases Int.lt_or_le 0 ((g + n / g) / 2) with z | z
            · exact z
            · exfalso
              have e1 : g = 1 := by omega
              subst e1
              have : n / 1 = n := Int.ediv_one n
              omega
          exact ⟨_, rfl, ⟨_, _, rfl, hb0, by omega, hb, rfl⟩, by show ((g + n / g) / 2).toNat < g.toNat; omega⟩
      · intro σ H2 Q1 Q2 im hq
        exact hq.elim fun c ⟨e, z⟩ => ⟨c, e, im _ _ z⟩
end
/-! ### chains of fractions, in plain Lean -/
theorem fmod_pos {a b : Int} (h : 0 < b) : 0 ≤ a.fmod b ∧ a.fmod b < b := ⟨Int.fmod_nonneg_of_pos a h, Int.fmod_lt_of_pos a h⟩
theorem fmod_neg {a b : Int} (h : b < 0) : b < a.fmod b ∧ a.fmod b ≤ 0 := by
  have h1 := Int.fmod_nonneg_of_pos (-a) (show 0 < -b by omega)
  have h2 := Int.fmod_lt_of_pos (-a) (show 0 < -b by omega)
  rw [Int.neg_fmod_neg] at h1 h2
  omega
theorem fmod_abs {a b : Int} (h : b ≠ 0) : (a.fmod b).natAbs < b.natAbs := by
  rcases Int.lt_or_gt_of_ne h with h | h
  · have := fmod_neg (a := a) h; omega
  · have := fmod_pos (a := a) h; omega
theorem fdm (a b : Int) : b * a.fdiv b + a.fmod b = a := Int.mul_fdiv_add_fmod a b
theorem fmod_eq (a b : Int) : a - a.fdiv b * b = a.fmod b := by
  have := fdm a b
  rw [Int.mul_comm] at this
  omega
/-- the parts of the fraction t / b -/
def chain (t b : Int) : List Int := if h : b = 0 then [] else t.fdiv b :: chain b (t.fmod b)
termination_by b.natAbs
decreasing_by exact fmod_abs h
theorem chain_zero (t : Int) : chain t 0 = [] := by rw [chain, dif_pos rfl]
theorem chain_cons {t b : Int} (h : b ≠ 0) : chain t b = t.fdiv b :: chain b (t.fmod b) := by rw [chain, dif_neg h]
theorem chain_len : ∀ (n : Nat) (t b : Int), b.natAbs < 2 ^ n → (chain t b).length ≤ 2 * n
  | 0, t, b, h => by
    have e : b = 0 := by simp at h; exact h
    rw [e, chain_zero]; simp
  | n + 1, t, b, h => by
    by_cases hb : b = 0
    · rw [hb, chain_zero]; simp
    · rw [chain_cons hb, List.length_cons]
      by_cases hr : t.fmod b = 0
      · rw [hr, chain_zero, List.length_nil]; omega
      · rw [chain_cons hr, List.length_cons]
        have key : (b.fmod (t.fmod b)).natAbs < 2 ^ n := by
          have h1 := fdm b (t.fmod b)
          have hrp : 0 < b → 0 ≤ t.fmod b ∧ t.fmod b < b := fun z => fmod_pos z
          have hrn : b < 0 → b < t.fmod b ∧ t.fmod b ≤ 0 := fun z => fmod_neg z
          generalize t.fmod b = r at *
          have hd : ∀ q s : Int, r * q + s = b → ((0 < b ∧ 0 ≤ r ∧ r < b) ∨ (b < 0 ∧ b < r ∧ r ≤ 0)) → ((0 ≤ s ∧ s < r) ∨ (r < s ∧ s ≤ 0)) → 2 * s.natAbs < b.natAbs := by
            intro q s e c1 c2
            rcases c1 with ⟨p1, p2, p3⟩ | ⟨p1, p2, p3⟩
            · rcases c2 with ⟨p4, p5⟩ | ⟨p4, p5⟩
              · have hq : 0 < q := by
                  rcases Int.lt_or_le 0 q with z | z
                  · exact z
                  · have := Int.mul_le_mul_of_nonneg_left z p2
                    rw [Int.mul_zero] at this
                    omega
                have := Int.mul_le_mul_of_nonneg_left (show 1 ≤ q from hq) p2
                omega
              · omega
            · rcases c2 with ⟨p4, p5⟩ | ⟨p4, p5⟩
              · omega
              · have hq : 0 < q := by
                  rcases Int.lt_or_le 0 q with z | z
                  · exact z
                  · have := Int.mul_nonneg_of_nonpos_of_nonpos p3 z
                    omega
                have := Int.mul_nonneg (show 0 ≤ -r by omega) (show 0 ≤ q - 1 by omega)
                have e3 : -r * (q - 1) = r - r * q := by grind
                omega
          have c1 : (0 < b ∧ 0 ≤ r ∧ r < b) ∨ (b < 0 ∧ b < r ∧ r ≤ 0) := by
            rcases Int.lt_or_gt_of_ne hb with z | z
            · exact .inr ⟨z, hrn z⟩
            · exact .inl ⟨z, hrp z⟩
          have c2 : (0 ≤ b.fmod r ∧ b.fmod r < r) ∨ (r < b.fmod r ∧ b.fmod r ≤ 0) := by
            rcases Int.lt_or_gt_of_ne hr with z | z
            · exact .inr (fmod_neg z)
            · exact .inl (fmod_pos z)
          have := hd _ _ h1 c1 c2
          have e2 : 2 ^ (n + 1) = 2 * 2 ^ n := by rw [Nat.pow_succ]; omega
          omega
        have := chain_len n (t.fmod b) (b.fmod (t.fmod b)) key
        omega
/-- what a row of parts comes to -/
def fold : List Int → Int × Int
  | [] => (1, 0)
  | p :: r => (p * (fold r).1 + (fold r).2, (fold r).1)
theorem fold_pos : ∀ r : List Int, (∀ p ∈ r, 1 ≤ p) → 1 ≤ (fold r).1 ∧ 0 ≤ (fold r).2 ∧ (r ≠ [] → 1 ≤ (fold r).2)
  | [], _ => ⟨by decide, by decide, fun h => absurd rfl h⟩
  | p :: r, h => by
    obtain ⟨h1, h2, _⟩ := fold_pos r fun q hq => h q (List.mem_cons_of_mem _ hq)
    have hp := h p List.mem_cons_self
    have := Int.mul_le_mul hp h1 (by decide) (by omega)
    show 1 ≤ p * (fold r).1 + (fold r).2 ∧ 0 ≤ (fold r).1 ∧ (_ → 1 ≤ (fold r).1)
    omega
/-- parts as a chain has them behind the first: 1 or more, the last 2 or more -/
def Tail (r : List Int) : Prop := (∀ p ∈ r, 1 ≤ p) ∧ ∀ x, r.getLast? = some x → 2 ≤ x
theorem Tail.tail {p : Int} {r : List Int} (h : Tail (p :: r)) : Tail r := by
  refine ⟨fun q hq => h.1 q (List.mem_cons_of_mem _ hq), fun x hx => h.2 x ?_⟩
  cases r with
  | nil => cases hx
  | cons y s => rw [List.getLast?_cons_cons]; exact hx
theorem fold_tail : ∀ r : List Int, r ≠ [] → Tail r → (fold r).2 < (fold r).1
  | [], h, _ => absurd rfl h
  | [p], _, h => by
    have := h.2 p rfl
    show (1 : Int) < p * 1 + 0
    omega
  | p :: q :: r, _, h => by
    obtain ⟨h1, h2, h3⟩ := fold_pos (q :: r) fun x hx => h.1 x (List.mem_cons_of_mem _ hx)
    have hp := h.1 p List.mem_cons_self
    have := Int.mul_le_mul_of_nonneg_right hp (show 0 ≤ (fold (q :: r)).1 by omega)
    have h4 := h3 (List.cons_ne_nil _ _)
    show (fold (q :: r)).1 < p * (fold (q :: r)).1 + (fold (q :: r)).2
    omega
theorem fdiv_unique {a b q r : Int} (hb : 0 < b) (h : a = q * b + r) (h0 : 0 ≤ r) (h1 : r < b) : a.fdiv b = q ∧ a.fmod b = r := by
  have e := fdm a b
  obtain ⟨m0, m1⟩ := fmod_pos (a := a) hb
  have k : a.fdiv b = q := by
    generalize a.fdiv b = x at *
    generalize a.fmod b = y at *
    rcases Int.lt_trichotomy x q with z | z | z
    · have := Int.mul_le_mul_of_nonneg_left (show x + 1 ≤ q by omega) (show 0 ≤ b by omega)
      have e1 : b * (x + 1) = b * x + b := by grind
      have e2 : b * q = q * b := Int.mul_comm _ _
      omega
    · exact z
    · have := Int.mul_le_mul_of_nonneg_left (show q + 1 ≤ x by omega) (show 0 ≤ b by omega)
      have e1 : b * (q + 1) = b * q + b := by grind
      have e2 : b * q = q * b := Int.mul_comm _ _
      omega
  refine ⟨k, ?_⟩
  rw [k, Int.mul_comm] at e
  omega
theorem chain_fold : ∀ (p : Int) (r : List Int), Tail r → chain (fold (p :: r)).1 (fold (p :: r)).2 = p :: r
  | p, [], _ => by
    show chain (p * 1 + 0) 1 = [p]
    obtain ⟨e1, e2⟩ := fdiv_unique (a := p * 1 + 0) (b := 1) (q := p) (r := 0) (by decide) (by omega) (by decide) (by decide)
    rw [chain_cons (by decide), e1, e2, chain_zero]
  | p, q :: r, h => by
    obtain ⟨h1, h2, h3⟩ := fold_pos (q :: r) h.1
    have h4 := fold_tail (q :: r) (List.cons_ne_nil _ _) h
    have ih := chain_fold q r h.tail
    show chain (p * (fold (q :: r)).1 + (fold (q :: r)).2) (fold (q :: r)).1 = p :: q :: r
    obtain ⟨e1, e2⟩ := fdiv_unique (a := p * (fold (q :: r)).1 + (fold (q :: r)).2) (b := (fold (q :: r)).1) (q := p) (r := (fold (q :: r)).2) (by omega) rfl h2 h4
    rw [chain_cons (by omega), e1, e2, ih]
theorem gcd_fold : ∀ r : List Int, Int.gcd (fold r).1 (fold r).2 = 1
  | [] => by decide
  | p :: r => by
    have ih := gcd_fold r
    show Int.gcd (p * (fold r).1 + (fold r).2) (fold r).1 = 1
    rw [Int.gcd_comm, Int.add_comm, Int.mul_comm, Int.gcd_add_mul_left_right]
    exact ih
/-- a fraction is what its chain comes to, but for a factor -/
theorem fold_chain : ∀ (n : Nat) (t b : Int), b.natAbs ≤ n → ∃ g : Int, t = g * (fold (chain t b)).1 ∧ b = g * (fold (chain t b)).2 ∧ (0 < b → 0 < g) ∧ (b < 0 → g < 0) ∧ (b = 0 → g = t)
  | n, t, b, hn => by
    by_cases hb : b = 0
    · subst hb
      rw [chain_zero]
      exact ⟨t, by show t = t * 1; omega, by show (0 : Int) = t * 0; omega, fun h => by omega, fun h => by omega, fun _ => rfl⟩
    · have hm := fmod_abs (a := t) hb
      match n, hn with
      | n + 1, hn =>
        obtain ⟨g, e1, e2, p1, p2, p3⟩ := fold_chain n b (t.fmod b) (by omega)
        rw [chain_cons hb]
        refine ⟨g, ?_, e1, fun z => ?_, fun z => ?_, fun z => absurd z hb⟩
        · have e := fdm t b
          show t = g * (t.fdiv b * (fold (chain b (t.fmod b))).1 + (fold (chain b (t.fmod b))).2)
          generalize fold (chain b (t.fmod b)) = x at *
          generalize t.fmod b = r at *
          generalize t.fdiv b = q at *
          grind
        · obtain ⟨m0, m1⟩ := fmod_pos (a := t) z
          rcases Int.lt_or_eq_of_le m0 with y | y
          · exact p1 y
          · rw [p3 y.symm]; exact z
        · obtain ⟨m0, m1⟩ := fmod_neg (a := t) z
          rcases Int.lt_or_eq_of_le m1 with y | y
          · exact p2 y
          · rw [p3 y]; exact z
      | 0, hn => omega
theorem fold_low {t b : Int} (hb : b ≠ 0) : ∃ g : Int, t = g * (fold (chain t b)).1 ∧ b = g * (fold (chain t b)).2 ∧ g ≠ 0 ∧ (0 < g ↔ 0 < b) ∧ (g.natAbs = Int.gcd t b) := by
  obtain ⟨g, e1, e2, p1, p2, p3⟩ := fold_chain b.natAbs t b (Nat.le_refl _)
  have hg : g ≠ 0 := by
    rcases Int.lt_or_gt_of_ne hb with z | z
    · have := p2 z; omega
    · have := p1 z; omega
  refine ⟨g, e1, e2, hg, ⟨fun z => ?_, p1⟩, ?_⟩
  · rcases Int.lt_or_gt_of_ne hb with y | y
    · have := p2 y; omega
    · exact y
  · have h := gcd_fold (chain t b)
    generalize fold (chain t b) = x at *
    rw [e1, e2, Int.gcd_mul_left, h, Nat.mul_one]
theorem fold_bound : ∀ (r : List Int), (∀ p ∈ r, p.natAbs ≤ 2 ^ 39) → (fold r).1.natAbs ≤ 2 ^ (40 * r.length) ∧ (fold r).2.natAbs ≤ 2 ^ (40 * r.length)
  | [], _ => ⟨by decide, by decide⟩
  | p :: r, h => by
    obtain ⟨h1, h2⟩ := fold_bound r fun q hq => h q (List.mem_cons_of_mem _ hq)
    have hp := h p List.mem_cons_self
    have e : 2 ^ (40 * (r.length + 1)) = 2 ^ 39 * 2 ^ (40 * r.length) + 2 ^ 39 * 2 ^ (40 * r.length) := by
      rw [Nat.mul_add, Nat.pow_add]
      omega
    have e3 : 2 ^ (40 * r.length) ≤ 2 ^ 39 * 2 ^ (40 * r.length) := Nat.le_mul_of_pos_left _ (by decide)
    show (p * (fold r).1 + (fold r).2).natAbs ≤ 2 ^ (40 * (r.length + 1)) ∧ (fold r).1.natAbs ≤ 2 ^ (40 * (r.length + 1))
    have e4 := Int.natAbs_add_le (p * (fold r).1) (fold r).2
    have e5 : (p * (fold r).1).natAbs ≤ 2 ^ 39 * 2 ^ (40 * r.length) := by
      rw [Int.natAbs_mul]
      exact Nat.mul_le_mul hp h1
    omega
/-! ### further helpers of the laws -/
section
variable {P : Program} {w : World} {K : PySem.W.Frag} {mg : Str → Option Value} {base : Heap}
theorem dpAll_ints {H : Hp} : ∀ ns : List Int, DpAll K H (ns.map V.int) (ns.map PyData.int)
  | [] => .nil
  | n :: r => .cons (.int n) (dpAll_ints r)
theorem shaped_ints (ns : List Int) : SeqAt.shaped (.list (ns.map PyData.int)) = true := PySem.W.ke_shaped_ints ns
def small (z : Int) : Prop := z.natAbs < 2 ^ 1000
theorem small_fdiv {z : Int} (h : small z) (h0 : z ≠ 0) (y : Int) : CDivS y z := ⟨h0, Nat.lt_of_lt_of_le h (Nat.pow_le_pow_right (by decide) (by decide))⟩
theorem small_mul {x y : Int} (h : small x) (h' : small y) : CMulW x y := wide_mul (a := 1000) (b := 1000) h h' (by decide) (by decide) (by decide)
theorem fdiv_abs {a b : Int} (hb : b ≠ 0) : (a.fdiv b).natAbs ≤ a.natAbs := by
  have key : ∀ (x y q r : Int), 0 < y → y * q + r = x → 0 ≤ r → r < y → q.natAbs ≤ x.natAbs := by
    intro x y q r hy e r0 r1
    rcases Int.lt_or_le q 0 with z | z
    · have := Int.mul_nonneg (show 0 ≤ y - 1 by omega) (show 0 ≤ -q - 1 by omega)
      have e2 : (y - 1) * (-q - 1) = -(y * q) - y + q + 1 := by grind
      omega
    · have := Int.mul_nonneg (show 0 ≤ y - 1 by omega) z
      have e2 : (y - 1) * q = y * q - q := by grind
      omega
  rcases Int.lt_or_gt_of_ne hb with z | z
  · have h1 := fdm (-a) (-b)
    rw [Int.neg_fdiv_neg] at h1
    have := fmod_pos (a := -a) (show 0 < -b by omega)
    have := key (-a) (-b) _ _ (by omega) h1 this.1 this.2
    omega
  · exact key a b _ _ z (fdm a b) (fmod_pos z).1 (fmod_pos z).2
theorem small_fd {a b : Int} (h : small a) (hb : b ≠ 0) : small (a.fdiv b) := Nat.lt_of_le_of_lt (fdiv_abs hb) h
theorem small_fm {a b : Int} (h : small b) (hb : b ≠ 0) : small (a.fmod b) := Nat.lt_trans (fmod_abs hb) h
end
/-! ### methods and makers, in short -/
def MOk (P : Program) (w : World) (K : PySem.W.Frag) (mg : Str → Option Value) (base : Heap) (CX : CXT) (k : Nat) (C : Addr) (m : Str) (ps : List Str) (sp : Sp) : Prop :=
  Cls K C ∧ ∃ (f : Addr) (fd : FuncData), FnOk P w K mg base CX k f fd ps sp ∧ Meth K C m f ∧ Binds K fd ps []
def IOk (P : Program) (w : World) (K : PySem.W.Frag) (mg : Str → Option Value) (base : Heap) (k : Nat) (x : Str) (C : Addr) (ps : List Str) (sp : Sp) : Prop :=
  mg x = some (.ref C) ∧ ∃ (f : Addr) (fd : FuncData), FnOk P w K mg base CX0 k f fd ps sp ∧ Mk K C f ∧ Binds K fd ps []
theorem MOk.of {P : Program} {w : World} {K : PySem.W.Frag} {mg : Str → Option Value} {base : Heap} {CX : CXT} {k : Nat} {C : Addr} {m qual : Str} {ps : List Str} {sp : Sp} {st : Stmt}
    (c : Cls K C) (D : ∃ f fd, Fun K m qual st f fd ∧ Meth K C m f ∧ Binds K fd ps []) (h : ∀ f fd, Fun K m qual st f fd → FnOk P w K mg base CX k f fd ps sp) : MOk P w K mg base CX k C m ps sp := by
  obtain ⟨f, fd, F, M, B⟩ := D
  exact ⟨c, f, fd, h f fd F, M, B⟩
theorem IOk.of {P : Program} {w : World} {K : PySem.W.Frag} {mg : Str → Option Value} {base : Heap} {k : Nat} {x : Str} {C : Addr} {m qual : Str} {ps : List Str} {sp : Sp} {st : Stmt}
    (g : mg x = some (.ref C)) (D : ∃ f fd, Fun K m qual st f fd ∧ Mk K C f ∧ Binds K fd ps []) (h : ∀ f fd, Fun K m qual st f fd → FnOk P w K mg base CX0 k f fd ps sp) : IOk P w K mg base k x C ps sp := by
  obtain ⟨f, fd, F, M, B⟩ := D
  exact ⟨g, f, fd, h f fd F, M, B⟩
theorem COk.by {P : Program} {w : World} {K : PySem.W.Frag} {mg : Str → Option Value} {base : Heap} {CX : CXT} {k : Nat} {x : Str} {st : Stmt} {ps : List Str} {sp : Sp}
    (D : ∃ f fd, DefAt K mg x st ps f fd) (h : ∀ f fd, Fun K x x st f fd → FnOk P w K mg base CX k f fd ps sp) : COk P w K mg base CX k x ps sp := by
  obtain ⟨f, fd, F⟩ := D
  exact .of F (h f fd F.fn)
section
variable {X : Cx} {k : Nat} {x m : Str} {ps : List Str} {sp : Sp} {o e : Expr} {es : List Expr} {ta : TE} {t : TA} {p pos apos : Pos} {C : Addr}
theorem pe_m {pl : Sem Bool} (M : MOk X.prog X.w X.K X.mg X.base CX0 k C m ps sp) (hr : Room k X.A) (he : PE X o ta) (ha : PA X (e :: es) t)
    (hst : starEach (e :: es) X.env = (false, eval e X.env) :: starEach es X.env := by rfl) (hpl : (backTo pos (starEach es X.env)).any (·.1) = false := by rfl)
    (ht : eval (.Call (.Attribute o m apos) (e :: es) [] pos) X.env = (do
      let ov ← eval o X.env; standAt apos.atName
      let (f, first) ← holding [ov] (getMethod ov m pl)
      callWith pos f first (backTo pos (starEach (e :: es) X.env)) (backToKw pos (keywordEach [] X.env))) := by rfl) :
    PE X (.Call (.Attribute o m apos) (e :: es) [] pos) (tMeth C m sp [] E0 ta t) := by
  obtain ⟨c, f, fd, F, M, B⟩ := M
  exact pe_meth (pl := pl) he c M F hr B .nil pass0 ha hst hpl ht
theorem pe_m0 {pl : Sem Bool} (M : MOk X.prog X.w X.K X.mg X.base CX0 k C m ps sp) (hr : Room k X.A) (he : PE X o ta)
    (ht : eval (.Call (.Attribute o m apos) [] [] pos) X.env = (do
      let ov ← eval o X.env; standAt apos.atName
      let (f, first) ← holding [ov] (getMethod ov m pl)
      callWith pos f first (backTo pos (starEach [] X.env)) (backToKw pos (keywordEach [] X.env))) := by rfl) :
    PE X (.Call (.Attribute o m apos) [] [] pos) (tMeth C m sp [] E0 ta tNil) := by
  obtain ⟨c, f, fd, F, M, B⟩ := M
  exact pe_meth0 (pl := pl) he c M F hr B .nil pass0 ht
theorem pe_mk (I : IOk X.prog X.w X.K X.mg X.base k x C ps sp) (hr : Room (k + 1) X.A) (ha : PA X (e :: es) t) (hg : Gl X x := by rfl)
    (hdb : (x == ("__debug__" : Str)) = false := by decide) (he : starEach (e :: es) X.env = (false, eval e X.env) :: starEach es X.env := by rfl) (hpl : (backTo pos (starEach es X.env)).any (·.1) = false := by rfl) :
    PE X (.Call (.Name x p) (e :: es) [] pos) (tMake C sp [] E0 t) := by
  obtain ⟨g, f, fd, F, M, B⟩ := I
  exact pe_make M F hr hg g B .nil pass0 ha hdb he hpl
theorem pe_mk0 (I : IOk X.prog X.w X.K X.mg X.base k x C ps sp) (hr : Room (k + 1) X.A) (hg : Gl X x := by rfl) (hdb : (x == ("__debug__" : Str)) = false := by decide) :
    PE X (.Call (.Name x p) [] [] pos) (tMake C sp [] E0 tNil) := by
  obtain ⟨g, f, fd, F, M, B⟩ := I
  exact pe_make0 M F hr hg g B .nil pass0 hdb
/-- what a call lets out, the def lets out -/
theorem passes_tk {E : XK} (tk : Takes X (fun cls d _ H => E cls d H)) : Passes (L2.CX X.prog X.w) X E := fun pins σ H s e s' I c => passAt (W := fun cls d _ H => E cls d H) tk σ pins H s e s' I c
theorem pe_mX {E : XK} {pl : Sem Bool} (M : MOk X.prog X.w X.K X.mg X.base (L2.CX X.prog X.w) k C m ps sp) (hr : Room k X.A) (hx : Passes (L2.CX X.prog X.w) X E) (he : PE X o ta) (ha : PA X (e :: es) t)
    (hst : starEach (e :: es) X.env = (false, eval e X.env) :: starEach es X.env := by rfl) (hpl : (backTo pos (starEach es X.env)).any (·.1) = false := by rfl)
    (ht : eval (.Call (.Attribute o m apos) (e :: es) [] pos) X.env = (do
      let ov ← eval o X.env; standAt apos.atName
      let (f, first) ← holding [ov] (getMethod ov m pl)
      callWith pos f first (backTo pos (starEach (e :: es) X.env)) (backToKw pos (keywordEach [] X.env))) := by rfl) :
    PE X (.Call (.Attribute o m apos) (e :: es) [] pos) (tMeth C m sp [] E ta t) := by
  obtain ⟨c, f, fd, F, M, B⟩ := M
  exact pe_meth (pl := pl) he c M F hr B .nil hx ha hst hpl ht
theorem pe_mX0 {E : XK} {pl : Sem Bool} (M : MOk X.prog X.w X.K X.mg X.base (L2.CX X.prog X.w) k C m ps sp) (hr : Room k X.A) (hx : Passes (L2.CX X.prog X.w) X E) (he : PE X o ta)
    (ht : eval (.Call (.Attribute o m apos) [] [] pos) X.env = (do
      let ov ← eval o X.env; standAt apos.atName
      let (f, first) ← holding [ov] (getMethod ov m pl)
      callWith pos f first (backTo pos (starEach [] X.env)) (backToKw pos (keywordEach [] X.env))) := by rfl) :
    PE X (.Call (.Attribute o m apos) [] [] pos) (tMeth C m sp [] E ta tNil) := by
  obtain ⟨c, f, fd, F, M, B⟩ := M
  exact pe_meth0 (pl := pl) he c M F hr B .nil hx ht
/-- o.f as a target -/
def gFld (K : PySem.W.Frag) (to : TE) (f : Str) : TG := fun v σ H Q => to σ H fun x H1 => ∃ a C dx fs, x = .ref a ∧ H1 a = some (.ins C dx fs) ∧ Cls K C ∧ NoAttr K C f ∧ fs.length < 1000 ∧ Q σ (upd H1 a (.ins C dx (putF f v fs)))
open PySem.Spec PyProof.Rows in
theorem pg_fld {o : Expr} {to : TE} {f : Str} {pos : Pos} (ho : PE X o to)
    (ha : ∀ v, assign (.Attribute o f pos) X.env v = (do
      let ov ← holding [v] (eval o X.env); standAt pos.atName
      holding [v, ov] (setAttr ov f v); release [v, ov] []) := by intro _; rfl) : PG X (.Attribute o f pos) (gFld X.K to f) := by
  refine ⟨fun pins s σ H v u Q I r h => ?_⟩
  rw [ha]
  refine wpAny_bind (wpAny_holding (thn (ho.run pins s σ H _ I h) fun ov sA hA => ?_))
  obtain ⟨x, HA, IA, rA, a, C, dx, fs, rfl, ea, c, n, l, q⟩ := hA
  cases rA
  refine wpAny_bind (wpAny_standAt (wpAny_bind (wpAny_holding (setattr_ok IA ea c n l r fun sB IB => ?_))))
  exact wpAny_release ⟨σ, _, IB, q⟩
end
/-- an own class over ValueError -/
structure XC (K : PySem.W.Frag) (mg : Str → Option Value) (C : Addr) (n : Str) : Prop where
  g : mg n = some (.ref C)
  x : PySem.W.excIn K C [.type "ValueError", .type "Exception", .type "BaseException", .type "object"] "ValueError.__new__" = true
  k : PySem.W.keepIn K (.ref C) = true
  b : PySem.W.subIn K (.ref C) (.type "BaseException") = some true
  t : PySem.W.typeIn K (.ref C) = some (.type "type")
/-- where the classes and the tuples of the top stand -/
structure Ad where
  c_Meter : Addr
  c_FractionChain : Addr
  c_RootChain : Addr
  c_RuledChain : Addr
  c_Leaf : Addr
  c_FractionBox : Addr
  c_FourBox : Addr
  c_EightBox : Addr
  c_Reading : Addr
  k_END : Addr
  k_WAITS : Addr
  k_TIMES : Addr
  k_LENGTHS : Addr
  k_CHECKS : Addr
  c_NoValue : Addr
structure CT (K : PySem.W.Frag) (mg : Str → Option Value) (A : Ad) : Prop extends BT mg where
  cl_Meter : Cls K A.c_Meter
  n_Meter_left : NoAttr K A.c_Meter "left"
  n_Meter_spent : NoAttr K A.c_Meter "spent"
  g_Meter : mg "Meter" = some (.ref A.c_Meter)
  cl_FractionChain : Cls K A.c_FractionChain
  n_FractionChain_top : NoAttr K A.c_FractionChain "top"
  n_FractionChain_below : NoAttr K A.c_FractionChain "below"
  g_FractionChain : mg "FractionChain" = some (.ref A.c_FractionChain)
  cl_RootChain : Cls K A.c_RootChain
  n_RootChain_top : NoAttr K A.c_RootChain "top"
  n_RootChain_square : NoAttr K A.c_RootChain "square"
  n_RootChain_below : NoAttr K A.c_RootChain "below"
  n_RootChain_root : NoAttr K A.c_RootChain "root"
  g_RootChain : mg "RootChain" = some (.ref A.c_RootChain)
  cl_RuledChain : Cls K A.c_RuledChain
  n_RuledChain_parts : NoAttr K A.c_RuledChain "parts"
  n_RuledChain_ring : NoAttr K A.c_RuledChain "ring"
  n_RuledChain_steps : NoAttr K A.c_RuledChain "steps"
  n_RuledChain_at : NoAttr K A.c_RuledChain "at"
  g_RuledChain : mg "RuledChain" = some (.ref A.c_RuledChain)
  cl_Leaf : Cls K A.c_Leaf
  n_Leaf_chain : NoAttr K A.c_Leaf "chain"
  g_Leaf : mg "Leaf" = some (.ref A.c_Leaf)
  cl_FractionBox : Cls K A.c_FractionBox
  n_FractionBox_top : NoAttr K A.c_FractionBox "top"
  n_FractionBox_below : NoAttr K A.c_FractionBox "below"
  n_FractionBox_told : NoAttr K A.c_FractionBox "told"
  g_FractionBox : mg "FractionBox" = some (.ref A.c_FractionBox)
  cl_FourBox : Cls K A.c_FourBox
  n_FourBox_numbers : NoAttr K A.c_FourBox "numbers"
  n_FourBox_tree : NoAttr K A.c_FourBox "tree"
  n_FourBox_started : NoAttr K A.c_FourBox "started"
  n_FourBox_told : NoAttr K A.c_FourBox "told"
  n_FourBox_rest : NoAttr K A.c_FourBox "rest"
  g_FourBox : mg "FourBox" = some (.ref A.c_FourBox)
  cl_EightBox : Cls K A.c_EightBox
  n_EightBox_numbers : NoAttr K A.c_EightBox "numbers"
  n_EightBox_trees : NoAttr K A.c_EightBox "trees"
  n_EightBox_taken : NoAttr K A.c_EightBox "taken"
  n_EightBox_told : NoAttr K A.c_EightBox "told"
  n_EightBox_rest : NoAttr K A.c_EightBox "rest"
  g_EightBox : mg "EightBox" = some (.ref A.c_EightBox)
  cl_Reading : Cls K A.c_Reading
  n_Reading_box : NoAttr K A.c_Reading "box"
  n_Reading_meter : NoAttr K A.c_Reading "meter"
  g_Reading : mg "Reading" = some (.ref A.c_Reading)
  g_END : mg "END" = some (.ref A.k_END)
  t_END : ∀ H, SqT K H A.k_END [.str "end"]
  g_WAITS : mg "WAITS" = some (.ref A.k_WAITS)
  t_WAITS : ∀ H, SqT K H A.k_WAITS [.str "waits"]
  g_TIMES : mg "TIMES" = some (.ref A.k_TIMES)
  t_TIMES : ∀ H, SqT K H A.k_TIMES [.int 1, .int 0, .int 0, .int 0, .int 0, .int 0, .int 0, .int 1]
  i_MOST_NUMBER : ∃ t, mg "MOST_NUMBER" = some (.int 1000000000000 t)
  i_MOST_DEPTH : ∃ t, mg "MOST_DEPTH" = some (.int 5 t)
  i_MOST_PARTS : ∃ t, mg "MOST_PARTS" = some (.int 12 t)
  i_MOST_POWER : ∃ t, mg "MOST_POWER" = some (.int 4 t)
  g_LENGTHS : mg "LENGTHS" = some (.ref A.k_LENGTHS)
  g_CHECKS : mg "CHECKS" = some (.ref A.k_CHECKS)
  x_NoValue : XC K mg A.c_NoValue "NoValue"
structure DT (K : PySem.W.Frag) (mg : Str → Option Value) (A : Ad) : Prop where
  wall : ∃ f fd, DefAt K mg "_wall" s_wall ["k"] f fd
  root_below : ∃ f fd, DefAt K mg "root_below" s_root_below ["number"] f fd
  Meter_init : ∃ f fd, Fun K "__init__" "Meter.__init__" s_Meter_init f fd ∧ Mk K A.c_Meter f ∧ Binds K fd ["self"] []
  Meter_allow : ∃ f fd, Fun K "allow" "Meter.allow" s_Meter_allow f fd ∧ Meth K A.c_Meter "allow" f ∧ Binds K fd ["self", "most"] []
  Meter_pay : ∃ f fd, Fun K "pay" "Meter.pay" s_Meter_pay f fd ∧ Meth K A.c_Meter "pay" f ∧ Binds K fd ["self"] []
  FractionChain_init : ∃ f fd, Fun K "__init__" "FractionChain.__init__" s_FractionChain_init f fd ∧ Mk K A.c_FractionChain f ∧ Binds K fd ["self", "top", "below"] []
  FractionChain_has_ended : ∃ f fd, Fun K "has_ended" "FractionChain.has_ended" s_FractionChain_has_ended f fd ∧ Meth K A.c_FractionChain "has_ended" f ∧ Binds K fd ["self"] []
  FractionChain_next_part : ∃ f fd, Fun K "next_part" "FractionChain.next_part" s_FractionChain_next_part f fd ∧ Meth K A.c_FractionChain "next_part" f ∧ Binds K fd ["self"] []
  RootChain_init : ∃ f fd, Fun K "__init__" "RootChain.__init__" s_RootChain_init f fd ∧ Mk K A.c_RootChain f ∧ Binds K fd ["self", "top", "square", "below"] []
  RootChain_has_ended : ∃ f fd, Fun K "has_ended" "RootChain.has_ended" s_RootChain_has_ended f fd ∧ Meth K A.c_RootChain "has_ended" f ∧ Binds K fd ["self"] []
  RootChain_next_part : ∃ f fd, Fun K "next_part" "RootChain.next_part" s_RootChain_next_part f fd ∧ Meth K A.c_RootChain "next_part" f ∧ Binds K fd ["self"] []
  RootChain_what_is_left : ∃ f fd, Fun K "what_is_left" "RootChain.what_is_left" s_RootChain_what_is_left f fd ∧ Meth K A.c_RootChain "what_is_left" f ∧ Binds K fd ["self"] []
  RuledChain_init : ∃ f fd, Fun K "__init__" "RuledChain.__init__" s_RuledChain_init f fd ∧ Mk K A.c_RuledChain f ∧ Binds K fd ["self", "parts", "ring", "steps"] []
  RuledChain_has_ended : ∃ f fd, Fun K "has_ended" "RuledChain.has_ended" s_RuledChain_has_ended f fd ∧ Meth K A.c_RuledChain "has_ended" f ∧ Binds K fd ["self"] []
  RuledChain_next_part : ∃ f fd, Fun K "next_part" "RuledChain.next_part" s_RuledChain_next_part f fd ∧ Meth K A.c_RuledChain "next_part" f ∧ Binds K fd ["self"] []
  Leaf_init : ∃ f fd, Fun K "__init__" "Leaf.__init__" s_Leaf_init f fd ∧ Mk K A.c_Leaf f ∧ Binds K fd ["self", "chain"] []
  Leaf_ask : ∃ f fd, Fun K "ask" "Leaf.ask" s_Leaf_ask f fd ∧ Meth K A.c_Leaf "ask" f ∧ Binds K fd ["self", "meter"] []
  leaf_of : ∃ f fd, DefAt K mg "leaf_of" s_leaf_of ["tree"] f fd
  root_chain : ∃ f fd, DefAt K mg "root_chain" s_root_chain ["top", "square", "below"] f fd
  FractionBox_init : ∃ f fd, Fun K "__init__" "FractionBox.__init__" s_FractionBox_init f fd ∧ Mk K A.c_FractionBox f ∧ Binds K fd ["self", "top", "below", "told"] []
  FractionBox_ask : ∃ f fd, Fun K "ask" "FractionBox.ask" s_FractionBox_ask f fd ∧ Meth K A.c_FractionBox "ask" f ∧ Binds K fd ["self", "meter"] []
  FractionBox_nothing_left : ∃ f fd, Fun K "nothing_left" "FractionBox.nothing_left" s_FractionBox_nothing_left f fd ∧ Meth K A.c_FractionBox "nothing_left" f ∧ Binds K fd ["self"] []
  FourBox_init : ∃ f fd, Fun K "__init__" "FourBox.__init__" s_FourBox_init f fd ∧ Mk K A.c_FourBox f ∧ Binds K fd ["self", "numbers", "tree", "started", "told"] []
  FourBox_ask : ∃ f fd, Fun K "ask" "FourBox.ask" s_FourBox_ask f fd ∧ Meth K A.c_FourBox "ask" f ∧ Binds K fd ["self", "meter"] []
  FourBox_tell : ∃ f fd, Fun K "tell" "FourBox.tell" s_FourBox_tell f fd ∧ Meth K A.c_FourBox "tell" f ∧ Binds K fd ["self", "part"] []
  FourBox_take : ∃ f fd, Fun K "take" "FourBox.take" s_FourBox_take f fd ∧ Meth K A.c_FourBox "take" f ∧ Binds K fd ["self", "answer"] []
  EightBox_init : ∃ f fd, Fun K "__init__" "EightBox.__init__" s_EightBox_init f fd ∧ Mk K A.c_EightBox f ∧ Binds K fd ["self", "numbers", "one", "other"] []
  EightBox_ask : ∃ f fd, Fun K "ask" "EightBox.ask" s_EightBox_ask f fd ∧ Meth K A.c_EightBox "ask" f ∧ Binds K fd ["self", "meter"] []
  EightBox_tell : ∃ f fd, Fun K "tell" "EightBox.tell" s_EightBox_tell f fd ∧ Meth K A.c_EightBox "tell" f ∧ Binds K fd ["self", "part"] []
  EightBox_take : ∃ f fd, Fun K "take" "EightBox.take" s_EightBox_take f fd ∧ Meth K A.c_EightBox "take" f ∧ Binds K fd ["self", "which", "answer"] []
  EightBox_left_without : ∃ f fd, Fun K "left_without" "EightBox.left_without" s_EightBox_left_without f fd ∧ Meth K A.c_EightBox "left_without" f ∧ Binds K fd ["self", "which"] []
  box_of_one : ∃ f fd, DefAt K mg "box_of_one" s_box_of_one ["numbers", "tree", "told"] f fd
  with_first_part : ∃ f fd, DefAt K mg "with_first_part" s_with_first_part ["numbers", "part"] f fd
  with_second_part : ∃ f fd, DefAt K mg "with_second_part" s_with_second_part ["numbers", "part"] f fd
  turned_over : ∃ f fd, DefAt K mg "turned_over" s_turned_over ["numbers", "part"] f fd
  four_corners : ∃ f fd, DefAt K mg "four_corners" s_four_corners ["numbers"] f fd
  eight_corners : ∃ f fd, DefAt K mg "eight_corners" s_eight_corners ["numbers"] f fd
  sure_part : ∃ f fd, DefAt K mg "sure_part" s_sure_part ["corners"] f fd
  check_tree : ∃ f fd, DefAt K mg "check_tree" s_check_tree ["tree"] f fd
  check_at_depth : ∃ f fd, DefAt K mg "check_at_depth" s_check_at_depth ["tree", "depth"] f fd
  require : ∃ f fd, DefAt K mg "require" s_require ["holds", "why"] f fd
  check_row : ∃ f fd, DefAt K mg "check_row" s_check_row ["row", "fewest", "most"] f fd
  is_whole : ∃ f fd, DefAt K mg "is_whole" s_is_whole ["number"] f fd
  check_fraction : ∃ f fd, DefAt K mg "check_fraction" s_check_fraction ["tree", "depth"] f fd
  check_root : ∃ f fd, DefAt K mg "check_root" s_check_root ["tree", "depth"] f fd
  check_ruled : ∃ f fd, DefAt K mg "check_ruled" s_check_ruled ["tree", "depth"] f fd
  check_four : ∃ f fd, DefAt K mg "check_four" s_check_four ["tree", "depth"] f fd
  check_eight : ∃ f fd, DefAt K mg "check_eight" s_check_eight ["tree", "depth"] f fd
  check_line : ∃ f fd, DefAt K mg "check_line" s_check_line ["numbers"] f fd
  check_power : ∃ f fd, DefAt K mg "check_power" s_check_power ["tree", "depth"] f fd
  Reading_init : ∃ f fd, Fun K "__init__" "Reading.__init__" s_Reading_init f fd ∧ Mk K A.c_Reading f ∧ Binds K fd ["self", "box"] []
  Reading_part : ∃ f fd, Fun K "part" "Reading.part" s_Reading_part f fd ∧ Meth K A.c_Reading "part" f ∧ Binds K fd ["self", "most"] []
  Reading_took : ∃ f fd, Fun K "took" "Reading.took" s_Reading_took f fd ∧ Meth K A.c_Reading "took" f ∧ Binds K fd ["self"] []
  reader : ∃ f fd, DefAt K mg "reader" s_reader ["tree"] f fd
  box_of : ∃ f fd, DefAt K mg "box_of" s_box_of ["tree"] f fd
  power_box : ∃ f fd, DefAt K mg "power_box" s_power_box ["tree", "times"] f fd
  law_row : ∃ f fd, DefAt K mg "_law_row" s_law_row ["_law_script"] f fd
  law_taken : ∃ f fd, DefAt K mg "_law_taken" s_law_taken ["_law_row_here", "_law_many"] f fd
  law_whole : ∃ f fd, DefAt K mg "_law_whole" s_law_whole ["_law_found"] f fd
  law_signed : ∃ f fd, DefAt K mg "_law_signed" s_law_signed ["_law_row_here", "_law_most"] f fd
  law_ruled : ∃ f fd, DefAt K mg "_law_ruled" s_law_ruled ["_law_row_here"] f fd
  law_turns : ∃ f fd, DefAt K mg "_law_turns" s_law_turns ["_law_tree", "_law_many"] f fd
  law_four : ∃ f fd, DefAt K mg "_law_four" s_law_four ["_law_row_here"] f fd
  law_eight : ∃ f fd, DefAt K mg "_law_eight" s_law_eight ["_law_row_here"] f fd
  law_corners : ∃ f fd, DefAt K mg "_law_corners" s_law_corners ["_law_numbers"] f fd
  law_sure : ∃ f fd, DefAt K mg "_law_sure" s_law_sure ["_law_corners_here"] f fd
  law_moved : ∃ f fd, DefAt K mg "_law_moved" s_law_moved ["_law_numbers", "_law_which", "_law_part"] f fd
  law_ended : ∃ f fd, DefAt K mg "_law_ended" s_law_ended ["_law_m", "_law_which"] f fd
  law_rest : ∃ f fd, DefAt K mg "_law_rest" s_law_rest ["_law_m"] f fd
  law_step : ∃ f fd, DefAt K mg "_law_step" s_law_step ["_law_m", "_law_chains", "_law_may"] f fd
  law : ∃ f fd, DefAt K mg "law" s_law ["_law_script"] f fd

/-! ### the leaves: what they are, in plain Lean -/
inductive Chain where
  | frac (t b : Int)
  | root (t s b r : Int)
  | ruled (ps ring steps : List Int) (i : Nat)
def Chain.ended : Chain → Bool
  | .frac _ b => decide (b = 0)
  | .root _ _ _ _ => false
  | .ruled ps ring _ i => decide (ring = []) && decide (ps.length ≤ i)
def ruledAt (ps ring steps : List Int) (i : Nat) : Int :=
  if i < ps.length then ps.getD i 0 else ring.getD ((i - ps.length) % ring.length) 0 + (((i - ps.length) / ring.length : Nat) : Int) * steps.getD ((i - ps.length) % ring.length) 0
def rootPart (t b r : Int) : Int := (t + r + (if b < 0 then 1 else 0)).fdiv b
def Chain.part : Chain → Int
  | .frac t b => t.fdiv b
  | .root t _ b r => rootPart t b r
  | .ruled ps ring steps i => ruledAt ps ring steps i
def Chain.next : Chain → Chain
  | .frac t b => .frac b (t.fmod b)
  | .root t s b r => .root (rootPart t b r * b - t) s ((s - (rootPart t b r * b - t) * (rootPart t b r * b - t)).fdiv b) r
  | .ruled ps ring steps i => .ruled ps ring steps (i + 1)
/-- numbers of a root's chain, bounded for good -/
structure RootOk (t s b r : Int) : Prop where
  rt : IsRoot s r
  ns : r * r ≠ s
  nz : b ≠ 0
  dv : ∃ q, s - t * t = q * b
  sw : s < 2 ^ 400
  bn : b < 0 → -b ≤ 2 ^ 150
  bp : 0 < b → b ≤ 2 * r + 1 + 2 ^ 150
  tw : t.natAbs < 2 ^ 300
def tame (z : Int) : Prop := -1000000000000 ≤ z ∧ z ≤ 1000000000000
structure RuledOk (ps ring steps : List Int) : Prop where
  p1 : ps ≠ []
  p12 : ps.length ≤ 12
  r12 : ring.length ≤ 12
  same : steps.length = ring.length
  tp : ∀ z ∈ ps, tame z
  tr : ∀ z ∈ ring, tame z
  ts : ∀ z ∈ steps, tame z
def Chain.Ok : Chain → Prop
  | .frac t b => small t ∧ small b
  | .root t s b r => RootOk t s b r
  | .ruled ps ring steps _ => RuledOk ps ring steps
/-! ### what stands in the heap -/
abbrev Flds := List (Str × V)
def chF (t b : Int) : Flds := [("top", .int t), ("below", .int b)]
def rtF (t s b r : Int) : Flds := [("top", .int t), ("square", .int s), ("below", .int b), ("root", .int r)]
def ruF (p q u : Addr) (i : Nat) : Flds := [("parts", .ref p), ("ring", .ref q), ("steps", .ref u), ("at", .int i)]
def meF (l s : Int) : Flds := [("left", .int l), ("spent", .int s)]
def leF (c : Addr) : Flds := [("chain", .ref c)]
def reF (b m : Addr) : Flds := [("box", .ref b), ("meter", .ref m)]
def Chain.At (A : Ad) (K : PySem.W.Frag) (H : Hp) (a : Addr) : Chain → Prop
  | .frac t b => ∃ dx, H a = some (.ins A.c_FractionChain dx (chF t b))
  | .root t s b r => ∃ dx, H a = some (.ins A.c_RootChain dx (rtF t s b r))
  | .ruled ps ring steps i => ∃ dx p q u, H a = some (.ins A.c_RuledChain dx (ruF p q u i)) ∧ SqT K H p (ps.map V.int) ∧ SqT K H q (ring.map V.int) ∧ SqT K H u (steps.map V.int)
def MeterAt (A : Ad) (H : Hp) (m : Addr) (l s : Int) : Prop := ∃ dx, H m = some (.ins A.c_Meter dx (meF l s))
/-- a tuple stays one where all that was tracked but some instances and lists stays -/
theorem sqT_but {K : PySem.W.Frag} {H H' : Hp} {a : Addr} {xs : List V} {N : Addr → Prop} (h : SqT K H a xs) (k : ∀ b o, H b = some o → ¬ N b → H' b = some o) (hN : ∀ b o, N b → H b = some o → (∀ ys, o ≠ .tup ys) ∧ ∀ ob u, o ≠ .frz ob u) : SqT K H' a xs := by
  rcases h with (h | ⟨o, h⟩) | h
  · exact .inl (.inl (k _ _ h fun z => (hN _ _ z h).1 _ rfl))
  · exact .inl (.inr ⟨o, k _ _ h fun z => (hN _ _ z h).2 _ _ rfl⟩)
  · exact .inr h
theorem sqT_same {K : PySem.W.Frag} {H H' : Hp} {a : Addr} {xs : List V} (h : SqT K H a xs) (k : Same H H') : SqT K H' a xs := by
  rcases h with (h | ⟨o, h⟩) | h
  · exact .inl (.inl (k _ _ h))
  · exact .inl (.inr ⟨o, k _ _ h⟩)
  · exact .inr h
theorem sqT_ins {K : PySem.W.Frag} {H : Hp} {a b C dx : Addr} {xs : List V} {fs : Flds} {o : HO} (h : SqT K H a xs) (hb : H b = some (.ins C dx fs)) : SqT K (upd H b o) a xs :=
  sqT_but (N := fun c => c = b) h (fun c u e n => by rw [upd_ne n]; exact e) fun c u e z => by
    subst e
    rw [hb] at z
    cases z
    exact ⟨fun _ q => (by cases q), fun _ _ q => (by cases q)⟩
/-- a maker that lays its arguments down -/
def sp_ini (C : Addr) (n : Nat) (mk : List V → Flds) : Sp := fun vs H Q _ => ∃ (p dx : Addr) (us : List V), vs = .ref p :: us ∧ us.length = n ∧ H p = some (.ins C dx []) ∧ Q .non (upd H p (.ins C dx (mk us)))
section
variable {P : Program} {w : World} {K : PySem.W.Frag} {mg : Str → Option Value} {base : Heap} {A : Ad}
theorem ok_FractionChain_init (T : CT K mg A) (D : DT K mg A) : IOk P w K mg base 1 "FractionChain" A.c_FractionChain ["self", "top", "below"] (sp_ini A.c_FractionChain 2 fun us => [("top", us.getD 0 .non), ("below", us.getD 1 .non)]) := by
  refine IOk.of T.g_FractionChain D.FractionChain_init fun f fd F => ?_
  refine F.ok sc_FractionChain_init (fun vs H Q E h => ?_) (fun cdv Ar outer s H vs Q E hr h => ?_)
  · obtain ⟨p, dx, us, rfl, hl, _⟩ := h
    show us.length + 1 = 3
    omega
  · obtain ⟨p, dx, us, rfl, hl, hp, k⟩ := h
    match us, hl with
    | [u0, u1], _ =>
      refine ⟨_, (pss_cons (ps_fld (pv 0) (pv 1) rfl)
    (pss_one (ps_fld (pv 0) (pv 2) rfl))), ?_⟩
      refine ⟨_, rfl, _, rfl, p, _, dx, [], rfl, hp, T.cl_FractionChain, T.n_FractionChain_top, (by show 0 < 1000; decide), ?_⟩
      refine ⟨_, rfl, _, rfl, p, _, dx, _, rfl, upd_same, T.cl_FractionChain, T.n_FractionChain_below, (by show 1 < 1000; decide), ?_⟩
      refine cast (congrArg (Q V.non) ?_) k
      rw [upd_upd]
      rfl
theorem ok_FractionChain_has_ended (T : CT K mg A) (D : DT K mg A) : MOk P w K mg base CX0 1 A.c_FractionChain "has_ended" ["self"] (fun vs H Q _ => ∃ a t b, vs = [.ref a] ∧ Chain.At A K H a (.frac t b) ∧ Q (.bl (decide (b = 0))) H) := by
  refine MOk.of T.cl_FractionChain D.FractionChain_has_ended fun f fd F => ?_
  refine F.ok sc_FractionChain_has_ended (fun vs H Q E h => ?_) (fun cdv Ar outer s H vs Q E hr h => ?_)
  · obtain ⟨a, t, b, rfl, _⟩ := h
    rfl
  · obtain ⟨a, t, b, rfl, ⟨dx, ha⟩, k⟩ := h
    refine ⟨_, (pss_one (ps_ret (pe_cmpR op_eq (pe_fld (pv 0) rfl) pe_int (nomark _)))), ?_⟩
    refine ⟨_, rfl, a, _, dx, _, _, rfl, ha, T.cl_FractionChain, T.n_FractionChain_below, rfl, rfl, ?_⟩
    show Q (.bl (decide (V.int b = V.int 0))) H
    rw [dec_int]
    exact cast (congrArg (fun z => Q (V.bl z) H) (by rw [Bool.beq_eq_decide_eq])) k
theorem ok_FractionChain_next_part (T : CT K mg A) (D : DT K mg A) : MOk P w K mg base CX0 1 A.c_FractionChain "next_part" ["self"] (fun vs H Q _ => ∃ a t b, vs = [.ref a] ∧ Chain.At A K H a (.frac t b) ∧ b ≠ 0 ∧ small t ∧ small b ∧
    ∀ H', Chain.At A K H' a (.frac b (t.fmod b)) → (∀ c o, H c = some o → c ≠ a → H' c = some o) → Q (.int (t.fdiv b)) H') := by
  refine MOk.of T.cl_FractionChain D.FractionChain_next_part fun f fd F => ?_
  refine F.ok sc_FractionChain_next_part (fun vs H Q E h => ?_) (fun cdv Ar outer s H vs Q E hr h => ?_)
  · obtain ⟨a, t, b, rfl, _⟩ := h
    rfl
  · obtain ⟨a, t, b, rfl, ⟨dx, ha⟩, hb, st, sb, k⟩ := h
    refine ⟨_, (pss_cons (ps_set (i := 1) sc_FractionChain_next_part.nd rfl (Or.inl rfl) (pe_op op_fdivS (pe_fld (pv 0) rfl) (pe_fld (pv 0) rfl)))
    (pss_cons (ps_asg (pe_tup (pa_cons (pe_fld (pv 0) rfl) (pa_cons (pe_op op_sub (pe_fld (pv 0) rfl) (pe_op op_mulW (pv 1) (pe_fld (pv 0) rfl))) pa_nil))) (pg_tup rfl (pgs_cons (pg_fld (pv 0)) (pgs_cons (pg_fld (pv 0)) pgs_nil))))
    (pss_one (ps_ret (pv 1))))), ?_⟩
    have cl := T.cl_FractionChain
    refine ⟨_, rfl, a, _, dx, _, _, rfl, ha, cl, T.n_FractionChain_top, rfl, _, rfl, a, _, dx, _, _, rfl, ha, cl, T.n_FractionChain_below, rfl, _, _, rfl, rfl, small_fdiv sb hb _, ?_⟩
    refine ⟨_, rfl, a, _, dx, _, _, rfl, ha, cl, T.n_FractionChain_below, rfl, _, rfl, a, _, dx, _, _, rfl, ha, cl, T.n_FractionChain_top, rfl, _, rfl, _, rfl, a, _, dx, _, _, rfl, ha, cl, T.n_FractionChain_below, rfl, _, _, rfl, rfl, small_mul (small_fd st hb) sb, _, _, rfl, rfl, ?_⟩
    refine ⟨(by show 2 ≤ sizeLine; decide), fun q nq => ?_⟩
    have s1 := same_upd (o := .tup [V.int b, .int (t - t.fdiv b * b)]) nq
    refine ⟨q, _, rfl, SqT.of upd_same, rfl, _, _, rfl, _, rfl, a, _, dx, _, rfl, s1 _ _ ha, cl, T.n_FractionChain_top, (by show 2 < 1000; decide), ?_⟩
    refine ⟨_, _, rfl, _, rfl, a, _, dx, _, rfl, upd_same, cl, T.n_FractionChain_below, (by show 2 < 1000; decide), rfl, ?_⟩
    refine ⟨_, rfl, k _ ⟨dx, ?_⟩ fun c o e hc => ?_⟩
    · rw [upd_same, ← fmod_eq t b]
      rfl
    · rw [upd_ne hc, upd_ne hc]
      exact s1 _ _ e
end
/-! ### a root's chain stays within its bounds -/
theorem IsRoot.abs {s t : Int} (h : t * t = s) : IsRoot s t.natAbs := by
  have e : (t.natAbs : Int) * t.natAbs = s := by rw [← h]; exact Int.natAbs_mul_self
  refine ⟨by omega, by omega, ?_⟩
  have e2 : ((t.natAbs : Int) + 1) * ((t.natAbs : Int) + 1) = t.natAbs * t.natAbs + 2 * t.natAbs + 1 := by grind
  omega
theorem lt_of_sq {r n : Int} {k : Nat} (h0 : 0 ≤ r) (h : r * r ≤ n) (hn : n < 2 ^ (k + k)) : r < 2 ^ k := by
  rcases Int.lt_or_le r (2 ^ k) with z | z
  · exact z
  · exfalso
    have h1 := Int.mul_le_mul z z (Int.le_of_lt (Int.pow_pos (by decide))) h0
    rw [← Int.pow_add] at h1
    omega
/-- x b < y b, b above nought -/
theorem lt_of_mul {x y b : Int} (hb : 0 < b) (h : x * b < y * b) : x < y := by
  rcases Int.lt_or_le x y with z | z
  · exact z
  · have := Int.mul_le_mul_of_nonneg_right z (Int.le_of_lt hb)
    omega
theorem le_of_mul {x y b : Int} (hb : 0 < b) (h : x * b ≤ y * b) : x ≤ y := by
  rcases Int.lt_or_le y x with z | z
  · have := Int.mul_le_mul_of_nonneg_right (show y + 1 ≤ x from z) (Int.le_of_lt hb)
    have e : (y + 1) * b = y * b + b := by grind
    omega
  · exact z
theorem root_step {t s b r a : Int} (h : RootOk t s b r) (ha : a = rootPart t b r) :
    (0 < b → a * b - t ≤ r ∧ r + 1 ≤ a * b - t + b) ∧ (b < 0 → r + 1 ≤ a * b - t ∧ a * b - t ≤ r - b) := by
  subst ha
  refine ⟨fun hb => ?_, fun hb => ?_⟩
  · have e := fdm (t + r + 0) b
    have := fmod_pos (a := t + r + 0) hb
    unfold rootPart
    rw [if_neg (by omega), Int.mul_comm]
    omega
  · have e := fdm (t + r + 1) b
    have := fmod_neg (a := t + r + 1) hb
    unfold rootPart
    rw [if_pos hb, Int.mul_comm]
    omega
theorem root_next {t s b r : Int} (h : RootOk t s b r) : RootOk (rootPart t b r * b - t) s ((s - (rootPart t b r * b - t) * (rootPart t b r * b - t)).fdiv b) r := by
  obtain ⟨sp, sn⟩ := root_step h rfl
  obtain ⟨rt, ns, nz, ⟨q, hq⟩, sw, bn, bp, tw⟩ := h
  generalize rootPart t b r = a at *
  obtain ⟨r0, r1, r2⟩ := rt
  have hr : r < 2 ^ 200 := lt_of_sq r0 r1 sw
  have p150 : (2 : Int) ^ 150 = 1427247692705959881058285969449495136382746624 := by decide
  have p200 : (2 : Int) ^ 200 = 1606938044258990275541962092341162602522202993782792835301376 := by decide
  have p300 : (2 : Nat) ^ 300 = 2037035976334486086268445688409378161051468393665936250636140449354381299763336706183397376 := by decide
  have hd : s - (a * b - t) * (a * b - t) = (q - a * (a * b - 2 * t)) * b := by
    have e : s - (a * b - t) * (a * b - t) = (s - t * t) - (a * (a * b - 2 * t)) * b := by grind
    rw [e, hq]
    grind
  have e2 : (s - (a * b - t) * (a * b - t)).fdiv b = q - a * (a * b - 2 * t) := by
    rw [hd]
    exact Int.mul_fdiv_cancel _ nz
  rw [e2]
  generalize q - a * (a * b - 2 * t) = c at *
  generalize a * b - t = u at *
  have ex : (r + 1) * (r + 1) = r * r + 2 * r + 1 := by grind
  have c0 : c ≠ 0 := fun z => by
    rw [z, Int.zero_mul] at hd
    have e : u * u = s := by omega
    have hu := (IsRoot.abs e).unique ⟨r0, r1, r2⟩
    have : (u.natAbs : Int) * u.natAbs = u * u := Int.natAbs_mul_self
    rw [hu] at this
    omega
  refine ⟨⟨r0, r1, r2⟩, ns, c0, ⟨b, by rw [hd, Int.mul_comm]⟩, sw, ?_, ?_, ?_⟩
  · intro hc
    rcases Int.lt_or_gt_of_ne nz with hb | hb
    · exfalso
      obtain ⟨u1, u2⟩ := sn hb
      have k1 := Int.mul_nonneg_of_nonpos_of_nonpos (Int.le_of_lt hc) (Int.le_of_lt hb)
      have k2 := Int.mul_le_mul u1 u1 (by omega) (by omega)
      omega
    · obtain ⟨u1, u2⟩ := sp hb
      have hu : u ≤ -r - 1 := by
        rcases Int.lt_or_le u (-r) with z | z
        · omega
        · exfalso
          have k1 : u * u ≤ r * r := by
            have := Int.mul_nonneg (show 0 ≤ r - u by omega) (show 0 ≤ r + u by omega)
            have e : (r - u) * (r + u) = r * r - u * u := by grind
            omega
          have k2 := Int.mul_nonneg (show 0 ≤ -c - 1 by omega) (Int.le_of_lt hb)
          have e3 : (-c - 1) * b = -(c * b) - b := by grind
          omega
      have k3 : (-c) * b ≤ (-u - r) * b := by
        have k4 := Int.mul_le_mul_of_nonneg_left (show -u + r ≤ b by omega) (show 0 ≤ -u - r by omega)
        have e4 : (-u - r) * (-u + r) = u * u - r * r := by grind
        have e5 : -c * b = -(c * b) := by grind
        omega
      have k5 := le_of_mul hb k3
      have := bp hb
      omega
  · intro hc
    rcases Int.lt_or_gt_of_ne nz with hb | hb
    · obtain ⟨u1, u2⟩ := sn hb
      have k3 : c * (-b) ≤ (u + r) * (-b) := by
        have k4 := Int.mul_le_mul_of_nonneg_left (show u - r ≤ -b by omega) (show 0 ≤ u + r by omega)
        have e4 : (u + r) * (u - r) = u * u - r * r := by grind
        have e5 : c * -b = -(c * b) := by grind
        omega
      have k5 := le_of_mul (show 0 < -b by omega) k3
      have := bn hb
      omega
    · obtain ⟨u1, u2⟩ := sp hb
      have hu : -r ≤ u := by
        rcases Int.lt_or_le u (-r) with z | z
        · exfalso
          have k1 := Int.mul_le_mul (show r + 1 ≤ -u by omega) (show r + 1 ≤ -u by omega) (by omega) (by omega)
          have e : -u * -u = u * u := by grind
          have k2 := Int.mul_nonneg (Int.le_of_lt hc) (Int.le_of_lt hb)
          omega
        · exact z
      have k3 : c * b < (r + 1 + u) * b := by
        have k4 := Int.mul_le_mul_of_nonneg_left (show r + 1 - u ≤ b by omega) (show 0 ≤ r + 1 + u by omega)
        have e4 : (r + 1 + u) * (r + 1 - u) = (r + 1) * (r + 1) - u * u := by grind
        omega
      have k5 := lt_of_mul hb k3
      omega
  · rcases Int.lt_or_gt_of_ne nz with hb | hb
    · obtain ⟨u1, u2⟩ := sn hb
      have := bn hb
      omega
    · obtain ⟨u1, u2⟩ := sp hb
      have := bp hb
      omega
theorem dvd_of_sq {w r s : Int} (hw : w ≠ 0) (h : r * r = s * (w * w)) : ∃ k, r = k * w := by
  have h1 : w ^ 2 ∣ r ^ 2 := ⟨s, by
    have e1 : r ^ 2 = r * r := by grind
    have e2 : w ^ 2 = w * w := by grind
    rw [e1, e2, h, Int.mul_comm]⟩
  have h2 : w ∣ r := (Int.pow_dvd_pow_iff (by decide)).mp h1
  obtain ⟨k, hk⟩ := h2
  exact ⟨k, by rw [hk, Int.mul_comm]⟩
/-- a root's first numbers, widened -/
theorem root_first {t s b r q : Int} (ht : tame t) (hs0 : 0 ≤ s) (hs : s ≤ 1000000000000) (hb : tame b) (h0 : b ≠ 0) (hr : IsRoot s r) (hn : r * r ≠ s) (hq : IsRoot (s * (b.natAbs : Int) * (b.natAbs : Int)) q) :
    RootOk (t * (b.natAbs : Int)) (s * (b.natAbs : Int) * (b.natAbs : Int)) (b * (b.natAbs : Int)) q := by
  obtain ⟨t1, t2⟩ := ht
  obtain ⟨b1, b2⟩ := hb
  have w0 : (0 : Int) < b.natAbs := by omega
  have w1 : (b.natAbs : Int) ≤ 1000000000000 := by omega
  have hbw : b = b.natAbs ∨ b = -(b.natAbs : Int) := by omega
  generalize (b.natAbs : Int) = w at *
  have ww : w * w ≤ 1000000000000 * 1000000000000 := Int.mul_le_mul w1 w1 (by omega) (by decide)
  have ww0 : 0 < w * w := Int.mul_pos w0 w0
  have sww : s * w * w ≤ 1000000000000 * (1000000000000 * 1000000000000) := by
    rw [Int.mul_assoc]
    exact Int.mul_le_mul hs ww (by omega) (by decide)
  have p150 : (2 : Int) ^ 150 = 1427247692705959881058285969449495136382746624 := by decide
  refine ⟨hq, fun z => ?_, ?_, ?_, Int.lt_of_le_of_lt sww (by decide +kernel), ?_, ?_, ?_⟩
  · obtain ⟨k, hk⟩ := dvd_of_sq (w := w) (r := q) (s := s) (by omega) (by rw [z, Int.mul_assoc])
    have e : k * k = s := by
      have e1 : (k * k - s) * (w * w) = 0 := by
        have : q * q = s * w * w := z
        rw [hk] at this
        grind
      rcases Int.mul_eq_zero.mp e1 with y | y <;> omega
    have hk2 := (IsRoot.abs e).unique hr
    have : (k.natAbs : Int) * k.natAbs = k * k := Int.natAbs_mul_self
    rw [hk2] at this
    omega
  · rcases hbw with e | e <;> rw [e]
    · omega
    · intro z
      have : -w * w = -(w * w) := by grind
      omega
  · rcases hbw with e | e <;> rw [e]
    · exact ⟨s - t * t, by grind⟩
    · exact ⟨-(s - t * t), by grind⟩
  · intro z
    have : -(b * w) ≤ w * w := by
      rcases hbw with e | e <;> rw [e]
      · omega
      · have : -w * w = -(w * w) := by grind
        omega
    omega
  · intro z
    have : b * w ≤ w * w := by
      rcases hbw with e | e <;> rw [e]
      · exact Int.le_refl _
      · have : -w * w = -(w * w) := by grind
        omega
    have := hq.1
    omega
  · rw [Int.natAbs_mul]
    have : t.natAbs * w.natAbs ≤ 1000000000000 * 1000000000000 := Nat.mul_le_mul (by omega) (by omega)
    exact Nat.lt_of_le_of_lt this (by decide +kernel)
section
variable {P : Program} {w : World} {K : PySem.W.Frag} {mg : Str → Option Value} {base : Heap} {A : Ad}
theorem root_small {t s b r : Int} (h : RootOk t s b r) : small t ∧ small b ∧ small r ∧ small s ∧ small (t + r + (if b < 0 then 1 else 0)) ∧ small (rootPart t b r) ∧ small (rootPart t b r * b - t) := by
  have n := root_next h
  obtain ⟨⟨r0, r1, r2⟩, ns, nz, dv, sw, bn, bp, tw⟩ := h
  have hr : r < 2 ^ 200 := lt_of_sq r0 r1 sw
  have p150 : (2 : Int) ^ 150 = 1427247692705959881058285969449495136382746624 := by decide
  have p200 : (2 : Int) ^ 200 = 1606938044258990275541962092341162602522202993782792835301376 := by decide
  have p300 : (2 : Nat) ^ 300 = 2037035976334486086268445688409378161051468393665936250636140449354381299763336706183397376 := by decide
  have up : ∀ z : Int, z.natAbs < 2 ^ 302 → small z := fun z hz => Nat.lt_trans hz (Nat.pow_lt_pow_right (by decide) (by decide))
  have p302 : (2 : Nat) ^ 302 = 4 * 2 ^ 300 := by decide
  have st : (t + r + (if b < 0 then 1 else 0)).natAbs < 2 ^ 302 := by split <;> omega
  have hs0 : 0 ≤ s := Int.le_trans (sq_nonneg r) r1
  refine ⟨up _ (by omega), up _ ?_, up _ (by omega), ?_, up _ st, ?_, up _ (by have := n.tw; omega)⟩
  · rcases Int.lt_or_gt_of_ne nz with z | z
    · have := bn z; omega
    · have := bp z; omega
  · exact Nat.lt_trans (natAbs_lt_pow hs0 sw) (Nat.pow_lt_pow_right (by decide) (by decide))
  · exact Nat.lt_of_le_of_lt (fdiv_abs nz) (up _ st)
def sp_RootChain_init (A : Ad) : Sp := fun vs H Q _ => ∃ (p dx : Addr) (t s b : Int), vs = [.ref p, .int t, .int s, .int b] ∧ H p = some (.ins A.c_RootChain dx []) ∧ tame t ∧ 0 ≤ s ∧ s ≤ 1000000000000 ∧ tame b ∧ b ≠ 0 ∧ (∀ r, IsRoot s r → r * r ≠ s) ∧
  ∀ q, RootOk (t * (b.natAbs : Int)) (s * (b.natAbs : Int) * (b.natAbs : Int)) (b * (b.natAbs : Int)) q → Q .non (upd H p (.ins A.c_RootChain dx (rtF (t * (b.natAbs : Int)) (s * (b.natAbs : Int) * (b.natAbs : Int)) (b * (b.natAbs : Int)) q)))
theorem small_tame {z : Int} (h : tame z) : small z := by
  obtain ⟨h1, h2⟩ := h
  have p40 : (2 : Nat) ^ 40 = 1099511627776 := by decide
  exact Nat.lt_trans (show z.natAbs < 2 ^ 40 by omega) (Nat.pow_lt_pow_right (by decide) (by decide))
theorem ok_RootChain_init (T : CT K mg A) (D : DT K mg A) (G_root_below : COk P w K mg base CX0 1 "root_below" ["number"] sp_root_below) (hroot : ∀ s : Int, 0 ≤ s → ∃ r, IsRoot s r) : IOk P w K mg base 2 "RootChain" A.c_RootChain ["self", "top", "square", "below"] (sp_RootChain_init A) := by
  refine IOk.of T.g_RootChain D.RootChain_init fun f fd F => ?_
  refine F.ok sc_RootChain_init (fun vs H Q E h => ?_) (fun cdv Ar outer s H vs Q E hr h => ?_)
  · obtain ⟨p, dx, t, s, b, rfl, _⟩ := h
    rfl
  · obtain ⟨p, dx, t, sq, b, rfl, hp, ht, hs0, hs1, hb, hb0, hns, k⟩ := h
    refine ⟨_, (pss_cons (ps_set (i := 4) sc_RootChain_init.nd rfl (Or.inl rfl) (pe_callB call_abs (by rfl) T.b_abs (by decide +kernel) (pa_cons (pv 3) pa_nil)))
    (pss_cons (ps_fld (pv 0) (pe_op op_mul (pv 1) (pv 4)) rfl)
    (pss_cons (ps_fld (pv 0) (pe_op op_mul (pe_op op_mul (pv 2) (pv 4)) (pv 4)) rfl)
    (pss_cons (ps_fld (pv 0) (pe_op op_mul (pv 3) (pv 4)) rfl)
    (pss_one (ps_fld (pv 0) (pe_c G_root_below (hr.mono (by first | decide | omega)) (pa_cons (pe_fld (pv 0) rfl) pa_nil)) rfl)))))), ?_⟩
    have cl := T.cl_RootChain
    have ew : (if b < 0 then -b else b) = (b.natAbs : Int) := by split <;> omega
    obtain ⟨b1, b2⟩ := id hb
    obtain ⟨t1, t2⟩ := id ht
    have w64 : -(2 ^ 64) < ((b.natAbs : Int)) ∧ ((b.natAbs : Int)) < 2 ^ 64 := by
      have : (2 : Int) ^ 64 = 18446744073709551616 := by decide
      omega
    refine ⟨_, rfl, b, rfl, ?_⟩
    show tSeq _ _ _ [some (V.ref p), some (V.int t), some (V.int sq), some (V.int b), some (V.int (if b < 0 then -b else b))] H
    rw [ew]
    refine ⟨_, rfl, _, rfl, _, _, rfl, rfl, .inr w64, _, rfl, p, _, dx, [], rfl, hp, cl, T.n_RootChain_top, (by show 0 < 1000; decide), ?_⟩
    refine ⟨_, rfl, _, rfl, _, _, rfl, rfl, .inr w64, _, rfl, _, _, rfl, rfl, .inr w64, _, rfl, p, _, dx, _, rfl, upd_same, cl, T.n_RootChain_square, (by show 1 < 1000; decide), ?_⟩
    refine ⟨_, rfl, _, rfl, _, _, rfl, rfl, .inr w64, _, rfl, p, _, dx, _, rfl, upd_same, cl, T.n_RootChain_below, (by show 2 < 1000; decide), ?_⟩
    have w1 : (b.natAbs : Int) ≤ 1000000000000 := by omega
    have ww : (b.natAbs : Int) * b.natAbs ≤ 1000000000000 * 1000000000000 := Int.mul_le_mul w1 w1 (by omega) (by decide)
    have ww0 : 0 ≤ (b.natAbs : Int) * b.natAbs := Int.mul_nonneg (by omega) (by omega)
    have sww : sq * (b.natAbs : Int) * b.natAbs ≤ 1000000000000 * (1000000000000 * 1000000000000) := by
      rw [Int.mul_assoc]
      exact Int.mul_le_mul hs1 ww ww0 (by decide)
    have sw0 : 0 ≤ sq * (b.natAbs : Int) * b.natAbs := by rw [Int.mul_assoc]; exact Int.mul_nonneg hs0 ww0
    refine ⟨_, rfl, p, _, dx, _, _, rfl, upd_same, cl, T.n_RootChain_square, rfl, _, rfl, sw0, Int.lt_of_le_of_lt sww (by decide +kernel), fun q hq => ?_⟩
    refine ⟨_, rfl, p, _, dx, _, rfl, upd_same, cl, T.n_RootChain_root, (by show 3 < 1000; decide), ?_⟩
    obtain ⟨r, hr0⟩ := hroot sq hs0
    refine cast (congrArg (Q V.non) ?_) (k q (root_first ht hs0 hs1 hb hb0 hr0 (hns r hr0) hq))
    rw [upd_upd, upd_upd, upd_upd]
    rfl
theorem ok_RootChain_has_ended (T : CT K mg A) (D : DT K mg A) : MOk P w K mg base CX0 1 A.c_RootChain "has_ended" ["self"] (fun vs H Q _ => ∃ a, vs = [.ref a] ∧ Q (.bl false) H) := by
  refine MOk.of T.cl_RootChain D.RootChain_has_ended fun f fd F => ?_
  refine F.ok sc_RootChain_has_ended (fun vs H Q E h => ?_) (fun cdv Ar outer s H vs Q E hr h => ?_)
  · obtain ⟨a, rfl, _⟩ := h
    rfl
  · obtain ⟨a, rfl, k⟩ := h
    exact ⟨_, (pss_one (ps_ret pe_bl)), k⟩
theorem ok_RootChain_next_part (T : CT K mg A) (D : DT K mg A) : MOk P w K mg base CX0 1 A.c_RootChain "next_part" ["self"] (fun vs H Q _ => ∃ a t s b r, vs = [.ref a] ∧ Chain.At A K H a (.root t s b r) ∧ RootOk t s b r ∧
    ∀ H', Chain.At A K H' a (Chain.next (.root t s b r)) → (∀ c o, H c = some o → c ≠ a → H' c = some o) → Q (.int (rootPart t b r)) H') := by
  refine MOk.of T.cl_RootChain D.RootChain_next_part fun f fd F => ?_
  refine F.ok sc_RootChain_next_part (fun vs H Q E h => ?_) (fun cdv Ar outer s H vs Q E hr h => ?_)
  · obtain ⟨a, t, s, b, r, rfl, _⟩ := h
    rfl
  · obtain ⟨a, t, sq, b, r, rfl, ⟨dx, ha⟩, ok, k⟩ := h
    refine ⟨_, (pss_cons (ps_set (i := 1) sc_RootChain_next_part.nd rfl (Or.inl rfl) (pe_ifExp (pt_cmpR op_lt (pe_fld (pv 0) rfl) pe_int (nomark _)) pe_int pe_int))
    (pss_cons (ps_set (i := 2) sc_RootChain_next_part.nd rfl (Or.inl rfl) (pe_op op_fdivS (pe_op op_add (pe_op op_add (pe_fld (pv 0) rfl) (pe_fld (pv 0) rfl)) (pv 1)) (pe_fld (pv 0) rfl)))
    (pss_cons (ps_fld (pv 0) (pe_op op_sub (pe_op op_mulW (pv 2) (pe_fld (pv 0) rfl)) (pe_fld (pv 0) rfl)) rfl)
    (pss_cons (ps_fld (pv 0) (pe_op op_fdivS (pe_op op_sub (pe_fld (pv 0) rfl) (pe_op op_mulW (pe_fld (pv 0) rfl) (pe_fld (pv 0) rfl))) (pe_fld (pv 0) rfl)) rfl)
    (pss_one (ps_ret (pv 2))))))), ?_⟩
    have cl := T.cl_RootChain
    obtain ⟨st, sb, sr, ss, sx, sp, su⟩ := root_small ok
    have nz := ok.nz
    refine ⟨_, rfl, a, _, dx, _, _, rfl, ha, cl, T.n_RootChain_below, rfl, _, _, rfl, rfl, _, rfl, ?_⟩
    have up : ∀ {Z : Int → Prop}, Z (if b < 0 then 1 else 0) → (if decide (b < 0) = true then Z 1 else Z 0) := fun {Z} hz => by
      by_cases c : b < 0
      · rw [decide_eq_true c, if_pos rfl]; rw [if_pos c] at hz; exact hz
      · rw [decide_eq_false c, if_neg (by decide)]; rw [if_neg c] at hz; exact hz
    refine up (Z := fun e => tSeq _ _ _ [some (V.ref a), some (V.int e), none] H) ?_
    refine ⟨_, rfl, a, _, dx, _, _, rfl, ha, cl, T.n_RootChain_top, rfl, _, rfl, a, _, dx, _, _, rfl, ha, cl, T.n_RootChain_root, rfl, _, _, rfl, rfl, _, rfl, _, _, rfl, rfl, _, rfl, a, _, dx, _, _, rfl, ha, cl, T.n_RootChain_below, rfl, _, _, rfl, rfl, small_fdiv sb nz _, ?_⟩
    refine ⟨_, rfl, _, rfl, a, _, dx, _, _, rfl, ha, cl, T.n_RootChain_below, rfl, _, _, rfl, rfl, small_mul sp sb, _, rfl, a, _, dx, _, _, rfl, ha, cl, T.n_RootChain_top, rfl, _, _, rfl, rfl, _, rfl, a, _, dx, _, rfl, ha, cl, T.n_RootChain_top, (by show 4 < 1000; decide), ?_⟩
    refine ⟨_, rfl, a, _, dx, _, _, rfl, upd_same, cl, T.n_RootChain_square, rfl, _, rfl, a, _, dx, _, _, rfl, upd_same, cl, T.n_RootChain_top, rfl, _, rfl, a, _, dx, _, _, rfl, upd_same, cl, T.n_RootChain_top, rfl, _, _, rfl, rfl, small_mul su su, _, _, rfl, rfl, _, rfl, a, _, dx, _, _, rfl, upd_same, cl, T.n_RootChain_below, rfl, _, _, rfl, rfl, small_fdiv sb nz _, _, rfl, a, _, dx, _, rfl, upd_same, cl, T.n_RootChain_below, (by show 4 < 1000; decide), ?_⟩
    refine ⟨_, rfl, k _ ⟨dx, ?_⟩ fun c o e hc => ?_⟩
    · rw [upd_same]
      rfl
    · rw [upd_ne hc, upd_ne hc]
      exact e
/-! ruled chains -/
theorem ok_RuledChain_init (T : CT K mg A) (D : DT K mg A) : IOk P w K mg base 1 "RuledChain" A.c_RuledChain ["self", "parts", "ring", "steps"] (sp_ini A.c_RuledChain 3 fun us => [("parts", us.getD 0 .non), ("ring", us.getD 1 .non), ("steps", us.getD 2 .non), ("at", .int 0)]) := by
  refine IOk.of T.g_RuledChain D.RuledChain_init fun f fd F => ?_
  refine F.ok sc_RuledChain_init (fun vs H Q E h => ?_) (fun cdv Ar outer s H vs Q E hr h => ?_)
  · obtain ⟨p, dx, us, rfl, hl, _⟩ := h
    show us.length + 1 = 4
    omega
  · obtain ⟨p, dx, us, rfl, hl, hp, k⟩ := h
    match us, hl with
    | [u0, u1, u2], _ =>
      refine ⟨_, (pss_cons (ps_fld (pv 0) (pv 1) rfl)
    (pss_cons (ps_fld (pv 0) (pv 2) rfl)
    (pss_cons (ps_fld (pv 0) (pv 3) rfl)
    (pss_one (ps_fld (pv 0) pe_int rfl))))), ?_⟩
      have cl := T.cl_RuledChain
      refine ⟨_, rfl, _, rfl, p, _, dx, [], rfl, hp, cl, T.n_RuledChain_parts, (by show 0 < 1000; decide), ?_⟩
      refine ⟨_, rfl, _, rfl, p, _, dx, _, rfl, upd_same, cl, T.n_RuledChain_ring, (by show 1 < 1000; decide), ?_⟩
      refine ⟨_, rfl, _, rfl, p, _, dx, _, rfl, upd_same, cl, T.n_RuledChain_steps, (by show 2 < 1000; decide), ?_⟩
      refine ⟨_, rfl, p, _, dx, _, rfl, upd_same, cl, T.n_RuledChain_at, (by show 3 < 1000; decide), ?_⟩
      refine cast (congrArg (Q V.non) ?_) k
      rw [upd_upd, upd_upd, upd_upd]
      rfl
theorem len_eq_nil {l : List Int} : decide (V.int (((l.map V.int).length : Nat) : Int) = V.int 0) = decide (l = []) := by
  cases l with
  | nil => rfl
  | cons x r =>
    rw [decide_eq_false (show ¬ (x :: r) = [] from List.cons_ne_nil _ _)]
    refine decide_eq_false fun z => ?_
    have := V.int.inj z
    rw [List.length_map, List.length_cons] at this
    omega
theorem ok_RuledChain_has_ended (T : CT K mg A) (D : DT K mg A) : MOk P w K mg base CX0 1 A.c_RuledChain "has_ended" ["self"] (fun vs H Q _ => ∃ a ps ring steps i, vs = [.ref a] ∧ Chain.At A K H a (.ruled ps ring steps i) ∧ Q (.bl (decide (ring = []) && decide (ps.length ≤ i))) H) := by
  refine MOk.of T.cl_RuledChain D.RuledChain_has_ended fun f fd F => ?_
  refine F.ok sc_RuledChain_has_ended (fun vs H Q E h => ?_) (fun cdv Ar outer s H vs Q E hr h => ?_)
  · obtain ⟨a, ps, ring, steps, i, rfl, _⟩ := h
    rfl
  · obtain ⟨a, ps, ring, steps, i, rfl, ⟨dx, p, q, u, ha, hp, hq, hu⟩, k⟩ := h
    refine ⟨_, (pss_one (ps_ret (pe_and (pe_cmpR op_eq (pe_callB call_len_seq (by rfl) T.b_len (by decide +kernel) (pa_cons (pe_fld (pv 0) rfl) pa_nil)) pe_int (nomark _)) (pe_one (pe_cmpR op_ge (pe_fld (pv 0) rfl) (pe_callB call_len_seq (by rfl) T.b_len (by decide +kernel) (pa_cons (pe_fld (pv 0) rfl) pa_nil)) (nomark _)))))), ?_⟩
    have cl := T.cl_RuledChain
    refine ⟨_, rfl, a, _, dx, _, _, rfl, ha, cl, T.n_RuledChain_ring, rfl, q, _, rfl, .inr hq, rfl, _, rfl, ?_⟩
    rw [len_eq_nil]
    by_cases c : ring = []
    · rw [decide_eq_true c] at k ⊢
      refine iteT ⟨_, rfl, a, _, dx, _, _, rfl, ha, cl, T.n_RuledChain_at, rfl, _, rfl, a, _, dx, _, _, rfl, ha, cl, T.n_RuledChain_parts, rfl, p, _, rfl, .inr hp, _, _, rfl, rfl, ?_⟩
      have e : decide ((((ps.map V.int).length : Nat) : Int) ≤ (i : Int)) = decide (ps.length ≤ i) := by
        rw [List.length_map]
        exact decide_eq_decide.mpr (by omega)
      show Q (.bl (decide ((((ps.map V.int).length : Nat) : Int) ≤ (i : Int)))) H
      rw [e]
      exact k
    · rw [decide_eq_false c] at k ⊢
      exact iteF k
theorem map_at {l : List Int} {i : Nat} (h : i < l.length) : (l.map V.int)[i]? = some (.int (l.getD i 0)) := by
  rw [List.getElem?_map, List.getElem?_eq_getElem h, List.getD_eq_getElem?_getD, List.getElem?_eq_getElem h]
  rfl
theorem mem_getD {l : List Int} {i : Nat} (h : i < l.length) : l.getD i 0 ∈ l := by
  rw [List.getD_eq_getElem?_getD, List.getElem?_eq_getElem h]
  exact List.getElem_mem h
theorem ok_RuledChain_next_part (T : CT K mg A) (D : DT K mg A) : MOk P w K mg base CX0 1 A.c_RuledChain "next_part" ["self"] (fun vs H Q _ => ∃ a ps ring steps i, vs = [.ref a] ∧ Chain.At A K H a (.ruled ps ring steps i) ∧ RuledOk ps ring steps ∧ (ring = [] → i < ps.length) ∧
    ∀ H', Chain.At A K H' a (.ruled ps ring steps (i + 1)) → (∀ c o, H c = some o → c ≠ a → H' c = some o) → Q (.int (ruledAt ps ring steps i)) H') := by
  refine MOk.of T.cl_RuledChain D.RuledChain_next_part fun f fd F => ?_
  refine F.ok sc_RuledChain_next_part (fun vs H Q E h => ?_) (fun cdv Ar outer s H vs Q E hr h => ?_)
  · obtain ⟨a, ps, ring, steps, i, rfl, _⟩ := h
    rfl
  · obtain ⟨a, ps, ring, steps, i, rfl, ⟨dx, p, q, u, ha, hp, hq, hu⟩, ok, hne, k⟩ := h
    refine ⟨_, (pss_cons (ps_set (i := 1) sc_RuledChain_next_part.nd rfl (Or.inl rfl) (pe_fld (pv 0) rfl))
    (pss_cons (ps_fldaug (pv 0) pe_int in_add)
    (pss_cons (ps_if (pt_cmpR op_lt (pv 1) (pe_callB call_len_seq (by rfl) T.b_len (by decide +kernel) (pa_cons (pe_fld (pv 0) rfl) pa_nil)) (nomark _))
      (pss_one (ps_ret (pe_ix ix_tup (pe_fld (pv 0) rfl) (pv 1) (fun _ _ => rfl)))) pss_nil)
    (pss_cons (ps_asg (pe_callB call_divmod (by rfl) T.b_divmod (by decide +kernel) (pa_cons (pe_op op_sub (pv 1) (pe_callB call_len_seq (by rfl) T.b_len (by decide +kernel) (pa_cons (pe_fld (pv 0) rfl) pa_nil))) (pa_cons (pe_callB call_len_seq (by rfl) T.b_len (by decide +kernel) (pa_cons (pe_fld (pv 0) rfl) pa_nil)) pa_nil))) (pg_tup rfl (pgs_cons (pg_name (i := 2) sc_RuledChain_next_part.nd rfl (Or.inl rfl)) (pgs_cons (pg_name (i := 3) sc_RuledChain_next_part.nd rfl (Or.inl rfl)) pgs_nil))))
    (pss_one (ps_ret (pe_op op_add (pe_ix ix_tup (pe_fld (pv 0) rfl) (pv 3) (fun _ _ => rfl)) (pe_op op_mul (pv 2) (pe_ix ix_tup (pe_fld (pv 0) rfl) (pv 3) (fun _ _ => rfl)))))))))), ?_⟩
    have cl := T.cl_RuledChain
    refine ⟨_, rfl, a, _, dx, _, _, rfl, ha, cl, T.n_RuledChain_at, rfl, ?_⟩
    refine ⟨_, rfl, a, _, dx, _, _, rfl, ha, cl, T.n_RuledChain_at, rfl, _, _, rfl, rfl, dx, _, ha, (by show 4 < 1000; decide), ?_⟩
    have h1 : ∀ o, (upd H a o) a = some o := fun o => upd_same
    have hp1 := sqT_ins (o := .ins A.c_RuledChain dx (putF "at" (.int ((i : Int) + 1)) (ruF p q u i))) hp ha
    have hq1 := sqT_ins (o := .ins A.c_RuledChain dx (putF "at" (.int ((i : Int) + 1)) (ruF p q u i))) hq ha
    have hu1 := sqT_ins (o := .ins A.c_RuledChain dx (putF "at" (.int ((i : Int) + 1)) (ruF p q u i))) hu ha
    have kp : ∀ c o, H c = some o → c ≠ a → (upd H a (.ins A.c_RuledChain dx (putF "at" (.int ((i : Int) + 1)) (ruF p q u i)))) c = some o := fun c o e hc => by rw [upd_ne hc]; exact e
    have ha1 : (upd H a (.ins A.c_RuledChain dx (putF "at" (.int ((i : Int) + 1)) (ruF p q u i)))) a = some (.ins A.c_RuledChain dx (ruF p q u (i + 1))) := upd_same
    generalize upd H a (.ins A.c_RuledChain dx (putF "at" (.int ((i : Int) + 1)) (ruF p q u i))) = H1 at *
    have hlp : (ps.map V.int).length = ps.length := List.length_map _
    have hlr : (ring.map V.int).length = ring.length := List.length_map _
    refine ⟨_, rfl, _, rfl, a, _, dx, _, _, rfl, ha1, cl, T.n_RuledChain_parts, rfl, p, _, rfl, .inr hp1, _, _, rfl, rfl, _, rfl, ite2 (fun c => ?_) (fun c => ?_)⟩
    · have hi : i < ps.length := by
        have := of_decide_eq_true c
        rw [hlp] at this
        omega
      refine ⟨_, rfl, a, _, dx, _, _, rfl, ha1, cl, T.n_RuledChain_parts, rfl, _, rfl, p, _, _, _, rfl, rfl, hp1, atI_nat (map_at hi), ?_⟩
      have e : ruledAt ps ring steps i = ps.getD i 0 := by unfold ruledAt; rw [if_pos hi]
      rw [← e]
      exact k _ ⟨dx, p, q, u, ha1, hp1, hq1, hu1⟩ kp
    · have hi : ps.length ≤ i := by
        rcases Nat.lt_or_ge i ps.length with z | z
        · exact absurd (decide_eq_true (by rw [hlp]; omega)) c
        · exact z
      have hr0 : 0 < ring.length := by
        cases ring with
        | nil => have := hne rfl; omega
        | cons x r => rw [List.length_cons]; omega
      have hr12 := ok.r12
      have hs := ok.same
      refine ⟨_, rfl, _, rfl, a, _, dx, _, _, rfl, ha1, cl, T.n_RuledChain_parts, rfl, p, _, rfl, .inr hp1, _, _, rfl, rfl, _, rfl, a, _, dx, _, _, rfl, ha1, cl, T.n_RuledChain_ring, rfl, q, _, rfl, .inr hq1, _, _, rfl, ⟨by rw [hlr]; omega, by rw [hlr]; omega⟩, fun z nz => ?_⟩
      have e1 : ((i : Int) - (((ps.map V.int).length : Nat) : Int)) / (((ring.map V.int).length : Nat) : Int) = (((i - ps.length) / ring.length : Nat) : Int) := by
        rw [hlp, hlr, Int.natCast_ediv]
        congr 1
        omega
      have e2 : ((i : Int) - (((ps.map V.int).length : Nat) : Int)) % (((ring.map V.int).length : Nat) : Int) = (((i - ps.length) % ring.length : Nat) : Int) := by
        rw [hlp, hlr, Int.natCast_emod]
        congr 1
        omega
      rw [e1, e2]
      have sm := same_upd (o := .tup [V.int (((i - ps.length) / ring.length : Nat) : Int), .int (((i - ps.length) % ring.length : Nat) : Int)]) nz
      refine ⟨z, _, rfl, SqT.of upd_same, rfl, _, _, rfl, _, _, rfl, rfl, ?_⟩
      have hm : (i - ps.length) % ring.length < ring.length := Nat.mod_lt _ hr0
      have ts := ok.ts _ (mem_getD (show (i - ps.length) % ring.length < steps.length by omega))
      have w64 : -(2 ^ 64) < steps.getD ((i - ps.length) % ring.length) 0 ∧ steps.getD ((i - ps.length) % ring.length) 0 < 2 ^ 64 := by
        obtain ⟨t1, t2⟩ := ts
        have : (2 : Int) ^ 64 = 18446744073709551616 := by decide
        omega
      refine ⟨_, rfl, a, _, dx, _, _, rfl, sm _ _ ha1, cl, T.n_RuledChain_ring, rfl, _, rfl, q, _, _, _, rfl, rfl, (sqT_same hq1 sm), atI_nat (map_at hm), ?_⟩
      refine ⟨_, rfl, _, rfl, a, _, dx, _, _, rfl, sm _ _ ha1, cl, T.n_RuledChain_steps, rfl, _, rfl, u, _, _, _, rfl, rfl, (sqT_same hu1 sm), atI_nat (map_at (show (i - ps.length) % ring.length < steps.length by omega)), _, _, rfl, rfl, .inr w64, _, _, rfl, rfl, ?_⟩
      have e : ruledAt ps ring steps i = ring.getD ((i - ps.length) % ring.length) 0 + (((i - ps.length) / ring.length : Nat) : Int) * steps.getD ((i - ps.length) % ring.length) 0 := by unfold ruledAt; rw [if_neg (by omega)]
      show Q (.int (ring.getD ((i - ps.length) % ring.length) 0 + (((i - ps.length) / ring.length : Nat) : Int) * steps.getD ((i - ps.length) % ring.length) 0)) _
      rw [← e]
      exact k _ ⟨dx, p, q, u, sm _ _ ha1, (sqT_same hp1 sm), sqT_same hq1 sm, (sqT_same hu1 sm)⟩ fun c o z hc => sm _ _ (kp c o z hc)
end
/-! ### which tuples are trees: the checks let them by -/
/-- the tables of the top -/
structure TB (K : PySem.W.Frag) (w : World) (mg : Str → Option Value) (A : Ad) : Prop where
  dL : ∃ es n, KDict K w A.k_LENGTHS es n
  dC : ∃ es n, KDict K w A.k_CHECKS es n
  lens : ∀ x n, (x, n) ∈ ([("fraction", 3), ("root", 4), ("ruled", 4), ("four", 3), ("eight", 4), ("power", 3)] : List (Str × Int)) → ∃ t, PySem.W.nsIn K A.k_LENGTHS x = some (some (.int n t))
  chks : ∀ x y f, (x, y) ∈ ([("fraction", "check_fraction"), ("root", "check_root"), ("ruled", "check_ruled"), ("four", "check_four"), ("eight", "check_eight"), ("power", "check_power")] : List (Str × Str)) → mg y = some (.ref f) → PySem.W.nsIn K A.k_CHECKS x = some (some (.ref f))
section
variable {X : Cx} {k i : Nat} {x x' : Str} {ps : List Str} {sp : Sp} {e : Expr} {es : List Expr} {t : TA} {p pos : Pos}
theorem pe_cL (C : COk X.prog X.w X.K X.mg X.base CX0 k x' ps sp) (hr : Room k X.A) (hN : X.N[i]? = some x) (hv : Vis X.env.scope x) (ha : PA X (e :: es) t)
    (hdb : (x == ("__debug__" : Str)) = false := by decide) (hcd : (x == ("__classdict__" : Str)) = false := by decide)
    (he : starEach (e :: es) X.env = (false, eval e X.env) :: starEach es X.env := by rfl) (hpl : (backTo pos (starEach es X.env)).any (·.1) = false := by rfl) :
    PE X (.Call (.Name x p) (e :: es) [] pos) (fun σ H Q => (∀ f, X.mg x' = some (.ref f) → σ[i]? = some (some (.ref f))) ∧ t σ H fun vs H1 => sp (vs ++ []) H1 Q E0) := by
  obtain ⟨f, fd, F, a, b, c⟩ := C
  exact ⟨fun pins s σ H Q I h => (pe_callL (i := i) F hr hN hv b c .nil pass0 ha hdb hcd he hpl).run pins s σ H Q I ⟨h.1 f a, h.2⟩⟩
open PySem.Spec PyProof.Rows in
theorem ix_kd {d : Addr} (D : ∃ es n, KDict X.K X.w d es n) : IxR X (fun x y H Q => ∃ (z : Str) (u0 : Value) (v0 : V), x = .ref d ∧ y = .str z ∧ PySem.W.nsIn X.K d z = some (some u0) ∧ RelV v0 u0 ∧ Q v0 H) := by
  obtain ⟨es, n, D⟩ := D
  intro value slice pins s σ H x y v u Q I rx ry h hs
  have ht : s.TypeIs v "dict" := by
    obtain ⟨z, u0, v0, rfl, _⟩ := h
    cases rx
    exact kd_type D I
  exact tail_any ht PySem.F.slot_dict_getitem.lookup (op_item_kd D pins s σ H x y v u Q I rx ry h) hs
theorem op_in_kd' {d : Addr} (D : ∃ es n, KDict X.K X.w d es n) : OpR X (compareOp .In) (fun x y H Q => ∃ (z : Str) (r : Option Value), x = .str z ∧ y = .ref d ∧ PySem.W.nsIn X.K d z = some r ∧ Q (.bl r.isSome) H) := by
  obtain ⟨es, n, D⟩ := D
  exact op_in_kd D
end
theorem tyT {K : PySem.W.Frag} {H : Hp} {a : Addr} {xs : List V} (h : SqT K H a xs) : TyX K H (.ref a) (.type "tuple") := by
  rcases h with (h | ⟨o, h⟩) | ⟨o, its, n, h, c, _⟩
  · exact .base (.tup h)
  · exact .fTuple h
  · exact .kTuple h c
theorem cutV1 (x : V) (xs : List V) : cutV (x :: xs) (some 1) none = xs := by
  unfold cutV
  rw [show HT.sIx (x :: xs).length 0 (some 1) = min 1 (x :: xs).length from HT.sIx_nat _ 0 1, HT.sIx_none]
  rw [show min 1 (x :: xs).length = 1 by rw [List.length_cons]; omega]
  show List.take ((x :: xs).length - 1) xs = xs
  rw [List.length_cons, Nat.add_sub_cancel, List.take_length]
theorem cutV2 (x y : V) (xs : List V) : cutV (x :: y :: xs) (some 2) none = xs := by
  unfold cutV
  rw [show HT.sIx (x :: y :: xs).length 0 (some 2) = min 2 (x :: y :: xs).length from HT.sIx_nat _ 0 2, HT.sIx_none]
  rw [show min 2 (x :: y :: xs).length = 2 by rw [List.length_cons, List.length_cons]; omega]
  show List.take ((x :: y :: xs).length - 2) xs = xs
  rw [List.length_cons, List.length_cons, show xs.length + 1 + 1 - 2 = xs.length by omega, List.take_length]
theorem not_whole {xs : List V} {k : Nat} (hk : 0 < k) (h : k ≤ xs.length) : ¬ (HT.sIx xs.length 0 (some (k : Int)) = 0 ∧ HT.sIx xs.length xs.length none = xs.length) := fun z => by
  have := z.1
  rw [HT.sIx_nat] at this
  omega
section
variable {P : Program} {w : World} {K : PySem.W.Frag} {mg : Str → Option Value} {base : Heap} {A : Ad}
/-- require lets by what holds -/
def sp_require : Sp := fun vs H Q _ => ∃ b y, vs = [.bl b, y] ∧ b = true ∧ Q .non H
theorem ok_require (D : DT K mg A) : COk P w K mg base CX0 1 "require" ["holds", "why"] sp_require := by
  refine COk.by D.require fun f fd F => ?_
  refine F.ok sc_require (fun vs H Q E h => ?_) (fun cdv Ar outer s H vs Q E hr h => ?_)
  · obtain ⟨b, y, rfl, _⟩ := h
    rfl
  · obtain ⟨b, y, rfl, rfl, k⟩ := h
    refine ⟨_, (pss_one (ps_if (pt_not (pt_val (pv 0)))
      (pss_one ps_never) pss_nil)), ?_⟩
    exact ⟨_, rfl, true, rfl, iteF k⟩
def sp_is_whole : Sp := fun vs H Q _ => ∃ i : Int, vs = [.int i] ∧ Q (.bl true) H
theorem ok_is_whole (T : CT K mg A) (D : DT K mg A) : COk P w K mg base CX0 1 "is_whole" ["number"] sp_is_whole := by
  refine COk.by D.is_whole fun f fd F => ?_
  refine F.ok sc_is_whole (fun vs H Q E h => ?_) (fun cdv Ar outer s H vs Q E hr h => ?_)
  · obtain ⟨i, rfl, _⟩ := h
    rfl
  · obtain ⟨i, rfl, k⟩ := h
    refine ⟨_, (pss_one (ps_ret (pe_and (pe_callB call_isi (by rfl) T.b_isinstance (by decide +kernel) (pa_cons (pv 0) (pa_cons (pe_bltn (v := .ty "int") (by rfl) T.b_int (by decide +kernel) rfl) pa_nil))) (pe_one (pe_not (pe_callB call_isi (by rfl) T.b_isinstance (by decide +kernel) (pa_cons (pv 0) (pa_cons (pe_bltn (v := .ty "bool") (by rfl) T.b_bool (by decide +kernel) rfl) pa_nil)))))))), ?_⟩
    refine ⟨_, rfl, _, _, _, _, true, rfl, .ty "int", .base (.int i), kit_ty (by decide +kernel), _, rfl, iteT ?_⟩
    exact ⟨_, rfl, _, _, _, _, false, rfl, .ty "bool", .base (.int i), kit_ty (by decide +kernel), _, rfl, k⟩
/-- a row of whole numbers, so many, none beyond 10 ** 12 -/
def sp_check_row (K : PySem.W.Frag) : Sp := fun vs H Q _ => ∃ (a : Addr) (ns : List Int) (lo hi : Int), vs = [.ref a, .int lo, .int hi] ∧ SqT K H a (ns.map V.int) ∧ lo ≤ ns.length ∧ (ns.length : Int) ≤ hi ∧ (∀ z ∈ ns, tame z) ∧ Q .non H
theorem ok_check_row (T : CT K mg A) (D : DT K mg A) : COk P w K mg base CX0 2 "check_row" ["row", "fewest", "most"] (sp_check_row K) := by
  have G_require : COk P w K mg base CX0 1 "require" ["holds", "why"] sp_require := ok_require D
  have G_is_whole : COk P w K mg base CX0 1 "is_whole" ["number"] sp_is_whole := ok_is_whole T D
  refine COk.by D.check_row fun f fd F => ?_
  refine F.ok sc_check_row (fun vs H Q E h => ?_) (fun cdv Ar outer s H vs Q E hr h => ?_)
  · obtain ⟨a, ns, lo, hi, rfl, _⟩ := h
    rfl
  · obtain ⟨a, ns, lo, hi, rfl, ha, h1, h2, ht, k⟩ := h
    obtain ⟨tN, gi_MOST_NUMBER⟩ := T.i_MOST_NUMBER
    refine ⟨_, (pss_cons (ps_expr (pe_c G_require (hr.mono (by first | decide | omega)) (pa_cons (pe_callB call_isi (by rfl) T.b_isinstance (by decide +kernel) (pa_cons (pv 0) (pa_cons (pe_bltn (v := .ty "tuple") (by rfl) T.b_tuple (by decide +kernel) rfl) pa_nil))) (pa_cons pe_str pa_nil))))
    (pss_cons (ps_expr (pe_c G_require (hr.mono (by first | decide | omega)) (pa_cons (pe_chain op_le op_le (pv 1) (pe_callB call_len_seq (by rfl) T.b_len (by decide +kernel) (pa_cons (pv 0) pa_nil)) (pv 2)) (pa_cons pe_str pa_nil))))
    (pss_one (ps_for PassesOwn.never rfl (pi_tup (pv 0)) (pg_name (i := 3) sc_check_row.nd rfl (Or.inl rfl))
      (pss_cons (ps_expr (pe_c G_require (hr.mono (by first | decide | omega)) (pa_cons (pe_c G_is_whole (hr.mono (by first | decide | omega)) (pa_cons (pv 3) pa_nil)) (pa_cons pe_str pa_nil))))
    (pss_one (ps_expr (pe_c G_require (hr.mono (by first | decide | omega)) (pa_cons (pe_chain op_le op_le (pe_un un_neg (pe_glob (v := .int 1000000000000) (by rfl) gi_MOST_NUMBER ⟨_, rfl⟩)) (pv 3) (pe_glob (v := .int 1000000000000) (by rfl) gi_MOST_NUMBER ⟨_, rfl⟩)) (pa_cons pe_str pa_nil)))))))))), ?_⟩
    have hl : (ns.map V.int).length = ns.length := List.length_map _
    refine ⟨_, rfl, _, _, _, _, true, rfl, .ty "tuple", tyT ha, kit_ty (by decide +kernel), _, _, rfl, rfl, ?_⟩
    refine ⟨_, rfl, _, rfl, a, _, rfl, .inr ha, _, _, rfl, rfl, _, rfl, ?_⟩
    rw [decide_eq_true (by rw [hl]; exact h1)]
    refine iteT ⟨_, rfl, _, _, rfl, rfl, _, _, rfl, decide_eq_true (by rw [hl]; exact h2), ?_⟩
    refine ⟨_, rfl, a, rfl, ⟨_, ha⟩, for_tup (K := K) (a := a) (xs := ns.map V.int) (fun i σ H2 => ∃ v : Option V, σ = [some (.ref a), some (.int lo), some (.int hi), v] ∧ H2 = H)
      ⟨none, rfl, rfl⟩ (fun i σ H2 _ ⟨_, _, e⟩ => by rw [e]; exact ha) ?_ ?_⟩
    · rintro i y σ H2 hi ⟨v, rfl, rfl⟩
      obtain ⟨z, hz, rfl⟩ : ∃ z, z ∈ ns ∧ y = V.int z := by
        rw [List.getElem?_map] at hi
        cases e : ns[i]? with
        | none => rw [e] at hi; cases hi
        | some z => rw [e] at hi; exact ⟨z, List.mem_of_getElem? e, (Option.some.inj hi).symm⟩
      obtain ⟨z1, z2⟩ := ht z hz
      refine ⟨_, rfl, z, rfl, _, _, rfl, rfl, ?_⟩
      refine ⟨_, rfl, _, rfl, _, _, rfl, rfl, _, rfl, ?_⟩
      rw [decide_eq_true (show (-1000000000000 : Int) ≤ z from z1)]
      exact iteT ⟨_, _, rfl, rfl, _, _, rfl, decide_eq_true (show z ≤ (1000000000000 : Int) from z2), ⟨_, rfl, rfl⟩⟩
    · rintro σ H2 ⟨v, rfl, rfl⟩
      exact k
/-! the leaves -/
def sp_check_fraction (K : PySem.W.Frag) : Sp := fun vs H Q _ => ∃ (a : Addr) (t b d : Int), vs = [.ref a, .int d] ∧ SqT K H a [.str "fraction", .int t, .int b] ∧ tame t ∧ tame b ∧ b ≠ 0 ∧ ∀ H', Same H H' → Q .non H'
theorem ok_check_fraction (T : CT K mg A) (D : DT K mg A) : COk P w K mg base CX0 3 "check_fraction" ["tree", "depth"] (sp_check_fraction K) := by
  have G_require : COk P w K mg base CX0 1 "require" ["holds", "why"] sp_require := ok_require D
  have G_check_row : COk P w K mg base CX0 2 "check_row" ["row", "fewest", "most"] (sp_check_row K) := ok_check_row T D
  refine COk.by D.check_fraction fun f fd F => ?_
  refine F.ok sc_check_fraction (fun vs H Q E h => ?_) (fun cdv Ar outer s H vs Q E hr h => ?_)
  · obtain ⟨a, t, b, d, rfl, _⟩ := h
    rfl
  · obtain ⟨a, t, b, d, rfl, ha, ht, hb, h0, k⟩ := h
    refine ⟨_, (pss_cons (ps_expr (pe_c G_check_row (hr.mono (by first | decide | omega)) (pa_cons (pe_slice sl_tup (pv 0) (po_some pe_int) po_none) (pa_cons pe_int (pa_cons pe_int pa_nil)))))
    (pss_one (ps_expr (pe_c G_require (hr.mono (by first | decide | omega)) (pa_cons (pe_cmpR op_ne (pe_ix ix_tup (pv 0) pe_int (fun _ _ => rfl)) pe_int (nomark _)) (pa_cons pe_str pa_nil)))))), ?_⟩
    refine ⟨_, rfl, 1, rfl, a, _, rfl, ha, not_whole (k := 1) (by decide) (by show 1 ≤ 3; decide), fun p np => ?_⟩
    rw [cutV1]
    have sm := same_upd (o := .tup [V.int t, .int b]) np
    refine ⟨p, [t, b], 2, 2, rfl, SqT.of upd_same, (by show (2 : Int) ≤ 2; decide), (by show (2 : Int) ≤ 2; decide), ?_, ?_⟩
    · intro z hz
      simp only [List.mem_cons, List.not_mem_nil, or_false] at hz
      rcases hz with rfl | rfl
      · exact ht
      · exact hb
    refine ⟨_, rfl, a, _, 2, _, rfl, rfl, sqT_same ha sm, atI_nat (j := 2) rfl, rfl, _, _, rfl, ?_, k _ sm⟩
    rw [decide_eq_false (fun z => h0 (V.int.inj z))]
    rfl
def sp_check_root (K : PySem.W.Frag) : Sp := fun vs H Q _ => ∃ (a : Addr) (t s b d : Int), vs = [.ref a, .int d] ∧ SqT K H a [.str "root", .int t, .int s, .int b] ∧ tame t ∧ tame s ∧ 0 ≤ s ∧ tame b ∧ b ≠ 0 ∧ ∀ H', Same H H' → Q .non H'
theorem ok_check_root (T : CT K mg A) (D : DT K mg A) : COk P w K mg base CX0 3 "check_root" ["tree", "depth"] (sp_check_root K) := by
  have G_require : COk P w K mg base CX0 1 "require" ["holds", "why"] sp_require := ok_require D
  have G_check_row : COk P w K mg base CX0 2 "check_row" ["row", "fewest", "most"] (sp_check_row K) := ok_check_row T D
  refine COk.by D.check_root fun f fd F => ?_
  refine F.ok sc_check_root (fun vs H Q E h => ?_) (fun cdv Ar outer s H vs Q E hr h => ?_)
  · obtain ⟨a, t, s, b, d, rfl, _⟩ := h
    rfl
  · obtain ⟨a, t, sq, b, d, rfl, ha, ht, hs, hs0, hb, h0, k⟩ := h
    refine ⟨_, (pss_cons (ps_expr (pe_c G_check_row (hr.mono (by first | decide | omega)) (pa_cons (pe_slice sl_tup (pv 0) (po_some pe_int) po_none) (pa_cons pe_int (pa_cons pe_int pa_nil)))))
    (pss_cons (ps_expr (pe_c G_require (hr.mono (by first | decide | omega)) (pa_cons (pe_cmpR op_ge (pe_ix ix_tup (pv 0) pe_int (fun _ _ => rfl)) pe_int (nomark _)) (pa_cons pe_str pa_nil))))
    (pss_one (ps_expr (pe_c G_require (hr.mono (by first | decide | omega)) (pa_cons (pe_cmpR op_ne (pe_ix ix_tup (pv 0) pe_int (fun _ _ => rfl)) pe_int (nomark _)) (pa_cons pe_str pa_nil))))))), ?_⟩
    refine ⟨_, rfl, 1, rfl, a, _, rfl, ha, not_whole (k := 1) (by decide) (by show 1 ≤ 4; decide), fun p np => ?_⟩
    rw [cutV1]
    have sm := same_upd (o := .tup [V.int t, .int sq, .int b]) np
    refine ⟨p, [t, sq, b], 3, 3, rfl, SqT.of upd_same, (by show (3 : Int) ≤ 3; decide), (by show (3 : Int) ≤ 3; decide), ?_, ?_⟩
    · intro z hz
      simp only [List.mem_cons, List.not_mem_nil, or_false] at hz
      rcases hz with rfl | rfl | rfl
      · exact ht
      · exact hs
      · exact hb
    refine ⟨_, rfl, a, _, 2, _, rfl, rfl, sqT_same ha sm, atI_nat (j := 2) rfl, _, _, rfl, rfl, _, _, rfl, decide_eq_true hs0, ?_⟩
    refine ⟨_, rfl, a, _, 3, _, rfl, rfl, sqT_same ha sm, atI_nat (j := 3) rfl, rfl, _, _, rfl, ?_, k _ sm⟩
    rw [decide_eq_false (fun z => h0 (V.int.inj z))]
    rfl
/-- the rules of a ruled chain -/
structure RuledGood (ps ring steps : List Int) : Prop extends RuledOk ps ring steps where
  one : ∀ z ∈ ps.tail ++ ring, 1 ≤ z
  nn : ∀ z ∈ steps, 0 ≤ z
  last : ring = [] → ps.length = 1 ∨ ∃ z, ps.getLast? = some z ∧ 2 ≤ z
def sp_check_ruled (K : PySem.W.Frag) : Sp := fun vs H Q _ => ∃ (a p q u : Addr) (ps ring steps : List Int) (d : Int), vs = [.ref a, .int d] ∧ SqT K H a [.str "ruled", .ref p, .ref q, .ref u] ∧ SqT K H p (ps.map V.int) ∧ SqT K H q (ring.map V.int) ∧ SqT K H u (steps.map V.int) ∧ RuledGood ps ring steps ∧ ∀ H', Same H H' → Q .non H'
theorem same_list {K : PySem.W.Frag} {H H' : Hp} {D a : Addr} {xs acc : List V} (k : ∀ b o, H b = some o → b ≠ D → H' b = some o) (hD : H D = some (.lst acc)) (h : SqT K H a xs) : SqT K H' a xs :=
  sqT_but (N := fun b => b = D) h k fun b o e z => by
    subst e
    rw [hD] at z
    cases z
    exact ⟨fun _ q => (by cases q), fun _ _ q => (by cases q)⟩
/-- t + u: some tuple of both -/
def rCatC (K : PySem.W.Frag) : R2 := fun x y H Q => ∃ a b xs ys, x = .ref a ∧ y = .ref b ∧ SqT K H a xs ∧ SqT K H b ys ∧ xs.length + ys.length ≤ sizeLine ∧ ∀ c H', Same H H' → SqT K H' c (xs ++ ys) → Q (.ref c) H'
theorem op_catC {X : Cx} : OpR X (binaryOp .Add) (rCatC X.K) := by
  intro pins s σ H x y v u Q I rx ry h
  obtain ⟨a, b, xs, ys, ex, ey, ha, hb, hz, q⟩ := h
  refine op_catA pins s σ H x y v u Q I rx ry ⟨a, b, xs, ys, ex, ey, ha, hb, hz, fun z => ?_, fun _ z => ?_, fun _ _ p hp => ?_⟩
  · subst z
    exact q b H (.refl H) hb
  · subst z
    exact q a H (.refl H) (by rw [List.append_nil]; exact ha)
  · exact q p _ (same_upd hp) (SqT.of upd_same)
theorem at_last {ns : List Int} {z : Int} (h : ns.getLast? = some z) : atI (ns.map V.int) (-1) = some (.int z) := by
  obtain ⟨i, rfl⟩ := List.getLast?_eq_some_iff.mp h
  rw [List.map_append]
  exact atI_last _ _
theorem all_true (n : Nat) : (List.replicate n true).all id = true := by
  induction n with
  | zero => rfl
  | succ n ih => rw [List.replicate_succ, List.all_cons, ih]; rfl
theorem rep_succ (i : Nat) : (List.replicate i true).map V.bl ++ [V.bl true] = (List.replicate (i + 1) true).map V.bl := by
  rw [List.replicate_succ', List.map_append]
  rfl
theorem ok_check_ruled (T : CT K mg A) (D : DT K mg A) : COk P w K mg base CX0 3 "check_ruled" ["tree", "depth"] (sp_check_ruled K) := by
  have G_require : COk P w K mg base CX0 1 "require" ["holds", "why"] sp_require := ok_require D
  have G_check_row : COk P w K mg base CX0 2 "check_row" ["row", "fewest", "most"] (sp_check_row K) := ok_check_row T D
  obtain ⟨tP, gi_MOST_PARTS⟩ := T.i_MOST_PARTS
  refine COk.by D.check_ruled fun f fd F => ?_
  refine F.ok sc_check_ruled (fun vs H Q E h => ?_) (fun cdv Ar outer s H vs Q E hr h => ?_)
  · obtain ⟨a, p, q, u, ps, ring, steps, d, rfl, _⟩ := h
    rfl
  · obtain ⟨a, p, q, u, ps, ring, steps, d, rfl, ha, hp, hq, hu, G, k⟩ := h
    obtain ⟨⟨p1, p12, r12, sl, tp, tr, ts⟩, one, nn, last⟩ := G
    refine ⟨_, (pss_cons (ps_asg (pe_slice sl_tup (pv 0) (po_some pe_int) po_none) (pg_tup rfl (pgs_cons (pg_name (i := 2) sc_check_ruled.nd rfl (Or.inl rfl)) (pgs_cons (pg_name (i := 3) sc_check_ruled.nd rfl (Or.inl rfl)) (pgs_cons (pg_name (i := 4) sc_check_ruled.nd rfl (Or.inl rfl)) pgs_nil)))))
    (pss_cons (ps_expr (pe_c G_check_row (hr.mono (by first | decide | omega)) (pa_cons (pv 2) (pa_cons pe_int (pa_cons (pe_glob (v := .int 12) (by rfl) gi_MOST_PARTS ⟨_, rfl⟩) pa_nil)))))
    (pss_cons (ps_expr (pe_c G_check_row (hr.mono (by first | decide | omega)) (pa_cons (pv 3) (pa_cons pe_int (pa_cons (pe_glob (v := .int 12) (by rfl) gi_MOST_PARTS ⟨_, rfl⟩) pa_nil)))))
    (pss_cons (ps_expr (pe_c G_check_row (hr.mono (by first | decide | omega)) (pa_cons (pv 4) (pa_cons (pe_callB call_len_seq (by rfl) T.b_len (by decide +kernel) (pa_cons (pv 3) pa_nil)) (pa_cons (pe_callB call_len_seq (by rfl) T.b_len (by decide +kernel) (pa_cons (pv 3) pa_nil)) pa_nil)))))
    (pss_cons (ps_expr (pe_c G_require (hr.mono (by first | decide | omega)) (pa_cons (pe_callB (cr_all rfl) (by rfl) T.b_all (by decide +kernel) (pa_cons (pe_lc (own := [("part", 5)]) (g := gName 5) (tt := tYes) rfl sc_check_ruled.nd (pi_tup (pe_op op_catC (pe_slice sl_tup (pv 2) (po_some pe_int) po_none) (pv 3))) (blkOk_by (own := [("part", 5)]) (N := ["tree", "depth", "parts", "ring", "steps", "part", "step", "ends"]) (sc := defScope s_check_ruled) (by decide +kernel)) (fun _ _ _ _ _ => (pg_name (i := 5) sc_check_ruled.nd rfl (Or.inl rfl))) (fun _ _ _ _ _ => pts_nil) (fun _ _ _ _ _ => (pe_cmpR op_ge (pv 5) pe_int (nomark _)))) pa_nil)) (pa_cons pe_str pa_nil))))
    (pss_cons (ps_expr (pe_c G_require (hr.mono (by first | decide | omega)) (pa_cons (pe_callB (cr_all rfl) (by rfl) T.b_all (by decide +kernel) (pa_cons (pe_lc (own := [("step", 6)]) (g := gName 6) (tt := tYes) rfl sc_check_ruled.nd (pi_tup (pv 4)) (blkOk_by (own := [("step", 6)]) (N := ["tree", "depth", "parts", "ring", "steps", "part", "step", "ends"]) (sc := defScope s_check_ruled) (by decide +kernel)) (fun _ _ _ _ _ => (pg_name (i := 6) sc_check_ruled.nd rfl (Or.inl rfl))) (fun _ _ _ _ _ => pts_nil) (fun _ _ _ _ _ => (pe_cmpR op_ge (pv 6) pe_int (nomark _)))) pa_nil)) (pa_cons pe_str pa_nil))))
    (pss_cons (ps_set (i := 7) sc_check_ruled.nd rfl (Or.inl rfl) (pe_cmpR op_eq (pe_callB call_len_seq (by rfl) T.b_len (by decide +kernel) (pa_cons (pv 3) pa_nil)) pe_int (nomark _)))
    (pss_one (ps_expr (pe_c G_require (hr.mono (by first | decide | omega)) (pa_cons (pe_or (pe_not (pv 7)) (pe_or (pe_cmpR op_eq (pe_callB call_len_seq (by rfl) T.b_len (by decide +kernel) (pa_cons (pv 2) pa_nil)) pe_int (nomark _)) (pe_one (pe_cmpR op_ge (pe_ix ix_tup (pv 2) (pe_un un_neg pe_int) (fun _ _ => rfl)) pe_int (nomark _))))) (pa_cons pe_str pa_nil)))))))))))), ?_⟩
    refine ⟨_, rfl, 1, rfl, a, _, rfl, ha, not_whole (k := 1) (by decide) (by show 1 ≤ 4; decide), fun z nz => ?_⟩
    rw [cutV1]
    have sm := same_upd (o := .tup [V.ref p, .ref q, .ref u]) nz
    refine ⟨z, _, rfl, SqT.of upd_same, rfl, _, _, rfl, _, _, rfl, _, _, rfl, rfl, ?_⟩
    have hp1 := sqT_same hp sm
    have hq1 := sqT_same hq sm
    have hu1 := sqT_same hu sm
    generalize upd H z (.tup [V.ref p, .ref q, .ref u]) = H1 at *
    have lr : (ring.map V.int).length = ring.length := List.length_map _
    have lp : (ps.map V.int).length = ps.length := List.length_map _
    have lp0 : 0 < ps.length := List.length_pos_iff.mpr p1
    refine ⟨_, rfl, p, ps, _, _, rfl, hp1, (by show (1 : Int) ≤ ps.length; omega), (by show (ps.length : Int) ≤ 12; omega), tp, ?_⟩
    refine ⟨_, rfl, q, ring, _, _, rfl, hq1, (by show (0 : Int) ≤ ring.length; omega), (by show (ring.length : Int) ≤ 12; omega), tr, ?_⟩
    refine ⟨_, rfl, _, rfl, q, _, rfl, .inr hq1, _, rfl, q, _, rfl, .inr hq1, u, steps, _, _, rfl, hu1, (by rw [lr]; omega), (by rw [lr]; omega), ts, ?_⟩
    -- all parts but the first, and the ring's, are 1 or more
    obtain ⟨p0, pt, rfl⟩ : ∃ p0 pt, ps = p0 :: pt := by
      cases ps with
      | nil => exact absurd rfl p1
      | cons x y => exact ⟨x, y, rfl⟩
    refine ⟨_, rfl, 1, rfl, p, _, rfl, hp1, not_whole (k := 1) (by decide) (by rw [lp]; exact lp0), fun y ny => ?_⟩
    have ec : cutV ((p0 :: pt).map V.int) (some 1) none = pt.map V.int := cutV1 _ _
    rw [ec]
    have sy := same_upd (o := .tup (pt.map V.int)) ny
    have hpt : SqT K (upd H1 y (.tup (pt.map V.int))) y (pt.map V.int) := SqT.of upd_same
    have hq2 := sqT_same hq1 sy
    refine ⟨_, rfl, y, q, _, _, rfl, rfl, hpt, hq2, ?_, fun c H2 s2 hc => ?_⟩
    · rw [List.length_map, lr]
      rw [List.length_cons] at p12
      exact Nat.le_trans (show pt.length + ring.length ≤ 24 by omega) (by decide)
    rw [← List.map_append] at hc
    have hall : ∀ x ∈ pt ++ ring, 1 ≤ x := one
    have hln : (pt ++ ring).length ≤ 30 := by
      rw [List.length_append]
      rw [List.length_cons] at p12
      omega
    generalize pt ++ ring = row at hc hall hln
    have lrow : (row.map V.int).length = row.length := List.length_map _
    refine ⟨c, rfl, ⟨_, hc⟩, fun D0 nD => lc_tup (K := K) (a := c) (xs := row.map V.int) (fun i H' => i ≤ row.length ∧ H' D0 = some (.lst ((List.replicate i true).map V.bl)) ∧ Same H2 H') ⟨Nat.zero_le _, upd_same, same_upd nD⟩ (fun i H' _ z => sqT_same hc z.2.2) ?_ ?_⟩
    · rintro i y H' hi ⟨hle, hD, sH⟩
      obtain ⟨x, hx, rfl⟩ : ∃ x, x ∈ row ∧ y = V.int x := by
        rw [List.getElem?_map] at hi
        cases e : row[i]? with
        | none => rw [e] at hi; cases hi
        | some z => rw [e] at hi; exact ⟨z, List.mem_of_getElem? e, (Option.some.inj hi).symm⟩
      have hil : i < row.length := by
        have := (List.getElem?_eq_some_iff.mp hi).1
        rw [lrow] at this
        exact this
      refine ⟨rfl, _, rfl, _, _, rfl, rfl, _, hD, ?_, hil, ?_, fun b o e => ?_⟩
      · rw [List.length_map, List.length_replicate]
        exact Nat.lt_of_lt_of_le (show i < 31 by omega) (by decide)
      · rw [upd_same, ← rep_succ]
        show some (HO.lst ((List.replicate i true).map V.bl ++ [V.bl (decide (1 ≤ x))])) = _
        rw [decide_eq_true (hall x hx)]
      · rw [upd_ne (ne_of_none e nD)]
        exact sH b o e
    · rintro H3 ⟨_, hD, s3⟩
      rw [lrow] at hD
      refine ⟨D0, _, rfl, SqL.of hD, _, _, rfl, all_true _, ?_⟩
      -- steps are 0 or more
      have hu3 := sqT_same (sqT_same (sqT_same hu1 sy) s2) s3
      have lst : (steps.map V.int).length = steps.length := List.length_map _
      refine ⟨_, rfl, u, rfl, ⟨_, hu3⟩, fun D1 nD1 => lc_tup (K := K) (a := u) (xs := steps.map V.int) (fun i H' => i ≤ steps.length ∧ H' D1 = some (.lst ((List.replicate i true).map V.bl)) ∧ Same H3 H') ⟨Nat.zero_le _, upd_same, same_upd nD1⟩ (fun i H' _ z => sqT_same hu3 z.2.2) ?_ ?_⟩
      · rintro i y H' hi ⟨hle, hD, sH⟩
        obtain ⟨x, hx, rfl⟩ : ∃ x, x ∈ steps ∧ y = V.int x := by
          rw [List.getElem?_map] at hi
          cases e : steps[i]? with
          | none => rw [e] at hi; cases hi
          | some z => rw [e] at hi; exact ⟨z, List.mem_of_getElem? e, (Option.some.inj hi).symm⟩
        have hil : i < steps.length := by
          have := (List.getElem?_eq_some_iff.mp hi).1
          rw [lst] at this
          exact this
        refine ⟨rfl, _, rfl, _, _, rfl, rfl, _, hD, ?_, hil, ?_, fun b o e => ?_⟩
        · rw [List.length_map, List.length_replicate]
          exact Nat.lt_of_lt_of_le (show i < 31 by omega) (by decide)
        · rw [upd_same, ← rep_succ]
          show some (HO.lst ((List.replicate i true).map V.bl ++ [V.bl (decide (0 ≤ x))])) = _
          rw [decide_eq_true (nn x hx)]
        · rw [upd_ne (ne_of_none e nD1)]
          exact sH b o e
      · rintro H4 ⟨_, hD1, s4⟩
        rw [lst] at hD1
        refine ⟨D1, _, rfl, SqL.of hD1, _, _, rfl, all_true _, ?_⟩
        have s14 : Same H1 H4 := ((sy.trans s2).trans s3).trans s4
        have hq4 := sqT_same hq1 s14
        have hp4 := sqT_same hp1 s14
        -- the last part of a chain that ends
        refine ⟨_, rfl, q, _, rfl, .inr hq4, rfl, ?_⟩
        refine ⟨_, rfl, _, rfl, _, rfl, ?_⟩
        by_cases cr : ring = []
        · have e1 : decide (V.int (((ring.map V.int).length : Nat) : Int) = V.int 0) = true := by rw [cr]; rfl
          rw [e1]
          refine iteF ⟨_, rfl, p, _, rfl, .inr hp4, rfl, _, rfl, ?_⟩
          rcases last cr with h1 | ⟨z, hz, z2⟩
          · have e2 : decide (V.int ((((p0 :: pt).map V.int).length : Nat) : Int) = V.int 1) = true := decide_eq_true (by rw [lp, h1]; rfl)
            rw [e2]
            exact iteT ⟨_, _, rfl, rfl, k _ (sm.trans s14)⟩
          · by_cases c2 : decide (V.int ((((p0 :: pt).map V.int).length : Nat) : Int) = V.int 1) = true
            · rw [c2]
              exact iteT ⟨_, _, rfl, rfl, k _ (sm.trans s14)⟩
            · rw [Bool.not_eq_true] at c2
              rw [c2]
              refine iteF ⟨_, rfl, 1, rfl, p, _, _, _, rfl, rfl, hp4, at_last hz, _, _, rfl, rfl, _, _, rfl, decide_eq_true z2, k _ (sm.trans s14)⟩
        · have e1 : decide (V.int (((ring.map V.int).length : Nat) : Int) = V.int 0) = false := by rw [len_eq_nil]; exact decide_eq_false cr
          rw [e1]
          exact iteT ⟨_, _, rfl, rfl, k _ (sm.trans s14)⟩
end
/-! ### check_at_depth: by the word's own check -/
def sp_check_at (K : PySem.W.Frag) (sF sR sU sO sE sP : Sp) : Sp := fun vs H Q _ => ∃ (a : Addr) (word : Str) (rest : List V) (d : Int), vs = [.ref a, .int d] ∧ d ≤ 5 ∧ SqT K H a (.str word :: rest) ∧
  ((word = "fraction" ∧ rest.length = 2 ∧ sF [.ref a, .int d] H (fun _ => Q .non) E0) ∨ (word = "root" ∧ rest.length = 3 ∧ sR [.ref a, .int d] H (fun _ => Q .non) E0) ∨ (word = "ruled" ∧ rest.length = 3 ∧ sU [.ref a, .int d] H (fun _ => Q .non) E0) ∨
   (word = "four" ∧ rest.length = 2 ∧ sO [.ref a, .int d] H (fun _ => Q .non) E0) ∨ (word = "eight" ∧ rest.length = 3 ∧ sE [.ref a, .int d] H (fun _ => Q .non) E0) ∨ (word = "power" ∧ rest.length = 2 ∧ sP [.ref a, .int d] H (fun _ => Q .non) E0))
section
variable {P : Program} {w : World} {K : PySem.W.Frag} {mg : Str → Option Value} {base : Heap} {A : Ad}
theorem ok_check_at_depth {k : Nat} {sF sR sU sO sE sP : Sp} (T : CT K mg A) (TT : TB K w mg A) (D : DT K mg A) (hk : 1 ≤ k)
    (G_check_fraction : COk P w K mg base CX0 k "check_fraction" ["tree", "depth"] sF) (G_check_root : COk P w K mg base CX0 k "check_root" ["tree", "depth"] sR) (G_check_ruled : COk P w K mg base CX0 k "check_ruled" ["tree", "depth"] sU)
    (G_check_four : COk P w K mg base CX0 k "check_four" ["tree", "depth"] sO) (G_check_eight : COk P w K mg base CX0 k "check_eight" ["tree", "depth"] sE) (G_check_power : COk P w K mg base CX0 k "check_power" ["tree", "depth"] sP) :
    COk P w K mg base CX0 (k + 1) "check_at_depth" ["tree", "depth"] (sp_check_at K sF sR sU sO sE sP) := by
  have G_require : COk P w K mg base CX0 k "require" ["holds", "why"] sp_require := (ok_require D).mono hk
  obtain ⟨tD, gi_MOST_DEPTH⟩ := T.i_MOST_DEPTH
  refine COk.by D.check_at_depth fun f fd F => ?_
  refine F.ok sc_check_at_depth (fun vs H Q E h => ?_) (fun cdv Ar outer s H vs Q E hr h => ?_)
  · obtain ⟨a, word, rest, d, rfl, _⟩ := h
    rfl
  · obtain ⟨a, word, rest, d, rfl, hd, ha, hw⟩ := h
    refine ⟨_, (pss_cons (ps_expr (pe_c G_require (hr.mono (by first | decide | omega)) (pa_cons (pe_cmpR op_le (pv 1) (pe_glob (v := .int 5) (by rfl) gi_MOST_DEPTH ⟨_, rfl⟩) (nomark _)) (pa_cons pe_str pa_nil))))
    (pss_cons (ps_expr (pe_c G_require (hr.mono (by first | decide | omega)) (pa_cons (pe_and (pe_callB call_isi (by rfl) T.b_isinstance (by decide +kernel) (pa_cons (pv 0) (pa_cons (pe_bltn (v := .ty "tuple") (by rfl) T.b_tuple (by decide +kernel) rfl) pa_nil))) (pe_one (pe_cmpR op_gt (pe_callB call_len_seq (by rfl) T.b_len (by decide +kernel) (pa_cons (pv 0) pa_nil)) pe_int (nomark _)))) (pa_cons pe_str pa_nil))))
    (pss_cons (ps_set (i := 2) sc_check_at_depth.nd rfl (Or.inl rfl) (pe_ix ix_tup (pv 0) pe_int (fun _ _ => rfl)))
    (pss_cons (ps_expr (pe_c G_require (hr.mono (by first | decide | omega)) (pa_cons (pe_and (pe_callB call_isi (by rfl) T.b_isinstance (by decide +kernel) (pa_cons (pv 2) (pa_cons (pe_bltn (v := .ty "str") (by rfl) T.b_str (by decide +kernel) rfl) pa_nil))) (pe_one (pe_cmpR (op_in_kd' TT.dL) (pv 2) (pe_glob (v := .ref A.k_LENGTHS) (by rfl) T.g_LENGTHS rfl) rfl))) (pa_cons pe_str pa_nil))))
    (pss_cons (ps_expr (pe_c G_require (hr.mono (by first | decide | omega)) (pa_cons (pe_cmpR op_eq (pe_callB call_len_seq (by rfl) T.b_len (by decide +kernel) (pa_cons (pv 0) pa_nil)) (pe_ix (ix_kd TT.dL) (pe_glob (v := .ref A.k_LENGTHS) (by rfl) T.g_LENGTHS rfl) (pv 2) (fun _ _ => rfl)) (nomark _)) (pa_cons pe_str pa_nil))))
    (pss_cons (ps_set (i := 3) sc_check_at_depth.nd rfl (Or.inl rfl) (pe_ix (ix_kd TT.dC) (pe_glob (v := .ref A.k_CHECKS) (by rfl) T.g_CHECKS rfl) (pv 2) (fun _ _ => rfl)))
    (pss_one (ps_expr ((pe_alt (pe_cL G_check_fraction hr (i := 3) rfl (Or.inl rfl) (pa_cons (pv 0) (pa_cons (pv 1) pa_nil))) (pe_alt (pe_cL G_check_root hr (i := 3) rfl (Or.inl rfl) (pa_cons (pv 0) (pa_cons (pv 1) pa_nil))) (pe_alt (pe_cL G_check_ruled hr (i := 3) rfl (Or.inl rfl) (pa_cons (pv 0) (pa_cons (pv 1) pa_nil))) (pe_alt (pe_cL G_check_four hr (i := 3) rfl (Or.inl rfl) (pa_cons (pv 0) (pa_cons (pv 1) pa_nil))) (pe_alt (pe_cL G_check_eight hr (i := 3) rfl (Or.inl rfl) (pa_cons (pv 0) (pa_cons (pv 1) pa_nil))) (pe_cL G_check_power hr (i := 3) rfl (Or.inl rfl) (pa_cons (pv 0) (pa_cons (pv 1) pa_nil))))))))))))))))), ?_⟩
    -- depth
    refine ⟨_, rfl, _, _, rfl, rfl, _, _, rfl, decide_eq_true hd, ?_⟩
    -- a tuple of something
    refine ⟨_, rfl, _, _, _, _, true, rfl, .ty "tuple", tyT ha, kit_ty (by decide +kernel), _, rfl, iteT ⟨_, rfl, a, _, rfl, .inr ha, _, _, rfl, rfl, _, _, rfl, decide_eq_true (by rw [List.length_cons]; omega), ?_⟩⟩
    refine ⟨_, rfl, a, _, 0, .str word, rfl, rfl, ha, atI_nat (j := 0) rfl, ?_⟩
    have key : ∀ {n : Int}, (word, n) ∈ ([("fraction", 3), ("root", 4), ("ruled", 4), ("four", 3), ("eight", 4), ("power", 3)] : List (Str × Int)) → n = (rest.length : Int) + 1 → ∃ t, PySem.W.nsIn K A.k_LENGTHS word = some (some (.int ((rest.length : Int) + 1) t)) := fun {n} hm e => by
      rw [← e]
      exact TT.lens word n hm
    have hlen : ∃ t, PySem.W.nsIn K A.k_LENGTHS word = some (some (.int ((rest.length : Int) + 1) t)) := by
      rcases hw with ⟨rfl, e, _⟩ | ⟨rfl, e, _⟩ | ⟨rfl, e, _⟩ | ⟨rfl, e, _⟩ | ⟨rfl, e, _⟩ | ⟨rfl, e, _⟩
      · exact key (n := 3) (by simp) (by omega)
      · exact key (n := 4) (by simp) (by omega)
      · exact key (n := 4) (by simp) (by omega)
      · exact key (n := 3) (by simp) (by omega)
      · exact key (n := 4) (by simp) (by omega)
      · exact key (n := 3) (by simp) (by omega)
    obtain ⟨tl, hl⟩ := hlen
    refine ⟨_, rfl, _, _, _, _, true, rfl, .ty "str", .base (.str word), kit_ty (by decide +kernel), _, rfl, iteT ⟨_, rfl, word, _, rfl, rfl, hl, _, _, rfl, rfl, ?_⟩⟩
    refine ⟨_, rfl, a, _, rfl, .inr ha, _, rfl, word, _, .int ((rest.length : Int) + 1), rfl, rfl, hl, ⟨_, rfl⟩, rfl, _, _, rfl, decide_eq_true (by rw [List.length_cons]; rfl), ?_⟩
    have chk : ∀ {y : Str} {sp : Sp}, (word, y) ∈ ([("fraction", "check_fraction"), ("root", "check_root"), ("ruled", "check_ruled"), ("four", "check_four"), ("eight", "check_eight"), ("power", "check_power")] : List (Str × Str)) → COk P w K mg base CX0 k y ["tree", "depth"] sp → ∃ f, mg y = some (.ref f) ∧ PySem.W.nsIn K A.k_CHECKS word = some (some (.ref f)) := fun {y sp} hm C => by
      obtain ⟨f, fd, _, e, _⟩ := C
      exact ⟨f, e, TT.chks word y f hm e⟩
    rcases hw with ⟨rfl, e, q⟩ | ⟨rfl, e, q⟩ | ⟨rfl, e, q⟩ | ⟨rfl, e, q⟩ | ⟨rfl, e, q⟩ | ⟨rfl, e, q⟩
    · obtain ⟨f1, e1, e2⟩ := chk (y := "check_fraction") (by simp) G_check_fraction
      exact ⟨_, rfl, _, _, .ref f1, rfl, rfl, e2, rfl, .inl ⟨fun g eg => by cases e1.symm.trans eg; rfl, _, rfl, _, rfl, q⟩⟩
    · obtain ⟨f1, e1, e2⟩ := chk (y := "check_root") (by simp) G_check_root
      exact ⟨_, rfl, _, _, .ref f1, rfl, rfl, e2, rfl, .inr (.inl ⟨fun g eg => by cases e1.symm.trans eg; rfl, _, rfl, _, rfl, q⟩)⟩
    · obtain ⟨f1, e1, e2⟩ := chk (y := "check_ruled") (by simp) G_check_ruled
      exact ⟨_, rfl, _, _, .ref f1, rfl, rfl, e2, rfl, .inr (.inr (.inl ⟨fun g eg => by cases e1.symm.trans eg; rfl, _, rfl, _, rfl, q⟩))⟩
    · obtain ⟨f1, e1, e2⟩ := chk (y := "check_four") (by simp) G_check_four
      exact ⟨_, rfl, _, _, .ref f1, rfl, rfl, e2, rfl, .inr (.inr (.inr (.inl ⟨fun g eg => by cases e1.symm.trans eg; rfl, _, rfl, _, rfl, q⟩)))⟩
    · obtain ⟨f1, e1, e2⟩ := chk (y := "check_eight") (by simp) G_check_eight
      exact ⟨_, rfl, _, _, .ref f1, rfl, rfl, e2, rfl, .inr (.inr (.inr (.inr (.inl ⟨fun g eg => by cases e1.symm.trans eg; rfl, _, rfl, _, rfl, q⟩))))⟩
    · obtain ⟨f1, e1, e2⟩ := chk (y := "check_power") (by simp) G_check_power
      exact ⟨_, rfl, _, _, .ref f1, rfl, rfl, e2, rfl, .inr (.inr (.inr (.inr (.inr ⟨fun g eg => by cases e1.symm.trans eg; rfl, _, rfl, _, rfl, q⟩))))⟩
/-- a promise that is never asked for -/
abbrev spNo : Sp := fun _ _ _ _ => False
theorem ok_no {k : Nat} {x : Str} {st : Stmt} {ps : List Str} (D : ∃ f fd, DefAt K mg x st ps f fd) : COk P w K mg base CX0 k x ps spNo := by
  obtain ⟨f, fd, F⟩ := D
  exact .of F ⟨(fun _ _ _ _ h => h.elim), (fun _ _ _ _ _ _ _ _ _ _ _ _ _ h => h.elim)⟩
/-- check_tree at level k + 1, over check_at_depth at level k -/
theorem ok_check_tree {k : Nat} {sp : Sp} (D : DT K mg A) (G_check_at_depth : COk P w K mg base CX0 k "check_at_depth" ["tree", "depth"] sp) :
    COk P w K mg base CX0 (k + 1) "check_tree" ["tree"] (fun vs H Q _ => ∃ v, vs = [v] ∧ sp [v, .int 1] H (fun _ => Q .non) E0) := by
  refine COk.by D.check_tree fun f fd F => ?_
  refine F.ok sc_check_tree (fun vs H Q E h => ?_) (fun cdv Ar outer s H vs Q E hr h => ?_)
  · obtain ⟨v, rfl, _⟩ := h
    rfl
  · obtain ⟨v, rfl, q⟩ := h
    refine ⟨_, (pss_one (ps_expr (pe_c G_check_at_depth (hr.mono (by first | decide | omega)) (pa_cons (pv 0) (pa_cons pe_int pa_nil))))), ?_⟩
    exact ⟨_, rfl, q⟩
end
/-! ### the meter, a leaf's asking, a reading of a leaf -/
section
variable {P : Program} {w : World} {K : PySem.W.Frag} {mg : Str → Option Value} {base : Heap} {A : Ad}
theorem root_there : ∀ s : Int, 0 ≤ s → ∃ r, IsRoot s r := by
  have key : ∀ n : Nat, ∃ r, IsRoot (n : Int) r := fun n => by
    induction n with
    | zero => exact ⟨0, by decide, by decide, by decide⟩
    | succ n ih =>
      obtain ⟨r, h0, h1, h2⟩ := ih
      have e1 : (r + 1 + 1) * (r + 1 + 1) = (r + 1) * (r + 1) + 2 * (r + 1) + 1 := by grind
      by_cases c : ((n + 1 : Nat) : Int) < (r + 1) * (r + 1)
      · exact ⟨r, h0, by omega, c⟩
      · exact ⟨r + 1, by omega, by omega, by omega⟩
  intro s hs
  obtain ⟨n, rfl⟩ := Int.eq_ofNat_of_zero_le hs
  exact key n
theorem ok_Meter_init (T : CT K mg A) (D : DT K mg A) : IOk P w K mg base 1 "Meter" A.c_Meter ["self"] (sp_ini A.c_Meter 0 fun _ => meF 0 0) := by
  refine IOk.of T.g_Meter D.Meter_init fun f fd F => ?_
  refine F.ok sc_Meter_init (fun vs H Q E h => ?_) (fun cdv Ar outer s H vs Q E hr h => ?_)
  · obtain ⟨p, dx, us, rfl, hl, _⟩ := h
    show us.length + 1 = 1
    omega
  · obtain ⟨p, dx, us, rfl, hl, hp, k⟩ := h
    match us, hl with
    | [], _ =>
      refine ⟨_, (pss_cons (ps_fld (pv 0) pe_int rfl)
    (pss_one (ps_fld (pv 0) pe_int rfl))), ?_⟩
      refine ⟨_, rfl, p, _, dx, [], rfl, hp, T.cl_Meter, T.n_Meter_left, (by show 0 < 1000; decide), ?_⟩
      refine ⟨_, rfl, p, _, dx, _, rfl, upd_same, T.cl_Meter, T.n_Meter_spent, (by show 1 < 1000; decide), ?_⟩
      refine cast (congrArg (Q V.non) ?_) k
      rw [upd_upd]
      rfl
theorem ok_Meter_allow (T : CT K mg A) (D : DT K mg A) : MOk P w K mg base CX0 1 A.c_Meter "allow" ["self", "most"] (fun vs H Q _ => ∃ m dx l s n, vs = [.ref m, .int n] ∧ H m = some (.ins A.c_Meter dx (meF l s)) ∧ Q .non (upd H m (.ins A.c_Meter dx (meF n s)))) := by
  refine MOk.of T.cl_Meter D.Meter_allow fun f fd F => ?_
  refine F.ok sc_Meter_allow (fun vs H Q E h => ?_) (fun cdv Ar outer s H vs Q E hr h => ?_)
  · obtain ⟨m, dx, l, sp, n, rfl, _⟩ := h
    rfl
  · obtain ⟨m, dx, l, sp, n, rfl, hm, k⟩ := h
    refine ⟨_, (pss_one (ps_fld (pv 0) (pv 1) rfl)), ?_⟩
    exact ⟨_, rfl, _, rfl, m, _, dx, _, rfl, hm, T.cl_Meter, T.n_Meter_left, (by show 2 < 1000; decide), k⟩
theorem ok_Meter_pay (T : CT K mg A) (D : DT K mg A) : MOk P w K mg base CX0 1 A.c_Meter "pay" ["self"] (fun vs H Q _ => ∃ m dx l s, vs = [.ref m] ∧ H m = some (.ins A.c_Meter dx (meF l s)) ∧ Q .non (upd H m (.ins A.c_Meter dx (meF (l - 1) (s + 1))))) := by
  refine MOk.of T.cl_Meter D.Meter_pay fun f fd F => ?_
  refine F.ok sc_Meter_pay (fun vs H Q E h => ?_) (fun cdv Ar outer s H vs Q E hr h => ?_)
  · obtain ⟨m, dx, l, sp, rfl, _⟩ := h
    rfl
  · obtain ⟨m, dx, l, sp, rfl, hm, k⟩ := h
    refine ⟨_, (pss_cons (ps_fldaug (pv 0) pe_int in_sub)
    (pss_one (ps_fldaug (pv 0) pe_int in_add))), ?_⟩
    refine ⟨_, rfl, m, _, dx, _, _, rfl, hm, T.cl_Meter, T.n_Meter_left, rfl, _, _, rfl, rfl, dx, _, hm, (by show 2 < 1000; decide), ?_⟩
    refine ⟨_, rfl, m, _, dx, _, _, rfl, upd_same, T.cl_Meter, T.n_Meter_spent, rfl, _, _, rfl, rfl, dx, _, upd_same, (by show 2 < 1000; decide), ?_⟩
    refine cast (congrArg (Q V.non) ?_) k
    rw [upd_upd]
    rfl
/-! what is told -/
inductive Ans where
  | part (n : Int) | fin | waits
def Ans.At (A : Ad) (H : Hp) (v : V) : Ans → Prop
  | .part n => ∃ p, v = .ref p ∧ H p = some (.tup [.str "part", .int n])
  | .fin => v = .ref A.k_END
  | .waits => v = .ref A.k_WAITS
/-- a leaf, asked with l parts to be taken -/
def Chain.ans (c : Chain) (l : Int) : Ans := if c.ended = true then .fin else if l < 1 then .waits else .part c.part
def Chain.then_ (c : Chain) (l : Int) : Chain := if c.ended = true then c else if l < 1 then c else c.next
def Chain.took (c : Chain) (l : Int) : Int := if c.ended = true then 0 else if l < 1 then 0 else 1
/-- a leaf at a, its chain at c -/
def LeafAt (A : Ad) (K : PySem.W.Frag) (H : Hp) (a c : Addr) (ch : Chain) : Prop := (∃ dx, H a = some (.ins A.c_Leaf dx (leF c))) ∧ Chain.At A K H c ch
/-- what holds of a chain, where the rest is kept -/
theorem Chain.At.kept {H H' : Hp} {a : Addr} {ch : Chain} {N : Addr → Prop} (h : Chain.At A K H a ch) (hn : ¬ N a) (k : ∀ b o, H b = some o → ¬ N b → H' b = some o) (hN : ∀ b o, N b → H b = some o → (∀ ys, o ≠ .tup ys) ∧ ∀ ob u, o ≠ .frz ob u) : Chain.At A K H' a ch := by
  cases ch with
  | frac t b => obtain ⟨dx, e⟩ := h; exact ⟨dx, k _ _ e hn⟩
  | root t s b r => obtain ⟨dx, e⟩ := h; exact ⟨dx, k _ _ e hn⟩
  | ruled ps ring steps i =>
    obtain ⟨dx, p, q, u, e, hp, hq, hu⟩ := h
    exact ⟨dx, p, q, u, k _ _ e hn, sqT_but hp k hN, sqT_but hq k hN, sqT_but hu k hN⟩
theorem Chain.At.same {H H' : Hp} {a : Addr} {ch : Chain} (h : Chain.At A K H a ch) (k : Same H H') : Chain.At A K H' a ch :=
  h.kept (N := fun _ => False) (fun z => z) (fun b o e _ => k b o e) fun _ _ z => z.elim
theorem Chain.At.there {H : Hp} {a : Addr} {ch : Chain} (h : Chain.At A K H a ch) : ∃ C dx fs, H a = some (.ins C dx fs) := by
  cases ch with
  | frac t b => obtain ⟨dx, e⟩ := h; exact ⟨_, _, _, e⟩
  | root t s b r => obtain ⟨dx, e⟩ := h; exact ⟨_, _, _, e⟩
  | ruled ps ring steps i => obtain ⟨dx, p, q, u, e, _⟩ := h; exact ⟨_, _, _, e⟩
theorem Chain.At.cls {H : Hp} {a C dx : Addr} {fs : Flds} {ch : Chain} (h : Chain.At A K H a ch) (e : H a = some (.ins C dx fs)) : fs.lookup ("has_ended" : Str) = none ∧ fs.lookup ("next_part" : Str) = none := by
  cases ch with
  | frac t b => obtain ⟨dx', e'⟩ := h; rw [e'] at e; cases e; exact ⟨rfl, rfl⟩
  | root t s b r => obtain ⟨dx', e'⟩ := h; rw [e'] at e; cases e; exact ⟨rfl, rfl⟩
  | ruled ps ring steps i => obtain ⟨dx', p, q, u, e', _⟩ := h; rw [e'] at e; cases e; exact ⟨rfl, rfl⟩
theorem ins_no {C dx : Addr} {fs : Flds} {o : HO} (e : o = .ins C dx fs) : (∀ ys, o ≠ .tup ys) ∧ ∀ ob u, o ≠ .frz ob u := by
  subst e
  exact ⟨fun _ q => (by cases q), fun _ _ q => (by cases q)⟩
theorem Chain.Ok.next {ch : Chain} (h : ch.Ok) (he : ch.ended = false) : ch.next.Ok := by
  cases ch with
  | frac t b =>
    have hb : b ≠ 0 := fun z => by subst z; cases he
    exact ⟨h.2, small_fm h.2 hb⟩
  | root t s b r => exact root_next h
  | ruled ps ring steps i => exact h
def sp_Leaf_ask (A : Ad) (K : PySem.W.Frag) : Sp := fun vs H Q _ => ∃ (a c m : Addr) (ch : Chain) (l s : Int), vs = [.ref a, .ref m] ∧ LeafAt A K H a c ch ∧ ch.Ok ∧ MeterAt A H m l s ∧ a ≠ c ∧ a ≠ m ∧ c ≠ m ∧
  ∀ v H', LeafAt A K H' a c (ch.then_ l) → MeterAt A H' m (l - ch.took l) (s + ch.took l) → (ch.ans l).At A H' v → (∀ b o, H b = some o → b ≠ c → b ≠ m → H' b = some o) → Q v H'
theorem ok_Leaf_ask (T : CT K mg A) (D : DT K mg A) : MOk P w K mg base CX0 2 A.c_Leaf "ask" ["self", "meter"] (sp_Leaf_ask A K) := by
  have M1 := ok_FractionChain_has_ended (P := P) (w := w) (base := base) T D
  have M2 := ok_RootChain_has_ended (P := P) (w := w) (base := base) T D
  have M3 := ok_RuledChain_has_ended (P := P) (w := w) (base := base) T D
  have N1 := ok_FractionChain_next_part (P := P) (w := w) (base := base) T D
  have N2 := ok_RootChain_next_part (P := P) (w := w) (base := base) T D
  have N3 := ok_RuledChain_next_part (P := P) (w := w) (base := base) T D
  have M_pay := ok_Meter_pay (P := P) (w := w) (base := base) T D
  refine MOk.of T.cl_Leaf D.Leaf_ask fun f fd F => ?_
  refine F.ok sc_Leaf_ask (fun vs H Q E h => ?_) (fun cdv Ar outer s H vs Q E hr h => ?_)
  · obtain ⟨a, c, m, ch, l, sp, rfl, _⟩ := h
    rfl
  · obtain ⟨a, c, m, ch, l, sp, rfl, ⟨⟨dx, ha⟩, hc⟩, ok, ⟨dm, hm⟩, nac, nam, ncm, k⟩ := h
    refine ⟨_, (C8.pss_cut (ps_if (pt_val ((pe_alt (pe_m0 M1 (hr.mono (by decide)) (pe_fld (pv 0) rfl)) (pe_alt (pe_m0 M2 (hr.mono (by decide)) (pe_fld (pv 0) rfl)) (pe_m0 M3 (hr.mono (by decide)) (pe_fld (pv 0) rfl))))))
      (pss_one (ps_ret (pe_glob (v := .ref A.k_END) (by rfl) T.g_END rfl))) pss_nil)
    (pss_cons (ps_if (pt_cmpR op_lt (pe_fld (pv 1) rfl) pe_int (nomark _))
      (pss_one (ps_ret (pe_glob (v := .ref A.k_WAITS) (by rfl) T.g_WAITS rfl))) pss_nil)
    (pss_cons (ps_expr (pe_m0 M_pay (hr.mono (by first | decide | omega)) (pv 1)))
    (pss_one (ps_ret (pe_tup (pa_cons pe_str (pa_cons ((pe_alt (pe_m0 N1 (hr.mono (by decide)) (pe_fld (pv 0) rfl)) (pe_alt (pe_m0 N2 (hr.mono (by decide)) (pe_fld (pv 0) rfl)) (pe_m0 N3 (hr.mono (by decide)) (pe_fld (pv 0) rfl))))) pa_nil)))))))), ?_⟩
    have cl := T.cl_Leaf
    obtain ⟨C, dc, fs, hcs⟩ := hc.there
    obtain ⟨lk1, lk2⟩ := hc.cls hcs
    refine ⟨fun σ H2 => σ = [some (.ref a), some (.ref m)] ∧ H2 = H ∧ ch.ended = false, ?_, ?_⟩
    · -- has it ended
      have two : ∀ {b : Bool}, b = ch.ended → (if b = true then tRet (tC (V.ref A.k_END)) { nx := fun σ H2 => σ = [some (.ref a), some (.ref m)] ∧ H2 = H ∧ ch.ended = false, rt := Q } [some (.ref a), some (.ref m)] H else tNext { nx := fun σ H2 => σ = [some (.ref a), some (.ref m)] ∧ H2 = H ∧ ch.ended = false, rt := Q } [some (.ref a), some (.ref m)] H) := fun {b} e => by
        subst e
        cases he : ch.ended with
        | true =>
          rw [if_pos rfl]
          have e1 : ch.ans l = .fin := by unfold Chain.ans; rw [if_pos he]
          have e2 : ch.then_ l = ch := by unfold Chain.then_; rw [if_pos he]
          have e3 : ch.took l = 0 := by unfold Chain.took; rw [if_pos he]
          refine k _ H ?_ ?_ ?_ (fun b o e _ _ => e)
          · rw [e2]; exact ⟨⟨dx, ha⟩, hc⟩
          · rw [e3, Int.sub_zero, Int.add_zero]; exact ⟨dm, hm⟩
          · rw [e1]; rfl
        | false =>
          rw [if_neg (by decide)]
          exact ⟨rfl, rfl, rfl⟩
      cases ch with
      | frac t b =>
        obtain ⟨dc', hc'⟩ := id hc
        exact .inl ⟨_, rfl, a, _, dx, _, _, rfl, ha, cl, T.n_Leaf_chain, rfl, c, dc', _, rfl, hc', rfl, c, t, b, rfl, hc, _, rfl, two rfl⟩
      | root t s b r =>
        obtain ⟨dc', hc'⟩ := id hc
        exact .inr (.inl ⟨_, rfl, a, _, dx, _, _, rfl, ha, cl, T.n_Leaf_chain, rfl, c, dc', _, rfl, hc', rfl, c, rfl, _, rfl, two rfl⟩)
      | ruled ps ring steps i =>
        obtain ⟨dc', p, q, u, hc', _⟩ := id hc
        exact .inr (.inr ⟨_, rfl, a, _, dx, _, _, rfl, ha, cl, T.n_Leaf_chain, rfl, c, dc', _, rfl, hc', rfl, c, ps, ring, steps, i, rfl, hc, _, rfl, two rfl⟩)
    · rintro σ H2 ⟨rfl, rfl, he⟩
      refine ⟨_, rfl, m, _, dm, _, _, rfl, hm, T.cl_Meter, T.n_Meter_left, rfl, _, _, rfl, rfl, _, rfl, ite2 (fun cl1 => ?_) (fun cl1 => ?_)⟩
      · have hl : l < 1 := of_decide_eq_true cl1
        have e1 : ch.ans l = .waits := by unfold Chain.ans; rw [he, if_neg (by decide), if_pos hl]
        have e2 : ch.then_ l = ch := by unfold Chain.then_; rw [he, if_neg (by decide), if_pos hl]
        have e3 : ch.took l = 0 := by unfold Chain.took; rw [he, if_neg (by decide), if_pos hl]
        refine k _ _ ?_ ?_ ?_ (fun b o e _ _ => e)
        · rw [e2]; exact ⟨⟨dx, ha⟩, hc⟩
        · rw [e3, Int.sub_zero, Int.add_zero]; exact ⟨dm, hm⟩
        · rw [e1]; rfl
      · have hl : ¬ l < 1 := fun z => cl1 (decide_eq_true z)
        have e1 : ch.ans l = .part ch.part := by unfold Chain.ans; rw [he, if_neg (by decide), if_neg hl]
        have e2 : ch.then_ l = ch.next := by unfold Chain.then_; rw [he, if_neg (by decide), if_neg hl]
        have e3 : ch.took l = 1 := by unfold Chain.took; rw [he, if_neg (by decide), if_neg hl]
        rw [e1, e2, e3] at k
        -- pay
        refine ⟨_, rfl, m, dm, _, rfl, hm, rfl, m, dm, l, sp, rfl, hm, ?_⟩
        have kp1 : ∀ b o, H2 b = some o → b ≠ m → (upd H2 m (.ins A.c_Meter dm (meF (l - 1) (sp + 1)))) b = some o := fun b o e hb => by rw [upd_ne hb]; exact e
        have hc1 : Chain.At A K (upd H2 m (.ins A.c_Meter dm (meF (l - 1) (sp + 1)))) c ch := hc.kept (N := fun b => b = m) ncm kp1 fun b o e z => by subst e; rw [hm] at z; exact ins_no (Option.some.inj z).symm
        have ha1 := kp1 a _ ha nam
        have hm1 : (upd H2 m (.ins A.c_Meter dm (meF (l - 1) (sp + 1)))) m = some (.ins A.c_Meter dm (meF (l - 1) (sp + 1))) := upd_same
        have hcs1 := kp1 c _ hcs ncm
        generalize upd H2 m (.ins A.c_Meter dm (meF (l - 1) (sp + 1))) = H3 at *
        have fin : ∀ H4, Chain.At A K H4 c ch.next → (∀ b o, H3 b = some o → b ≠ c → H4 b = some o) → ∀ p, H4 p = none → Q (.ref p) (upd H4 p (.tup [.str "part", .int ch.part])) := fun H4 hn kp4 p np => by
          have s5 := same_upd (o := .tup [V.str "part", .int ch.part]) np
          refine k _ _ ⟨⟨dx, s5 _ _ (kp4 a _ ha1 nac)⟩, hn.same s5⟩ ⟨dm, s5 _ _ (kp4 m _ hm1 (Ne.symm ncm))⟩ ⟨p, rfl, upd_same⟩ fun b o e hb hb2 => s5 _ _ (kp4 b o (kp1 b o e hb2) hb)
        have two : (2 : Nat) ≤ sizeLine := by decide
        cases ch with
        | frac t b =>
          obtain ⟨dc', hc'⟩ := id hc1
          have hb : b ≠ 0 := fun z => by subst z; cases he
          exact .inl ⟨_, rfl, a, _, dx, _, _, rfl, ha1, cl, T.n_Leaf_chain, rfl, c, dc', _, rfl, hc', rfl, c, t, b, rfl, hc1, hb, ok.1, ok.2, fun H4 hn kp4 => ⟨two, fun p np => fin H4 hn kp4 p np⟩⟩
        | root t s b r =>
          obtain ⟨dc', hc'⟩ := id hc1
          exact .inr (.inl ⟨_, rfl, a, _, dx, _, _, rfl, ha1, cl, T.n_Leaf_chain, rfl, c, dc', _, rfl, hc', rfl, c, t, s, b, r, rfl, hc1, ok, fun H4 hn kp4 => ⟨two, fun p np => fin H4 hn kp4 p np⟩⟩)
        | ruled ps ring steps i =>
          obtain ⟨dc', p, q, u, hc', _⟩ := id hc1
          have hne : ring = [] → i < ps.length := fun z => by
            subst z
            have he' : decide (ps.length ≤ i) = false := he
            have := of_decide_eq_false he'
            omega
          exact .inr (.inr ⟨_, rfl, a, _, dx, _, _, rfl, ha1, cl, T.n_Leaf_chain, rfl, c, dc', _, rfl, hc', rfl, c, ps, ring, steps, i, rfl, hc1, ok, hne, fun H4 hn kp4 => ⟨two, fun p np => fin H4 hn kp4 p np⟩⟩)
theorem ok_Leaf_init (T : CT K mg A) (D : DT K mg A) : IOk P w K mg base 1 "Leaf" A.c_Leaf ["self", "chain"] (sp_ini A.c_Leaf 1 fun us => [("chain", us.getD 0 .non)]) := by
  refine IOk.of T.g_Leaf D.Leaf_init fun f fd F => ?_
  refine F.ok sc_Leaf_init (fun vs H Q E h => ?_) (fun cdv Ar outer s H vs Q E hr h => ?_)
  · obtain ⟨p, dx, us, rfl, hl, _⟩ := h
    show us.length + 1 = 2
    omega
  · obtain ⟨p, dx, us, rfl, hl, hp, k⟩ := h
    match us, hl with
    | [u0], _ =>
      refine ⟨_, (pss_one (ps_fld (pv 0) (pv 1) rfl)), ?_⟩
      exact ⟨_, rfl, _, rfl, p, _, dx, [], rfl, hp, T.cl_Leaf, T.n_Leaf_chain, (by show 0 < 1000; decide), k⟩
/-! trees of one leaf -/
inductive Leaf where
  | frac (t b : Int) | root (t s b : Int) | ruled (ps ring steps : List Int)
def Leaf.At (K : PySem.W.Frag) (H : Hp) (a : Addr) : Leaf → Prop
  | .frac t b => SqT K H a [.str "fraction", .int t, .int b]
  | .root t s b => SqT K H a [.str "root", .int t, .int s, .int b]
  | .ruled ps ring steps => ∃ p q u, SqT K H a [.str "ruled", .ref p, .ref q, .ref u] ∧ SqT K H p (ps.map V.int) ∧ SqT K H q (ring.map V.int) ∧ SqT K H u (steps.map V.int)
def Leaf.Good : Leaf → Prop
  | .frac t b => tame t ∧ tame b ∧ b ≠ 0
  | .root t s b => tame t ∧ tame s ∧ 0 ≤ s ∧ tame b ∧ b ≠ 0
  | .ruled ps ring steps => RuledGood ps ring steps
/-- the chain that a leaf begins with -/
def Leaf.Starts : Leaf → Chain → Prop
  | .frac t b, ch => ch = .frac t b
  | .root t s b, ch => ∃ r, IsRoot s r ∧ ((r * r = s ∧ ch = .frac (t + r) b) ∨ (r * r ≠ s ∧ ∃ q, IsRoot (s * (b.natAbs : Int) * (b.natAbs : Int)) q ∧ ch = .root (t * (b.natAbs : Int)) (s * (b.natAbs : Int) * (b.natAbs : Int)) (b * (b.natAbs : Int)) q))
  | .ruled ps ring steps, ch => ch = .ruled ps ring steps 0
theorem Leaf.At.same {H H' : Hp} {a : Addr} {f : Leaf} (h : f.At K H a) (k : Same H H') : f.At K H' a := by
  cases f with
  | frac t b => exact sqT_same h k
  | root t s b => exact sqT_same h k
  | ruled ps ring steps =>
    obtain ⟨p, q, u, e, hp, hq, hu⟩ := h
    exact ⟨p, q, u, sqT_same e k, sqT_same hp k, sqT_same hq k, sqT_same hu k⟩
/-- two new objects: an instance and its own dict -/
theorem made_same {H : Hp} {x dx : Addr} {o o' : HO} (nx : H x = none) (nd : H dx = none) : Same H (upd (upd H dx o) x o') := fun b u e => by
  rw [upd_ne (ne_of_none e nx), upd_ne (ne_of_none e nd)]
  exact e
def sp_root_chain (A : Ad) (K : PySem.W.Frag) : Sp := fun vs H Q _ => ∃ (t s b : Int), vs = [.int t, .int s, .int b] ∧ Leaf.Good (.root t s b) ∧
  ∀ c ch H', Chain.At A K H' c ch → Leaf.Starts (.root t s b) ch → ch.Ok → Same H H' → H c = none → Q (.ref c) H'
theorem ok_root_chain (T : CT K mg A) (D : DT K mg A) : COk P w K mg base CX0 4 "root_chain" ["top", "square", "below"] (sp_root_chain A K) := by
  have G_root_below : COk P w K mg base CX0 1 "root_below" ["number"] sp_root_below := COk.by D.root_below fun f fd F => ok_root_below F
  have I_FractionChain := ok_FractionChain_init (P := P) (w := w) (base := base) T D
  have I_RootChain := ok_RootChain_init (P := P) (w := w) (base := base) T D G_root_below root_there
  refine COk.by D.root_chain fun f fd F => ?_
  refine F.ok sc_root_chain (fun vs H Q E h => ?_) (fun cdv Ar outer s H vs Q E hr h => ?_)
  · obtain ⟨t, s, b, rfl, _⟩ := h
    rfl
  · obtain ⟨t, sq, b, rfl, ⟨ht, hs, hs0, hb, hb0⟩, k⟩ := h
    refine ⟨_, (pss_cons (ps_set (i := 3) sc_root_chain.nd rfl (Or.inl rfl) (pe_c G_root_below (hr.mono (by first | decide | omega)) (pa_cons (pv 1) pa_nil)))
    (pss_cons (ps_if (pt_cmpR op_eq (pe_op op_mul (pv 3) (pv 3)) (pv 1) (nomark _))
      (pss_one (ps_ret (pe_mk I_FractionChain (hr.mono (by first | decide | omega)) (pa_cons (pe_op op_add (pv 0) (pv 3)) (pa_cons (pv 2) pa_nil))))) pss_nil)
    (pss_one (ps_ret (pe_mk I_RootChain (hr.mono (by first | decide | omega)) (pa_cons (pv 0) (pa_cons (pv 1) (pa_cons (pv 2) pa_nil)))))))), ?_⟩
    obtain ⟨s1, s2⟩ := id hs
    obtain ⟨t1, t2⟩ := id ht
    refine ⟨_, rfl, sq, rfl, hs0, Int.lt_of_le_of_lt s2 (by decide +kernel), fun r hr0 => ?_⟩
    have r1 : r < 2 ^ 20 := lt_of_sq (k := 20) hr0.1 hr0.2.1 (Int.lt_of_le_of_lt s2 (by decide))
    have p20 : (2 : Int) ^ 20 = 1048576 := by decide
    have r0 := hr0.1
    have p64 : (2 : Int) ^ 64 = 18446744073709551616 := by decide
    have w64 : -(2 ^ 64) < r ∧ r < 2 ^ 64 := ⟨by omega, by omega⟩
    refine ⟨_, rfl, _, rfl, _, _, rfl, rfl, .inl w64, _, rfl, rfl, _, rfl, ite2 (fun c => ?_) (fun c => ?_)⟩
    · have e : r * r = sq := V.int.inj (of_decide_eq_true c)
      refine ⟨_, rfl, _, rfl, _, _, rfl, rfl, _, rfl, fun x dx nx nd ne => ?_⟩
      refine ⟨x, dx, [.int (t + r), .int b], rfl, rfl, upd_same, rfl, ?_⟩
      rw [upd_upd]
      refine k x (.frac (t + r) b) _ ⟨dx, upd_same⟩ ⟨r, hr0, .inl ⟨e, rfl⟩⟩ ⟨?_, small_tame hb⟩ (made_same nx nd) nx
      have p40 : (2 : Nat) ^ 41 = 2199023255552 := by decide
      exact Nat.lt_trans (show (t + r).natAbs < 2 ^ 41 by omega) (Nat.pow_lt_pow_right (by decide) (by decide))
    · have e : r * r ≠ sq := fun z => c (decide_eq_true (congrArg V.int z))
      refine ⟨_, rfl, _, rfl, _, rfl, fun x dx nx nd ne => ?_⟩
      refine ⟨x, dx, t, sq, b, rfl, upd_same, ht, hs0, s2, hb, hb0, (fun r' hr' => by rw [hr'.unique hr0]; exact e), fun q hq => ⟨rfl, ?_⟩⟩
      rw [upd_upd]
      exact k x (.root _ _ _ q) _ ⟨dx, upd_same⟩ ⟨r, hr0, .inr ⟨e, q, hq.rt, rfl⟩⟩ hq (made_same nx nd) nx
/-- a new leaf -/
def sp_leaf_of (A : Ad) (K : PySem.W.Frag) : Sp := fun vs H Q _ => ∃ (v : Addr) (f : Leaf), vs = [.ref v] ∧ f.At K H v ∧ f.Good ∧
  ∀ a c ch H', LeafAt A K H' a c ch → f.Starts ch → ch.Ok → Same H H' → H a = none → H c = none → a ≠ c → Q (.ref a) H'
theorem ok_leaf_of (T : CT K mg A) (D : DT K mg A) : COk P w K mg base CX0 5 "leaf_of" ["tree"] (sp_leaf_of A K) := by
  have G_root_chain := ok_root_chain (P := P) (w := w) (base := base) T D
  have I_FractionChain := ok_FractionChain_init (P := P) (w := w) (base := base) T D
  have I_RuledChain := ok_RuledChain_init (P := P) (w := w) (base := base) T D
  have I_Leaf := ok_Leaf_init (P := P) (w := w) (base := base) T D
  refine COk.by D.leaf_of fun f fd F => ?_
  refine F.ok sc_leaf_of (fun vs H Q E h => ?_) (fun cdv Ar outer s H vs Q E hr h => ?_)
  · obtain ⟨v, f, rfl, _⟩ := h
    rfl
  · obtain ⟨v, f, rfl, hf, hg, k⟩ := h
    refine ⟨_, (pss_cons (ps_if (pt_cmpR op_eq (pe_ix ix_tup (pv 0) pe_int (fun _ _ => rfl)) pe_str (nomark _))
      (pss_one (ps_ret (pe_mk I_Leaf (hr.mono (by first | decide | omega)) (pa_cons (pe_mk I_FractionChain (hr.mono (by first | decide | omega)) (pa_cons (pe_ix ix_tup (pv 0) pe_int (fun _ _ => rfl)) (pa_cons (pe_ix ix_tup (pv 0) pe_int (fun _ _ => rfl)) pa_nil))) pa_nil)))) pss_nil)
    (pss_cons (ps_if (pt_cmpR op_eq (pe_ix ix_tup (pv 0) pe_int (fun _ _ => rfl)) pe_str (nomark _))
      (pss_one (ps_ret (pe_mk I_Leaf (hr.mono (by first | decide | omega)) (pa_cons (pe_c G_root_chain (hr.mono (by first | decide | omega)) (pa_cons (pe_ix ix_tup (pv 0) pe_int (fun _ _ => rfl)) (pa_cons (pe_ix ix_tup (pv 0) pe_int (fun _ _ => rfl)) (pa_cons (pe_ix ix_tup (pv 0) pe_int (fun _ _ => rfl)) pa_nil)))) pa_nil)))) pss_nil)
    (pss_one (ps_ret (pe_mk I_Leaf (hr.mono (by first | decide | omega)) (pa_cons (pe_mk I_RuledChain (hr.mono (by first | decide | omega)) (pa_cons (pe_ix ix_tup (pv 0) pe_int (fun _ _ => rfl)) (pa_cons (pe_ix ix_tup (pv 0) pe_int (fun _ _ => rfl)) (pa_cons (pe_ix ix_tup (pv 0) pe_int (fun _ _ => rfl)) pa_nil)))) pa_nil)))))), ?_⟩
    have fin : ∀ c ch H1, Chain.At A K H1 c ch → f.Starts ch → ch.Ok → Same H H1 → H c = none → ∀ x dx, H1 x = none → H1 dx = none → dx ≠ x → Q (.ref x) (upd (upd (upd H1 dx (.own x)) x (.ins A.c_Leaf dx [])) x (.ins A.c_Leaf dx (leF c))) := fun c ch H1 hc st ok sm nc x dx nx nd ne => by
      rw [upd_upd]
      have s2 := made_same (o := .own x) (o' := .ins A.c_Leaf dx (leF c)) nx nd
      obtain ⟨C, d, fs, e⟩ := hc.there
      exact k x c ch _ ⟨⟨dx, upd_same⟩, hc.same s2⟩ st ok (sm.trans s2) (sm.free nx) nc (ne_of_none e nx).symm
    cases f with
    | frac t b =>
      refine ⟨_, rfl, v, _, 0, _, rfl, rfl, hf, atI_nat (j := 0) rfl, rfl, _, rfl, ?_⟩
      refine iteT ⟨_, rfl, v, _, 1, _, rfl, rfl, hf, atI_nat (j := 1) rfl, _, rfl, v, _, 2, _, rfl, rfl, hf, atI_nat (j := 2) rfl, fun x dx nx nd ne => ?_⟩
      refine ⟨x, dx, [.int t, .int b], rfl, rfl, upd_same, rfl, ?_⟩
      rw [upd_upd]
      intro x2 dx2 nx2 nd2 ne2
      exact ⟨x2, dx2, [.ref x], rfl, rfl, upd_same, rfl, fin x (.frac t b) _ ⟨dx, upd_same⟩ rfl ⟨small_tame hg.1, small_tame hg.2.1⟩ (made_same nx nd) nx x2 dx2 nx2 nd2 ne2⟩
    | root t sq b =>
      refine ⟨_, rfl, v, _, 0, _, rfl, rfl, hf, atI_nat (j := 0) rfl, rfl, _, rfl, ?_⟩
      refine iteF ⟨_, rfl, v, _, 0, _, rfl, rfl, hf, atI_nat (j := 0) rfl, rfl, _, rfl, ?_⟩
      refine iteT ⟨_, rfl, v, _, 1, _, rfl, rfl, hf, atI_nat (j := 1) rfl, _, rfl, v, _, 2, _, rfl, rfl, hf, atI_nat (j := 2) rfl, _, rfl, v, _, 3, _, rfl, rfl, hf, atI_nat (j := 3) rfl, t, sq, b, rfl, hg, fun c ch H1 hc st ok sm nc => ?_⟩
      intro x2 dx2 nx2 nd2 ne2
      exact ⟨x2, dx2, [.ref c], rfl, rfl, upd_same, rfl, fin c ch H1 hc st ok sm nc x2 dx2 nx2 nd2 ne2⟩
    | ruled ps ring steps =>
      obtain ⟨p, q, u, hv, hp, hq, hu⟩ := hf
      refine ⟨_, rfl, v, _, 0, _, rfl, rfl, hv, atI_nat (j := 0) rfl, rfl, _, rfl, ?_⟩
      refine iteF ⟨_, rfl, v, _, 0, _, rfl, rfl, hv, atI_nat (j := 0) rfl, rfl, _, rfl, ?_⟩
      refine iteF ⟨_, rfl, v, _, 1, _, rfl, rfl, hv, atI_nat (j := 1) rfl, _, rfl, v, _, 2, _, rfl, rfl, hv, atI_nat (j := 2) rfl, _, rfl, v, _, 3, _, rfl, rfl, hv, atI_nat (j := 3) rfl, fun x dx nx nd ne => ?_⟩
      refine ⟨x, dx, [.ref p, .ref q, .ref u], rfl, rfl, upd_same, rfl, ?_⟩
      rw [upd_upd]
      intro x2 dx2 nx2 nd2 ne2
      have s1 := made_same (o := .own x) (o' := .ins A.c_RuledChain dx (ruF p q u 0)) nx nd
      exact ⟨x2, dx2, [.ref x], rfl, rfl, upd_same, rfl, fin x (.ruled ps ring steps 0) _ ⟨dx, p, q, u, upd_same, sqT_same hp s1, sqT_same hq s1, sqT_same hu s1⟩ rfl hg.toRuledOk s1 nx x2 dx2 nx2 nd2 ne2⟩
end
/-! ### readings -/
section
variable {P : Program} {w : World} {K : PySem.W.Frag} {mg : Str → Option Value} {base : Heap} {A : Ad}
def sp_Reading_init (A : Ad) : Sp := fun vs H Q _ => ∃ (p dx : Addr) (b : Addr), vs = [.ref p, .ref b] ∧ H p = some (.ins A.c_Reading dx []) ∧
  ∀ m H', H m = none → H' p = some (.ins A.c_Reading dx (reF b m)) → MeterAt A H' m 0 0 → (∀ c o, H c = some o → c ≠ p → H' c = some o) → Q .non H'
theorem ok_Reading_init (T : CT K mg A) (D : DT K mg A) : IOk P w K mg base 3 "Reading" A.c_Reading ["self", "box"] (sp_Reading_init A) := by
  have I_Meter := ok_Meter_init (P := P) (w := w) (base := base) T D
  refine IOk.of T.g_Reading D.Reading_init fun f fd F => ?_
  refine F.ok sc_Reading_init (fun vs H Q E h => ?_) (fun cdv Ar outer s H vs Q E hr h => ?_)
  · obtain ⟨p, dx, b, rfl, _⟩ := h
    rfl
  · obtain ⟨p, dx, b, rfl, hp, k⟩ := h
    refine ⟨_, (pss_cons (ps_fld (pv 0) (pv 1) rfl)
    (pss_one (ps_fld (pv 0) (pe_mk0 I_Meter (hr.mono (by first | decide | omega))) rfl))), ?_⟩
    refine ⟨_, rfl, _, rfl, p, _, dx, [], rfl, hp, T.cl_Reading, T.n_Reading_box, (by show 0 < 1000; decide), ?_⟩
    intro m dm nm ndm ne
    refine ⟨m, dm, [], rfl, rfl, upd_same, rfl, ?_⟩
    rw [upd_upd]
    have h1 : (upd H p (.ins A.c_Reading dx (putF "box" (.ref b) []))) p = some (.ins A.c_Reading dx [("box", .ref b)]) := upd_same
    have s1 := made_same (o := .own m) (o' := .ins A.c_Meter dm (meF 0 0)) nm ndm
    have hpm : p ≠ m := ne_of_none h1 nm
    refine ⟨_, rfl, p, _, dx, _, rfl, s1 _ _ h1, T.cl_Reading, T.n_Reading_meter, (by show 1 < 1000; decide), ?_⟩
    refine k m _ ?_ upd_same ⟨dm, by rw [upd_ne hpm.symm, upd_same]⟩ fun c o e hc => ?_
    · rw [upd_ne hpm.symm] at nm
      exact nm
    · rw [upd_ne hc]
      exact s1 _ _ (by rw [upd_ne hc]; exact e)
theorem ok_Reading_took (T : CT K mg A) (D : DT K mg A) : MOk P w K mg base CX0 1 A.c_Reading "took" ["self"] (fun vs H Q _ => ∃ r rx b m dm l s, vs = [.ref r] ∧ H r = some (.ins A.c_Reading rx (reF b m)) ∧ H m = some (.ins A.c_Meter dm (meF l s)) ∧ Q (.int s) H) := by
  refine MOk.of T.cl_Reading D.Reading_took fun f fd F => ?_
  refine F.ok sc_Reading_took (fun vs H Q E h => ?_) (fun cdv Ar outer s H vs Q E hr h => ?_)
  · obtain ⟨r, rx, b, m, dm, l, s, rfl, _⟩ := h
    rfl
  · obtain ⟨r, rx, b, m, dm, l, sp, rfl, hr0, hm, k⟩ := h
    refine ⟨_, (pss_one (ps_ret (pe_fld (pe_fld (pv 0) rfl) rfl))), ?_⟩
    exact ⟨_, rfl, r, _, rx, _, _, rfl, hr0, T.cl_Reading, T.n_Reading_meter, rfl, m, _, dm, _, _, rfl, hm, T.cl_Meter, T.n_Meter_spent, rfl, k⟩
/-- a reading asks its box, of the class at C -/
def sp_part (A : Ad) (C : Addr) (spA : Sp) : Sp := fun vs H Q _ => ∃ (r rx b m dm db : Addr) (fb : Flds) (l s n : Int), vs = [.ref r, .int n] ∧ H r = some (.ins A.c_Reading rx (reF b m)) ∧ H m = some (.ins A.c_Meter dm (meF l s)) ∧ r ≠ m ∧ b ≠ m ∧ H b = some (.ins C db fb) ∧ fb.lookup ("ask" : Str) = none ∧
  spA [.ref b, .ref m] (upd H m (.ins A.c_Meter dm (meF n s))) Q E0
theorem ok_Reading_part {k : Nat} {C : Addr} {spA : Sp} (T : CT K mg A) (D : DT K mg A) (hk : 1 ≤ k) (M_ask : MOk P w K mg base CX0 k C "ask" ["self", "meter"] spA) : MOk P w K mg base CX0 (k + 1) A.c_Reading "part" ["self", "most"] (sp_part A C spA) := by
  have M_allow := ok_Meter_allow (P := P) (w := w) (base := base) T D
  refine MOk.of T.cl_Reading D.Reading_part fun f fd F => ?_
  refine F.ok sc_Reading_part (fun vs H Q E h => ?_) (fun cdv Ar outer s H vs Q E hr h => ?_)
  · obtain ⟨r, rx, b, m, dm, db, fb, l, s, n, rfl, _⟩ := h
    rfl
  · obtain ⟨r, rx, b, m, dm, db, fb, l, sp, n, rfl, hr0, hm, nrm, nbm, hb, lk, q⟩ := h
    refine ⟨_, (pss_cons (ps_expr (pe_m M_allow (hr.mono (by first | decide | omega)) (pe_fld (pv 0) rfl) (pa_cons (pv 1) pa_nil)))
    (pss_one (ps_ret (pe_m M_ask (hr.mono (by first | decide | omega)) (pe_fld (pv 0) rfl) (pa_cons (pe_fld (pv 0) rfl) pa_nil))))), ?_⟩
    have cl := T.cl_Reading
    refine ⟨_, rfl, r, _, rx, _, _, rfl, hr0, cl, T.n_Reading_meter, rfl, m, dm, _, rfl, hm, rfl, _, rfl, m, dm, l, sp, n, rfl, hm, ?_⟩
    have hr1 : (upd H m (.ins A.c_Meter dm (meF n sp))) r = some (.ins A.c_Reading rx (reF b m)) := by rw [upd_ne nrm]; exact hr0
    have hb1 : (upd H m (.ins A.c_Meter dm (meF n sp))) b = some (.ins C db fb) := by rw [upd_ne nbm]; exact hb
    exact ⟨_, rfl, r, _, rx, _, _, rfl, hr1, cl, T.n_Reading_box, rfl, b, db, fb, rfl, hb1, lk, _, rfl, r, _, rx, _, _, rfl, hr1, cl, T.n_Reading_meter, rfl, q⟩
/-! a reading of a leaf -/
structure ReadAt (A : Ad) (K : PySem.W.Frag) (H : Hp) (r a c m : Addr) (ch : Chain) (l s : Int) : Prop where
  rd : ∃ rx, H r = some (.ins A.c_Reading rx (reF a m))
  lf : LeafAt A K H a c ch
  mt : MeterAt A H m l s
  ra : r ≠ a
  rc : r ≠ c
  rm : r ≠ m
  ac : a ≠ c
  am : a ≠ m
  cm : c ≠ m
  ok : ch.Ok
theorem ReadAt.same {H H' : Hp} {r a c m : Addr} {ch : Chain} {l s : Int} (R : ReadAt A K H r a c m ch l s) (k : Same H H') : ReadAt A K H' r a c m ch l s := by
  obtain ⟨⟨rx, e⟩, ⟨⟨dx, e2⟩, hc⟩, ⟨dm, e3⟩, ra, rc, rm, ac, am, cm, ok⟩ := R
  exact ⟨⟨rx, k _ _ e⟩, ⟨⟨dx, k _ _ e2⟩, hc.same k⟩, ⟨dm, k _ _ e3⟩, ra, rc, rm, ac, am, cm, ok⟩
/-- another list is written -/
theorem ReadAt.put {H : Hp} {r a c m d : Addr} {ch : Chain} {l s : Int} {xs ys : List V} (R : ReadAt A K H r a c m ch l s) (hd : H d = some (.lst xs)) (_ : d ≠ c) (_ : d ≠ m) : ReadAt A K (upd H d (.lst ys)) r a c m ch l s := by
  obtain ⟨⟨rx, e⟩, ⟨⟨dx, e2⟩, hc⟩, ⟨dm, e3⟩, ra, rc, rm, ac, am, cm, ok⟩ := R
  have k : ∀ b o, H b = some o → ¬ b = d → (upd H d (.lst ys)) b = some o := fun b o z n => by rw [upd_ne n]; exact z
  have ne : ∀ {b C dx fs}, H b = some (.ins C dx fs) → b ≠ d := fun {b C dx fs} z => ne_of z hd (by intro q; cases q)
  obtain ⟨C, dc, fs, e4⟩ := hc.there
  refine ⟨⟨rx, k _ _ e (ne e)⟩, ⟨⟨dx, k _ _ e2 (ne e2)⟩, hc.kept (N := fun b => b = d) (ne e4) k fun b o z y => ?_⟩, ⟨dm, k _ _ e3 (ne e3)⟩, ra, rc, rm, ac, am, cm, ok⟩
  subst z
  rw [hd] at y
  cases y
  exact ⟨fun _ q => (by cases q), fun _ _ q => (by cases q)⟩
/-- one asking of a leaf's reading -/
def sp_part_leaf (A : Ad) (K : PySem.W.Frag) : Sp := fun vs H Q _ => ∃ (r a c m : Addr) (ch : Chain) (l s n : Int), vs = [.ref r, .int n] ∧ ReadAt A K H r a c m ch l s ∧
  ∀ v H', ReadAt A K H' r a c m (ch.then_ n) (n - ch.took n) (s + ch.took n) → (ch.ans n).At A H' v → (∀ b o, H b = some o → b ≠ c → b ≠ m → H' b = some o) → Q v H'
theorem Chain.Ok.then_ {ch : Chain} (h : ch.Ok) (n : Int) : (ch.then_ n).Ok := by
  unfold Chain.then_
  split
  · exact h
  · split
    · exact h
    · rename_i h1 _
      exact h.next (by rw [Bool.not_eq_true] at h1; exact h1)
theorem ok_part_leaf (T : CT K mg A) (D : DT K mg A) : MOk P w K mg base CX0 3 A.c_Reading "part" ["self", "most"] (sp_part_leaf A K) := by
  obtain ⟨cl, f, fd, F, M, B⟩ := ok_Reading_part (P := P) (w := w) (base := base) T D (by decide) (ok_Leaf_ask T D)
  refine ⟨cl, f, fd, F.imp fun vs H Q E h => ?_, M, B⟩
  obtain ⟨r, a, c, m, ch, l, s, n, rfl, R, k⟩ := h
  obtain ⟨⟨rx, e⟩, ⟨⟨dx, e2⟩, hc⟩, ⟨dm, e3⟩, ra, rc, rm, ac, am, cm, ok⟩ := R
  refine ⟨r, rx, a, m, dm, dx, leF c, l, s, n, rfl, e, e3, rm, am, e2, rfl, ?_⟩
  have kp : ∀ b o, H b = some o → b ≠ m → (upd H m (.ins A.c_Meter dm (meF n s))) b = some o := fun b o z hb => by rw [upd_ne hb]; exact z
  have hc1 : Chain.At A K (upd H m (.ins A.c_Meter dm (meF n s))) c ch := hc.kept (N := fun b => b = m) cm kp fun b o z y => by subst z; rw [e3] at y; exact ins_no (Option.some.inj y).symm
  refine ⟨a, c, m, ch, n, s, rfl, ⟨⟨dx, kp _ _ e2 am⟩, hc1⟩, ok, ⟨dm, upd_same⟩, ac, am, cm, fun v H' hl hm ha k2 => ?_⟩
  exact k v H' ⟨⟨rx, k2 _ _ (kp _ _ e rm) rc rm⟩, hl, hm, ra, rc, rm, ac, am, cm, ok.then_ n⟩ ha fun b o z hb hb2 => k2 b o (kp b o z hb2) hb hb2
theorem ok_took_leaf (T : CT K mg A) (D : DT K mg A) : MOk P w K mg base CX0 1 A.c_Reading "took" ["self"] (fun vs H Q _ => ∃ r a c m ch l s, vs = [.ref r] ∧ ReadAt A K H r a c m ch l s ∧ Q (.int s) H) := by
  obtain ⟨cl, f, fd, F, M, B⟩ := ok_Reading_took (P := P) (w := w) (base := base) T D
  refine ⟨cl, f, fd, F.imp fun vs H Q E h => ?_, M, B⟩
  obtain ⟨r, a, c, m, ch, l, s, rfl, ⟨⟨rx, e⟩, _, ⟨dm, e3⟩, _⟩, q⟩ := h
  exact ⟨r, rx, a, m, dm, l, s, rfl, e, e3, q⟩
theorem ok_box_of_leaf (T : CT K mg A) (D : DT K mg A) : COk P w K mg base CX0 6 "box_of" ["tree"] (sp_leaf_of A K) := by
  have G_leaf_of := ok_leaf_of (P := P) (w := w) (base := base) T D
  refine COk.by D.box_of fun f fd F => ?_
  refine F.ok sc_box_of (fun vs H Q E h => ?_) (fun cdv Ar outer s H vs Q E hr h => ?_)
  · obtain ⟨v, f, rfl, _⟩ := h
    rfl
  · obtain ⟨v, f, rfl, hf, hg, k⟩ := h
    refine ⟨_, (pss_cons (ps_set (i := 1) sc_box_of.nd rfl (Or.inl rfl) (pe_ix ix_tup (pv 0) pe_int (fun _ _ => rfl)))
    (pss_cons (ps_if (pt_cmpR op_eq (pv 1) pe_str (nomark _))
      (pss_one (ps_never)) pss_nil)
    (pss_cons (ps_if (pt_cmpR op_eq (pv 1) pe_str (nomark _))
      (pss_one (ps_never)) pss_nil)
    (pss_cons (ps_if (pt_cmpR op_eq (pv 1) pe_str (nomark _))
      (pss_one (ps_never)) pss_nil)
    (pss_one (ps_ret (pe_c G_leaf_of (hr.mono (by first | decide | omega)) (pa_cons (pv 0) pa_nil)))))))), ?_⟩
    cases f with
    | frac t b => exact ⟨_, rfl, v, _, 0, _, rfl, rfl, hf, atI_nat (j := 0) rfl, _, rfl, rfl, _, rfl, iteF ⟨_, rfl, rfl, _, rfl, iteF ⟨_, rfl, rfl, _, rfl, iteF ⟨_, rfl, v, .frac t b, rfl, hf, hg, k⟩⟩⟩⟩
    | root t s b => exact ⟨_, rfl, v, _, 0, _, rfl, rfl, hf, atI_nat (j := 0) rfl, _, rfl, rfl, _, rfl, iteF ⟨_, rfl, rfl, _, rfl, iteF ⟨_, rfl, rfl, _, rfl, iteF ⟨_, rfl, v, .root t s b, rfl, hf, hg, k⟩⟩⟩⟩
    | ruled ps ring steps =>
      obtain ⟨p, q, u, hv, h3⟩ := id hf
      exact ⟨_, rfl, v, _, 0, _, rfl, rfl, hv, atI_nat (j := 0) rfl, _, rfl, rfl, _, rfl, iteF ⟨_, rfl, rfl, _, rfl, iteF ⟨_, rfl, rfl, _, rfl, iteF ⟨_, rfl, v, .ruled ps ring steps, rfl, hf, hg, k⟩⟩⟩⟩
def sp_reader_leaf (A : Ad) (K : PySem.W.Frag) : Sp := fun vs H Q _ => ∃ (v : Addr) (f : Leaf), vs = [.ref v] ∧ f.At K H v ∧ f.Good ∧
  ∀ r a c m ch H', ReadAt A K H' r a c m ch 0 0 → f.Starts ch → Same H H' → H r = none → H a = none → H c = none → H m = none → Q (.ref r) H'
theorem ok_reader_leaf (T : CT K mg A) (TT : TB K w mg A) (D : DT K mg A) : COk P w K mg base CX0 7 "reader" ["tree"] (sp_reader_leaf A K) := by
  have G_box_of := ok_box_of_leaf (P := P) (w := w) (base := base) T D
  have I_Reading := ok_Reading_init (P := P) (w := w) (base := base) T D
  have G_at := ok_check_at_depth (P := P) (w := w) (base := base) (k := 3) T TT D (by decide) (ok_check_fraction T D) (ok_check_root T D) (ok_check_ruled T D) (ok_no D.check_four) (ok_no D.check_eight) (ok_no D.check_power)
  have G_check_tree := ok_check_tree D G_at
  refine COk.by D.reader fun f fd F => ?_
  refine F.ok sc_reader (fun vs H Q E h => ?_) (fun cdv Ar outer s H vs Q E hr h => ?_)
  · obtain ⟨v, f, rfl, _⟩ := h
    rfl
  · obtain ⟨v, f, rfl, hf, hg, k⟩ := h
    refine ⟨_, (pss_cons (ps_expr (pe_c G_check_tree (hr.mono (by first | decide | omega)) (pa_cons (pv 0) pa_nil)))
    (pss_one (ps_ret (pe_mk I_Reading (hr.mono (by first | decide | omega)) (pa_cons (pe_c G_box_of (hr.mono (by first | decide | omega)) (pa_cons (pv 0) pa_nil)) pa_nil))))), ?_⟩
    have rest : ∀ H1, Same H H1 → (tRet (tMake A.c_Reading (sp_Reading_init A) [] E0 (tCons (tCall (sp_leaf_of A K) [] E0 (tCons (tVar 0) tNil)) tNil))) { nx := fun _ H' => Q .non H', rt := Q } [some (V.ref v)] H1 := fun H1 s1 => by
      refine ⟨_, rfl, v, f, rfl, hf.same s1, hg, fun a c ch H2 hl st ok s2 na nc nac => ?_⟩
      intro x dx nx nd ne
      refine ⟨x, dx, a, rfl, upd_same, fun m H3 nm hx hm kp => ⟨rfl, ?_⟩⟩
      have s3 : Same H2 H3 := fun b o e => kp b o (by rw [upd_ne (ne_of_none e nx), upd_ne (ne_of_none e nd)]; exact e) (ne_of_none e nx)
      obtain ⟨⟨da, e2⟩, hc⟩ := id hl
      obtain ⟨C, dc, fs, e3⟩ := hc.there
      have nm2 : H2 m = none := by
        cases q : H2 m with
        | none => rfl
        | some o =>
          have hmx : m ≠ x := fun z => by rw [z, upd_same] at nm; cases nm
          have hmd : m ≠ dx := fun z => by rw [z, upd_ne ne, upd_same] at nm; cases nm
          rw [upd_ne hmx, upd_ne hmd, q] at nm
          cases nm
      have hxm : x ≠ m := fun z => by rw [← z, upd_same] at nm; cases nm
      have ss : Same H H3 := (s1.trans s2).trans s3
      exact k x a c m ch H3 ⟨⟨dx, hx⟩, ⟨⟨da, s3 _ _ e2⟩, hc.same s3⟩, hm, (ne_of_none e2 nx).symm, (ne_of_none e3 nx).symm, hxm, nac, ne_of_none e2 nm2, ne_of_none e3 nm2, ok⟩ st ss ((s1.trans s2).free nx) (s1.free na) (s1.free nc) ((s1.trans s2).free nm2)
    cases f with
    | frac t b => exact ⟨_, rfl, _, rfl, v, "fraction", [.int t, .int b], 1, rfl, by decide, hf, .inl ⟨rfl, rfl, v, t, b, 1, rfl, hf, hg.1, hg.2.1, hg.2.2, fun H' s' => rest H' s'⟩⟩
    | root t s b => exact ⟨_, rfl, _, rfl, v, "root", [.int t, .int s, .int b], 1, rfl, by decide, hf, .inr (.inl ⟨rfl, rfl, v, t, s, b, 1, rfl, hf, hg.1, hg.2.1, hg.2.2.1, hg.2.2.2.1, hg.2.2.2.2, fun H' s' => rest H' s'⟩)⟩
    | ruled ps ring steps =>
      obtain ⟨p, q, u, hv, hp, hq, hu⟩ := id hf
      exact ⟨_, rfl, _, rfl, v, "ruled", [.ref p, .ref q, .ref u], 1, rfl, by decide, hv, .inr (.inr (.inl ⟨rfl, rfl, v, p, q, u, ps, ring, steps, 1, rfl, hv, hp, hq, hu, hg, fun H' s' => rest H' s'⟩))⟩
end
/-! ### what is told, as the laws hold it against what is due -/
def Ans.vals : Ans → List V
  | .part n => [.str "part", .int n]
  | .fin => [.str "end"]
  | .waits => [.str "waits"]
theorem ints_at' {ns : List Int} {i : Nat} {y : V} (h : (ns.map V.int)[i]? = some y) : ∃ z, ns[i]? = some z ∧ y = V.int z := by
  rw [List.getElem?_map] at h
  cases e : ns[i]? with
  | none => rw [e] at h; cases h
  | some z => rw [e] at h; exact ⟨z, rfl, (Option.some.inj h).symm⟩
def Ans.data : Ans → List PyData
  | .part n => [.str "part", .int n]
  | .fin => [.str "end"]
  | .waits => [.str "waits"]
section
variable {P : Program} {w : World} {K : PySem.W.Frag} {mg : Str → Option Value} {base : Heap} {A : Ad}
theorem Ans.At.tup (T : CT K mg A) {H : Hp} {v : V} {a : Ans} (h : a.At A H v) : ∃ p, v = .ref p ∧ SqT K H p a.vals := by
  cases a with
  | part n =>
    obtain ⟨p, e, hp⟩ := h
    exact ⟨p, e, SqT.of hp⟩
  | fin => exact ⟨_, h, T.t_END H⟩
  | waits => exact ⟨_, h, T.t_WAITS H⟩
theorem Ans.shaped (a : Ans) : SeqAt.shaped (.tuple a.data) = true := by
  have h1 : PyData.strOk "part" = true := by decide +kernel
  have h2 : PyData.strOk "end" = true := by decide +kernel
  have h3 : PyData.strOk "waits" = true := by decide +kernel
  cases a with
  | part n => simp [SeqAt.shaped, Ans.data, PyData.canLay0, PyData.canLayAll0, PyData.depth, PyData.depthAll, h1]
  | fin => simp [SeqAt.shaped, Ans.data, PyData.canLay0, PyData.canLayAll0, PyData.depth, PyData.depthAll, h2]
  | waits => simp [SeqAt.shaped, Ans.data, PyData.canLay0, PyData.canLayAll0, PyData.depth, PyData.depthAll, h3]
theorem Ans.dp {H : Hp} {p : Addr} (a : Ans) (h : SqT K H p a.vals) : Dp K H (.ref p) (.tuple a.data) := by
  cases a with
  | part n => exact .tup h (.cons (.str _) (.cons (.int n) .nil))
  | fin => exact .tup h (.cons (.str _) .nil)
  | waits => exact .tup h (.cons (.str _) .nil)
theorem ans_sq {H H' : Hp} {b c m : Addr} {xs : List V} (h : SqT K H b xs) (hc : ∃ C dx fs, H c = some (.ins C dx fs)) (hm : ∃ C dx fs, H m = some (.ins C dx fs)) (k : ∀ b o, H b = some o → b ≠ c → b ≠ m → H' b = some o) : SqT K H' b xs :=
  sqT_but (N := fun z => z = c ∨ z = m) h (fun b o e n => k b o e (fun z => n (.inl z)) fun z => n (.inr z)) fun b o e z => by
    rcases e with rfl | rfl
    · obtain ⟨C, dx, fs, e⟩ := hc; rw [e] at z; exact ins_no (Option.some.inj z).symm
    · obtain ⟨C, dx, fs, e⟩ := hm; rw [e] at z; exact ins_no (Option.some.inj z).symm
/-- what a leaf's reading tells is what is due -/
def sp_law_got (A : Ad) (K : PySem.W.Frag) : Sp := fun vs H Q _ => ∃ (r a c m d : Addr) (ch : Chain) (l s n : Int), vs = [.ref r, .int n, .ref d] ∧ ReadAt A K H r a c m ch l s ∧ SqT K H d (ch.ans n).vals ∧
  ∀ H', ReadAt A K H' r a c m (ch.then_ n) (n - ch.took n) (s + ch.took n) → (∀ b o, H b = some o → b ≠ c → b ≠ m → H' b = some o) → Q (.bl true) H'
end
/-! ### boxes: what is reckoned with their numbers -/
/-- as great as a number of a box may be -/
def fits (z : Int) : Prop := z.natAbs < 2 ^ 13000
instance (z : Int) : Decidable (fits z) := inferInstanceAs (Decidable (z.natAbs < 2 ^ 13000))
theorem fits_mul {x y : Int} (h : fits x) (h' : fits y) : CMulW x y := wide_mul (a := 13000) (b := 13000) h h' (by decide) (by decide) (by decide)
theorem fits_neg {x : Int} (h : fits x) : fits (-x) := by
  unfold fits at *
  omega
theorem fits_mul' {x y : Int} (h : fits x) (h' : (y - 1).natAbs < 2 ^ 13000 ∨ fits y) : CMulW x y := by
  refine wide_mul (a := 13000) (b := 13001) h ?_ (by decide) (by decide) (by decide)
  have e : (2 : Nat) ^ 13001 = 2 ^ 13000 + 2 ^ 13000 := by rw [Nat.pow_succ]; omega
  unfold fits at h'
  have p : 0 < (2 : Nat) ^ 13000 := Nat.pow_pos (by decide)
  rw [e]
  generalize (2 : Nat) ^ 13000 = Z at *
  rcases h' with h' | h' <;> omega
/-- // where the number above is not that great -/
def CDivM (i j : Int) : Prop := j ≠ 0 ∧ fits i
theorem noPylong_top {x y : Int} (h : fits x) : Builtin.divisionGoesByPylong x y = false := by
  have hx : x.natAbs.log2 < 13000 := PySem.Flt.log2_lt_of (k := 13000) (by decide) h
  have key : (if x == 0 then 0 else x.natAbs.log2 / 30 + 1) ≤ 434 := by
    by_cases hz : (x == 0) = true
    · rw [if_pos hz]; exact Nat.zero_le _
    · rw [if_neg hz]; omega
  show (decide ((if y == 0 then 0 else y.natAbs.log2 / 30 + 1) > 300) && decide ((if x == 0 then 0 else x.natAbs.log2 / 30 + 1) > (if y == 0 then 0 else y.natAbs.log2 / 30 + 1) + 150)) = false
  generalize (if x == 0 then 0 else x.natAbs.log2 / 30 + 1) = dx at *
  generalize (if y == 0 then 0 else y.natAbs.log2 / 30 + 1) = dy at *
  by_cases c : dy > 300
  · rw [decide_eq_false (show ¬ dx > dy + 150 by omega), Bool.and_false]
  · rw [decide_eq_false c, Bool.false_and]
theorem op_fdivM {X : Cx} : OpR X (binaryOp .FloorDiv) (rI CDivM fun i j => .int (i.fdiv j)) := opI fun _ _ _ _ _ _ _ hc q =>
  PyProof.Rows.floordiv_int hc.1 q (.inl (noPylong_top hc.2))
def turnedOver (ns : List Int) (q : Int) : List Int := ns.drop (ns.length / 2) ++ List.zipWith (fun t u => t - q * u) (ns.take (ns.length / 2)) (ns.drop (ns.length / 2))
def fourCorners (ns : List Int) : List (Int × Int) := [(ns.getD 0 0, ns.getD 2 0), (ns.getD 0 0 + ns.getD 1 0, ns.getD 2 0 + ns.getD 3 0)]
def eightCorners (ns : List Int) : List (Int × Int) :=
  [(ns.getD 0 0, ns.getD 4 0), (ns.getD 0 0 + ns.getD 1 0, ns.getD 4 0 + ns.getD 5 0), (ns.getD 0 0 + ns.getD 2 0, ns.getD 4 0 + ns.getD 6 0),
    (ns.getD 0 0 + ns.getD 1 0 + ns.getD 2 0 + ns.getD 3 0, ns.getD 4 0 + ns.getD 5 0 + ns.getD 6 0 + ns.getD 7 0)]
def withFirst (ns : List Int) (q : Int) : List Int :=
  [ns.getD 0 0 * q + ns.getD 2 0, ns.getD 1 0 * q + ns.getD 3 0, ns.getD 0 0, ns.getD 1 0, ns.getD 4 0 * q + ns.getD 6 0, ns.getD 5 0 * q + ns.getD 7 0, ns.getD 4 0, ns.getD 5 0]
def withSecond (ns : List Int) (q : Int) : List Int :=
  [ns.getD 0 0 * q + ns.getD 1 0, ns.getD 0 0, ns.getD 2 0 * q + ns.getD 3 0, ns.getD 2 0, ns.getD 4 0 * q + ns.getD 5 0, ns.getD 4 0, ns.getD 6 0 * q + ns.getD 7 0, ns.getD 6 0]
def withOne (ns : List Int) (q : Int) : List Int := [ns.getD 0 0 * q + ns.getD 1 0, ns.getD 0 0, ns.getD 2 0 * q + ns.getD 3 0, ns.getD 2 0]
/-- the corners, none below nought where the first one is not -/
def flipped (cs : List (Int × Int)) : List (Int × Int) := if (cs.getD 0 (0, 0)).2 < 0 then cs.map fun c => (-c.1, -c.2) else cs
def surePart (cs : List (Int × Int)) : Option Int :=
  let ds := flipped cs
  if ds.all (fun d => decide (0 < d.2)) then
    let q := (ds.getD 0 (0, 0)).1.fdiv (ds.getD 0 (0, 0)).2
    if ds.all (fun d => decide (q * d.2 ≤ d.1) && decide (d.1 ≤ (q + 1) * d.2)) then some q else none
  else none
/-- pairs of numbers, one behind another -/
def PairsAt (K : PySem.W.Frag) (H : Hp) : List Addr → List (Int × Int) → Prop
  | [], [] => True
  | t :: ts, c :: cs => SqT K H t [.int c.1, .int c.2] ∧ PairsAt K H ts cs
  | _, _ => False
theorem PairsAt.len {K : PySem.W.Frag} {H : Hp} : ∀ {ts : List Addr} {cs : List (Int × Int)}, PairsAt K H ts cs → ts.length = cs.length
  | [], [], _ => rfl
  | _ :: ts, _ :: cs, h => by rw [List.length_cons, List.length_cons, PairsAt.len h.2]
  | [], _ :: _, h => h.elim
  | _ :: _, [], h => h.elim
theorem PairsAt.same {K : PySem.W.Frag} {H H' : Hp} (s : Same H H') : ∀ {ts : List Addr} {cs : List (Int × Int)}, PairsAt K H ts cs → PairsAt K H' ts cs
  | [], [], _ => trivial
  | _ :: ts, _ :: cs, h => ⟨sqT_same h.1 s, PairsAt.same s h.2⟩
  | [], _ :: _, h => h.elim
  | _ :: _, [], h => h.elim
theorem PairsAt.at_ {K : PySem.W.Frag} {H : Hp} : ∀ {ts : List Addr} {cs : List (Int × Int)}, PairsAt K H ts cs → ∀ {i : Nat} {x : V}, (ts.map V.ref)[i]? = some x → ∃ t c, x = .ref t ∧ cs[i]? = some c ∧ SqT K H t [.int c.1, .int c.2]
  | [], [], _, i, x, e => by simp at e
  | t :: ts, c :: cs, h, 0, x, e => ⟨t, c, (Option.some.inj e).symm, rfl, h.1⟩
  | t :: ts, c :: cs, h, i + 1, x, e => by
    obtain ⟨t2, c2, e1, e2, e3⟩ := PairsAt.at_ h.2 (i := i) (x := x) (by simpa using e)
    exact ⟨t2, c2, e1, by simpa using e2, e3⟩
  | [], _ :: _, h, _, _, _ => h.elim
  | _ :: _, [], h, _, _, _ => h.elim
theorem PairsAt.snoc {K : PySem.W.Frag} {H : Hp} {t : Addr} {c : Int × Int} (hc : SqT K H t [.int c.1, .int c.2]) : ∀ {ts : List Addr} {cs : List (Int × Int)}, PairsAt K H ts cs → PairsAt K H (ts ++ [t]) (cs ++ [c])
  | [], [], _ => ⟨hc, trivial⟩
  | _ :: ts, _ :: cs, h => ⟨h.1, PairsAt.snoc hc h.2⟩
  | [], _ :: _, h => h.elim
  | _ :: _, [], h => h.elim
section
variable {P : Program} {w : World} {K : PySem.W.Frag} {mg : Str → Option Value} {base : Heap} {A : Ad}
open RZ
/-- a comprehension over zip of two tuples of one length -/
theorem lc_zipT {K : PySem.W.Frag} {a b : Addr} {xs ys : List V} {g : TG} {tt : TT} {te : TE} {vs : List Nat} {σ : L2.St} {H1 : Hp} {D : Addr} {Qd : Hp → Prop} (hl : xs.length = ys.length) (Pv : Nat → Hp → Prop) (h0 : Pv 0 (upd H1 D (.lst []))) (hq : ∀ i H, i ≤ xs.length → Pv i H → SqT K H a xs ∧ SqT K H b ys)
    (hs : ∀ (i : Nat) (x y : V) (T : Addr) (H : Hp), xs[i]? = some x → ys[i]? = some y → Pv i H → H T = none → g (.ref T) (wipe σ vs) (upd H T (.tup [x, y])) fun σ2 H2 => wipe σ2 vs = wipe σ vs ∧ tt σ2 H2 fun b H3 =>
      if b = true then te σ2 H3 fun y H4 => ∃ acc, H4 D = some (.lst acc) ∧ acc.length < sizeLine ∧ Pv (i + 1) (upd H4 D (.lst (acc ++ [y]))) else Pv (i + 1) H3) (hd : ∀ H, Pv xs.length H → Qd H) :
    ∃ W : Nat → Nat → Hp → Prop, (∃ m, W 0 m (upd H1 D (.lst []))) ∧ ∀ i m H, W i m H →
      ((ItzT K a b).stop i H ∧ Qd H) ∨ ((ItzT K a b).go i H ∧ ∃ Nx : Hp → Prop, (∀ H', Nx H' → ∃ m', m' < m ∧ W (i + 1) m' H') ∧ ∀ x H', (ItzT K a b).yld i H x H' → g x (wipe σ vs) H' fun σ2 H2 => wipe σ2 vs = wipe σ vs ∧ tt σ2 H2 fun b H3 =>
        if b = true then te σ2 H3 fun y H4 => ∃ acc, H4 D = some (.lst acc) ∧ acc.length < sizeLine ∧ Nx (upd H4 D (.lst (acc ++ [y]))) else Nx H3) := by
  refine ⟨fun i m H => m = xs.length - i ∧ i ≤ xs.length ∧ Pv i H, ⟨xs.length, by simp, Nat.zero_le _, h0⟩, ?_⟩
  rintro i m H ⟨rfl, hi, p⟩
  obtain ⟨qx, qy⟩ := hq i H hi p
  by_cases hlt : i < xs.length
  · have hx : xs[i]? = some xs[i] := List.getElem?_eq_getElem hlt
    have hlt2 : i < ys.length := by omega
    have hy : ys[i]? = some ys[i] := List.getElem?_eq_getElem hlt2
    refine .inr ⟨⟨xs, ys, _, _, qx, qy, hx, hy⟩, Pv (i + 1), fun H' p' => ⟨xs.length - (i + 1), by omega, rfl, hlt, p'⟩, fun x H' y => ?_⟩
    obtain ⟨T, x1, y1, rfl, nT, rfl, e1, e2⟩ := y
    exact hs i x1 y1 T H (e1 xs qx) (e2 ys qy) p nT
  · have e : i = xs.length := by omega
    subst e
    exact .inl ⟨⟨xs, ys, qx, qy, .inl (Nat.le_refl _)⟩, hd H p⟩
theorem cut_takeB (xs : List V) (n : Nat) : cutV xs none (some (n : Int)) = xs.take n := by
  unfold cutV
  rw [HT.sIx_none, HT.sIx_nat, List.drop_zero, Nat.sub_zero]
  rcases Nat.le_total n xs.length with h | h
  · rw [Nat.min_eq_left h]
  · rw [Nat.min_eq_right h, List.take_of_length_le (Nat.le_refl _), List.take_of_length_le h]
theorem cut_dropB (xs : List V) (n : Nat) : cutV xs (some (n : Int)) none = xs.drop n := by
  unfold cutV
  rw [HT.sIx_none, HT.sIx_nat]
  rcases Nat.le_total n xs.length with h | h
  · rw [Nat.min_eq_left h, List.take_of_length_le (Nat.le_of_eq List.length_drop)]
  · rw [Nat.min_eq_right h, List.take_of_length_le (Nat.le_of_eq List.length_drop), List.drop_of_length_le (Nat.le_refl _), List.drop_of_length_le h]
def sp_turned_over (K : PySem.W.Frag) : Sp := fun vs H Q _ => ∃ (p : Addr) (ns : List Int) (q : Int), vs = [.ref p, .int q] ∧ SqT K H p (ns.map V.int) ∧ (∃ h, ns.length = 2 * h ∧ 0 < h ∧ h ≤ 4) ∧ (∀ z ∈ ns, fits z) ∧ fits q ∧
  ∀ r H', SqT K H' r ((turnedOver ns q).map V.int) → Same H H' → Q (.ref r) H'
theorem ok_turned_over (T : CT K mg A) (D : DT K mg A) : COk P w K mg base CX0 1 "turned_over" ["numbers", "part"] (sp_turned_over K) := by
  refine COk.by D.turned_over fun f fd F => ?_
  refine F.ok sc_turned_over (fun vs H Q E h => ?_) (fun cdv Ar outer s H vs Q E hr h => ?_)
  · obtain ⟨p, ns, q, rfl, _⟩ := h
    rfl
  · obtain ⟨p, ns, q, rfl, hp, ⟨h, hl, h0, h4⟩, hf, hq, k⟩ := h
    refine ⟨_, (pss_cons (ps_set (i := 2) sc_turned_over.nd rfl (Or.inl rfl) (pe_op op_fdiv (pe_callB call_len_seq (by rfl) T.b_len (by decide +kernel) (pa_cons (pv 0) pa_nil)) pe_int))
    (pss_cons (ps_par (i := 3) (j := 4) (by rfl) sc_turned_over.nd rfl rfl (by decide) rfl rfl (pa_cons (pe_slice sl_tupA (pv 0) po_none (po_some (pv 2))) (pa_cons (pe_slice sl_tupA (pv 0) (po_some (pv 2)) po_none) pa_nil)) (by rfl))
    (pss_cons (ps_setLc (i := 5) (own := [("top", 6), ("under", 7)]) (g := gTup K 2 (gCons (gName 6) (gCons (gName 7) gNil))) (tt := tYes) rfl sc_turned_over.nd rfl rfl (sw_true rfl rfl rfl (by decide +kernel)) (RZ.pi_zipA (by rfl) T.b_zip (pa_cons (pv 3) (pa_cons (pv 4) pa_nil))) (blkOk_by (own := [("top", 6), ("under", 7)]) (N := ["numbers", "part", "half", "above", "below", "left", "top", "under"]) (sc := defScope s_turned_over) (by decide +kernel)) (fun _ _ _ _ _ => (pg_tup rfl (pgs_cons (pg_name (i := 6) sc_turned_over.nd rfl (Or.inl rfl)) (pgs_cons (pg_name (i := 7) sc_turned_over.nd rfl (Or.inl rfl)) pgs_nil)))) (fun _ _ _ _ _ => pts_nil) (fun _ _ _ _ _ => (pe_op op_sub (pv 6) (pe_op op_mulW (pv 1) (pv 7)))))
    (pss_one (ps_ret (pe_op op_catC (pv 4) (pe_callTy call_tuple_of (by rfl) T.b_tuple (by decide +kernel) (pa_cons (pv 5) pa_nil)))))))), ?_⟩
    have e1 : (((ns.map V.int).length : Nat) : Int) / 2 = ((h : Nat) : Int) := by rw [List.length_map, hl]; omega
    have nf : ¬ (HT.sIx (ns.map V.int).length 0 none = 0 ∧ HT.sIx (ns.map V.int).length (ns.map V.int).length (some (h : Int)) = (ns.map V.int).length) := fun z => by
      have := z.2
      rw [HT.sIx_nat, List.length_map] at this
      omega
    have c1 : cutV (ns.map V.int) none (some (h : Int)) = (ns.take h).map V.int := by
      rw [cut_takeB, List.map_take]
    have c2 : cutV (ns.map V.int) (some (h : Int)) none = (ns.drop h).map V.int := by
      rw [cut_dropB, List.map_drop]
    have lt : (ns.take h).length = h := by rw [List.length_take]; omega
    have ld : (ns.drop h).length = h := by rw [List.length_drop]; omega
    have ee : turnedOver ns q = ns.drop h ++ List.zipWith (fun t u => t - q * u) (ns.take h) (ns.drop h) := by
      unfold turnedOver
      rw [show ns.length / 2 = h by omega]
    refine ⟨_, rfl, p, _, rfl, .inr hp, _, _, rfl, rfl, ⟨by decide, by decide⟩, ?_⟩
    show tSeq _ _ _ [some (V.ref p), some (V.int q), some (V.int ((((ns.map V.int).length : Nat) : Int) / 2)), none, none, none, none, none] H
    rw [e1]
    refine ⟨_, rfl, _, rfl, _, rfl, p, _, rfl, hp, fun z => absurd z nf, fun _ u nu => ?_⟩
    have s1 := same_upd (o := .tup (cutV (ns.map V.int) none (some (h : Int)))) nu
    have hu : SqT K (upd H u (.tup (cutV (ns.map V.int) none (some (h : Int))))) u ((ns.take h).map V.int) := by rw [← c1]; exact SqT.of upd_same
    generalize upd H u (.tup (cutV (ns.map V.int) none (some (h : Int)))) = H1 at s1 hu ⊢
    have hp1 := sqT_same hp s1
    refine ⟨_, rfl, _, rfl, _, rfl, p, _, rfl, hp1, fun z => absurd z (not_whole h0 (by rw [List.length_map]; omega)), fun _ v nv => ?_⟩
    have s2 := same_upd (o := .tup (cutV (ns.map V.int) (some (h : Int)) none)) nv
    have hv : SqT K (upd H1 v (.tup (cutV (ns.map V.int) (some (h : Int)) none))) v ((ns.drop h).map V.int) := by rw [← c2]; exact SqT.of upd_same
    generalize upd H1 v (.tup (cutV (ns.map V.int) (some (h : Int)) none)) = H2 at s2 hv ⊢
    have hu2 := sqT_same hu s2
    refine ⟨_, _, rfl, ?_⟩
    refine ⟨_, rfl, _, rfl, u, v, _, _, rfl, .inr ⟨hu2, hv, fun D0 nD => lc_zipT (by rw [List.length_map, List.length_map, lt, ld]) (fun i H' => Same H2 H' ∧ H' D0 = some (.lst (((List.zipWith (fun t u => t - q * u) (ns.take h) (ns.drop h)).take i).map V.int))) ⟨same_upd nD, upd_same⟩ (fun i H' _ z => ⟨sqT_same hu2 z.1, sqT_same hv z.1⟩) ?_ ?_⟩⟩
    · rintro i x y T' H' hx hy ⟨s3, hD⟩ nT
      rw [List.getElem?_map] at hx hy
      cases ex : (ns.take h)[i]? with
      | none => rw [ex] at hx; cases hx
      | some t =>
        cases ey : (ns.drop h)[i]? with
        | none => rw [ey] at hy; cases hy
        | some b =>
          rw [ex] at hx
          rw [ey] at hy
          cases hx
          cases hy
          have hb : fits b := hf b (List.mem_of_mem_drop (List.mem_of_getElem? ey))
          have s4 := same_upd (o := .tup [V.int t, V.int b]) nT
          refine ⟨T', _, rfl, SqT.of upd_same, rfl, _, _, rfl, _, _, rfl, rfl, rfl, ?_⟩
          refine ⟨_, rfl, _, rfl, _, rfl, _, _, rfl, rfl, fits_mul hq hb, _, _, rfl, rfl, ?_⟩
          have hi : i < h := by
            have := (List.getElem?_eq_some_iff.mp ex).1
            omega
          refine ⟨_, s4 _ _ hD, ?_, ?_, ?_⟩
          · rw [List.length_map, List.length_take]
            exact Nat.lt_of_le_of_lt (Nat.min_le_left _ _) (Nat.lt_of_lt_of_le (show i < 4 by omega) (by decide))
          · intro c o z
            rw [upd_ne (ne_of_none z nD)]
            exact s4 _ _ (s3 _ _ z)
          · rw [upd_same, List.take_add_one, List.getElem?_zipWith, ex, ey]
            simp
    · rintro H3 ⟨s3, hD⟩
      rw [List.length_map, lt, List.take_of_length_le (by rw [List.length_zipWith]; omega)] at hD
      have hv3 := sqT_same hv s3
      refine ⟨_, rfl, _, rfl, D0, _, rfl, .inl ⟨SqL.of hD, fun l nl => ?_⟩⟩
      have s4 := same_upd (o := .tup ((List.zipWith (fun t u => t - q * u) (ns.take h) (ns.drop h)).map V.int)) nl
      refine ⟨v, l, _, _, rfl, rfl, sqT_same hv3 s4, SqT.of upd_same, ?_, fun c H' s5 hc => ?_⟩
      · rw [List.length_map, List.length_map, List.length_zipWith, lt, ld]
        exact Nat.le_trans (show h + min h h ≤ 8 by omega) (by decide)
      · refine k c H' ?_ ((((s1.trans s2).trans s3).trans s4).trans s5)
        rw [ee, List.map_append]
        exact hc
end
/-! ### boxes: corners, parts taken, the sure part -/
section
variable {P : Program} {w : World} {K : PySem.W.Frag} {mg : Str → Option Value} {base : Heap} {A : Ad}
theorem fits_mul1 {x y : Int} (h : fits x) (h' : fits y) : CMulW (x + 1) y := by
  refine wide_mul (a := 13001) (b := 13000) ?_ h' (by decide) (by decide) (by decide)
  have e : (2 : Nat) ^ 13001 = 2 ^ 13000 + 2 ^ 13000 := by rw [Nat.pow_succ]; omega
  unfold fits at h
  have p : 0 < (2 : Nat) ^ 13000 := Nat.pow_pos (by decide)
  rw [e]
  generalize (2 : Nat) ^ 13000 = Z at *
  omega
theorem sqL_same {H H' : Hp} {a : Addr} {xs : List V} (h : SqL K H a xs) (k : Same H H') : SqL K H' a xs := by
  rcases h with (h | ⟨o, h⟩) | h
  · exact .inl (.inl (k _ _ h))
  · exact .inl (.inr ⟨o, k _ _ h⟩)
  · exact .inr h
theorem sqT_lst {H : Hp} {a d : Addr} {xs ys : List V} {o : HO} (h : SqT K H a xs) (hd : H d = some (.lst ys)) : SqT K (upd H d o) a xs :=
  sqT_but (N := fun c => c = d) h (fun c u e n => by rw [upd_ne n]; exact e) fun c u e z => by
    subst e
    rw [hd] at z
    cases z
    exact ⟨fun _ q => (by cases q), fun _ _ q => (by cases q)⟩
theorem PairsAt.lst {H : Hp} {d : Addr} {ys : List V} {o : HO} (hd : H d = some (.lst ys)) : ∀ {ts : List Addr} {cs : List (Int × Int)}, PairsAt K H ts cs → PairsAt K (upd H d o) ts cs
  | [], [], _ => trivial
  | _ :: ts, _ :: cs, h => ⟨sqT_lst h.1 hd, PairsAt.lst hd h.2⟩
  | [], _ :: _, h => h.elim
  | _ :: _, [], h => h.elim
/-- the corners' list -/
def CornersAt (K : PySem.W.Frag) (H : Hp) (l : Addr) (cs : List (Int × Int)) : Prop := ∃ ts : List Addr, SqL K H l (ts.map V.ref) ∧ PairsAt K H ts cs
def sp_four_corners (K : PySem.W.Frag) : Sp := fun vs H Q _ => ∃ (p : Addr) (ns : List Int), vs = [.ref p] ∧ SqT K H p (ns.map V.int) ∧ ns.length = 4 ∧
  ∀ l H', CornersAt K H' l (fourCorners ns) → Same H H' → Q (.ref l) H'
theorem ok_four_corners (T : CT K mg A) (D : DT K mg A) : COk P w K mg base CX0 1 "four_corners" ["numbers"] (sp_four_corners K) := by
  refine COk.by D.four_corners fun f fd F => ?_
  refine F.ok sc_four_corners (fun vs H Q E h => ?_) (fun cdv Ar outer s H vs Q E hr h => ?_)
  · obtain ⟨p, ns, rfl, _⟩ := h
    rfl
  · obtain ⟨p, ns, rfl, hp, hl, k⟩ := h
    refine ⟨_, (pss_cons (ps_asg (pv 0) (pg_tup rfl (pgs_cons (pg_name (i := 1) sc_four_corners.nd rfl (Or.inl rfl)) (pgs_cons (pg_name (i := 2) sc_four_corners.nd rfl (Or.inl rfl)) (pgs_cons (pg_name (i := 3) sc_four_corners.nd rfl (Or.inl rfl)) (pgs_cons (pg_name (i := 4) sc_four_corners.nd rfl (Or.inl rfl)) pgs_nil))))))
    (pss_one (ps_ret (pe_lst (pa_cons (pe_tup (pa_cons (pv 1) (pa_cons (pv 3) pa_nil))) (pa_cons (pe_tup (pa_cons (pe_op op_add (pv 1) (pv 2)) (pa_cons (pe_op op_add (pv 3) (pv 4)) pa_nil))) pa_nil)))))), ?_⟩
    match ns, hl with
    | [a, b, c, d], _ =>
      refine ⟨_, rfl, p, _, rfl, hp, rfl, _, _, rfl, _, _, rfl, _, _, rfl, _, _, rfl, rfl, ?_⟩
      refine ⟨_, rfl, _, rfl, (by show 2 ≤ sizeLine; decide), fun q nq => ?_⟩
      have s1 := same_upd (o := .tup [V.int a, .int c]) nq
      refine ⟨_, rfl, _, rfl, _, _, rfl, rfl, _, rfl, _, rfl, _, _, rfl, rfl, (by show 2 ≤ sizeLine; decide), fun r nr => ?_⟩
      have s2 := same_upd (o := .tup [V.int (a + b), .int (c + d)]) nr
      refine ⟨(by show 2 ≤ sizeLine; decide), fun l nl => ?_⟩
      have s3 := same_upd (o := .lst [V.ref q, .ref r]) nl
      exact k l _ ⟨[q, r], SqL.of upd_same, sqT_same (SqT.of upd_same) (s2.trans s3), sqT_same (SqT.of upd_same) s3, trivial⟩ ((s1.trans s2).trans s3)
def sp_eight_corners (K : PySem.W.Frag) : Sp := fun vs H Q _ => ∃ (p : Addr) (ns : List Int), vs = [.ref p] ∧ SqT K H p (ns.map V.int) ∧ ns.length = 8 ∧
  ∀ l H', CornersAt K H' l (eightCorners ns) → Same H H' → Q (.ref l) H'
theorem ok_eight_corners (T : CT K mg A) (D : DT K mg A) : COk P w K mg base CX0 1 "eight_corners" ["numbers"] (sp_eight_corners K) := by
  refine COk.by D.eight_corners fun f fd F => ?_
  refine F.ok sc_eight_corners (fun vs H Q E h => ?_) (fun cdv Ar outer s H vs Q E hr h => ?_)
  · obtain ⟨p, ns, rfl, _⟩ := h
    rfl
  · obtain ⟨p, ns, rfl, hp, hl, k⟩ := h
    refine ⟨_, (pss_cons (ps_asg (pv 0) (pg_tup rfl (pgs_cons (pg_name (i := 1) sc_eight_corners.nd rfl (Or.inl rfl)) (pgs_cons (pg_name (i := 2) sc_eight_corners.nd rfl (Or.inl rfl)) (pgs_cons (pg_name (i := 3) sc_eight_corners.nd rfl (Or.inl rfl)) (pgs_cons (pg_name (i := 4) sc_eight_corners.nd rfl (Or.inl rfl)) (pgs_cons (pg_name (i := 5) sc_eight_corners.nd rfl (Or.inl rfl)) (pgs_cons (pg_name (i := 6) sc_eight_corners.nd rfl (Or.inl rfl)) (pgs_cons (pg_name (i := 7) sc_eight_corners.nd rfl (Or.inl rfl)) (pgs_cons (pg_name (i := 8) sc_eight_corners.nd rfl (Or.inl rfl)) pgs_nil))))))))))
    (pss_one (ps_ret (pe_lst (pa_cons (pe_tup (pa_cons (pv 1) (pa_cons (pv 5) pa_nil))) (pa_cons (pe_tup (pa_cons (pe_op op_add (pv 1) (pv 2)) (pa_cons (pe_op op_add (pv 5) (pv 6)) pa_nil))) (pa_cons (pe_tup (pa_cons (pe_op op_add (pv 1) (pv 3)) (pa_cons (pe_op op_add (pv 5) (pv 7)) pa_nil))) (pa_cons (pe_tup (pa_cons (pe_op op_add (pe_op op_add (pe_op op_add (pv 1) (pv 2)) (pv 3)) (pv 4)) (pa_cons (pe_op op_add (pe_op op_add (pe_op op_add (pv 5) (pv 6)) (pv 7)) (pv 8)) pa_nil))) pa_nil)))))))), ?_⟩
    match ns, hl with
    | [a, b, c, d, e, f, g, h], _ =>
      refine ⟨_, rfl, p, _, rfl, hp, rfl, _, _, rfl, _, _, rfl, _, _, rfl, _, _, rfl, _, _, rfl, _, _, rfl, _, _, rfl, _, _, rfl, rfl, ?_⟩
      refine ⟨_, rfl, _, rfl, (by show 2 ≤ sizeLine; decide), fun q nq => ?_⟩
      have s1 := same_upd (o := .tup [V.int a, .int e]) nq
      refine ⟨_, rfl, _, rfl, _, _, rfl, rfl, _, rfl, _, rfl, _, _, rfl, rfl, (by show 2 ≤ sizeLine; decide), fun r nr => ?_⟩
      have s2 := same_upd (o := .tup [V.int (a + b), .int (e + f)]) nr
      refine ⟨_, rfl, _, rfl, _, _, rfl, rfl, _, rfl, _, rfl, _, _, rfl, rfl, (by show 2 ≤ sizeLine; decide), fun t nt => ?_⟩
      have s3 := same_upd (o := .tup [V.int (a + c), .int (e + g)]) nt
      refine ⟨_, rfl, _, rfl, _, _, rfl, rfl, _, rfl, _, _, rfl, rfl, _, rfl, _, _, rfl, rfl, _, rfl, _, rfl, _, _, rfl, rfl, _, rfl, _, _, rfl, rfl, _, rfl, _, _, rfl, rfl, (by show 2 ≤ sizeLine; decide), fun u nu => ?_⟩
      have s4 := same_upd (o := .tup [V.int (a + b + c + d), .int (e + f + g + h)]) nu
      refine ⟨(by show 4 ≤ sizeLine; decide), fun l nl => ?_⟩
      have s5 := same_upd (o := .lst [V.ref q, .ref r, .ref t, .ref u]) nl
      exact k l _ ⟨[q, r, t, u], SqL.of upd_same, sqT_same (SqT.of upd_same) (((s2.trans s3).trans s4).trans s5), sqT_same (SqT.of upd_same) ((s3.trans s4).trans s5), sqT_same (SqT.of upd_same) (s4.trans s5), sqT_same (SqT.of upd_same) s5, trivial⟩ ((((s1.trans s2).trans s3).trans s4).trans s5)
def sp_with (K : PySem.W.Frag) (g : List Int → Int → List Int) : Sp := fun vs H Q _ => ∃ (p : Addr) (ns : List Int) (q : Int), vs = [.ref p, .int q] ∧ SqT K H p (ns.map V.int) ∧ ns.length = 8 ∧ (∀ z ∈ ns, fits z) ∧ fits q ∧
  ∀ r H', SqT K H' r ((g ns q).map V.int) → Same H H' → Q (.ref r) H'
theorem ok_with_first_part (T : CT K mg A) (D : DT K mg A) : COk P w K mg base CX0 1 "with_first_part" ["numbers", "part"] (sp_with K withFirst) := by
  refine COk.by D.with_first_part fun f fd F => ?_
  refine F.ok sc_with_first_part (fun vs H Q E h => ?_) (fun cdv Ar outer s H vs Q E hr h => ?_)
  · obtain ⟨p, ns, q, rfl, _⟩ := h
    rfl
  · obtain ⟨p, ns, q, rfl, hp, hl, hf, hq, k⟩ := h
    refine ⟨_, (pss_cons (ps_asg (pv 0) (pg_tup rfl (pgs_cons (pg_name (i := 2) sc_with_first_part.nd rfl (Or.inl rfl)) (pgs_cons (pg_name (i := 3) sc_with_first_part.nd rfl (Or.inl rfl)) (pgs_cons (pg_name (i := 4) sc_with_first_part.nd rfl (Or.inl rfl)) (pgs_cons (pg_name (i := 5) sc_with_first_part.nd rfl (Or.inl rfl)) (pgs_cons (pg_name (i := 6) sc_with_first_part.nd rfl (Or.inl rfl)) (pgs_cons (pg_name (i := 7) sc_with_first_part.nd rfl (Or.inl rfl)) (pgs_cons (pg_name (i := 8) sc_with_first_part.nd rfl (Or.inl rfl)) (pgs_cons (pg_name (i := 9) sc_with_first_part.nd rfl (Or.inl rfl)) pgs_nil))))))))))
    (pss_one (ps_ret (pe_tup (pa_cons (pe_op op_add (pe_op op_mulW (pv 2) (pv 1)) (pv 4)) (pa_cons (pe_op op_add (pe_op op_mulW (pv 3) (pv 1)) (pv 5)) (pa_cons (pv 2) (pa_cons (pv 3) (pa_cons (pe_op op_add (pe_op op_mulW (pv 6) (pv 1)) (pv 8)) (pa_cons (pe_op op_add (pe_op op_mulW (pv 7) (pv 1)) (pv 9)) (pa_cons (pv 6) (pa_cons (pv 7) pa_nil)))))))))))), ?_⟩
    match ns, hl with
    | [a, b, c, d, e, f, g, h], _ =>
      have ma : CMulW a q := fits_mul (hf a (by simp)) hq
      have mb : CMulW b q := fits_mul (hf b (by simp)) hq
      have me : CMulW e q := fits_mul (hf e (by simp)) hq
      have mf : CMulW f q := fits_mul (hf f (by simp)) hq
      refine ⟨_, rfl, p, _, rfl, hp, rfl, _, _, rfl, _, _, rfl, _, _, rfl, _, _, rfl, _, _, rfl, _, _, rfl, _, _, rfl, _, _, rfl, rfl, ?_⟩
      refine ⟨_, rfl, _, rfl, _, _, rfl, rfl, ma, _, rfl, _, _, rfl, rfl, _, rfl, _, rfl, _, _, rfl, rfl, mb, _, rfl, _, _, rfl, rfl, _, rfl, _, rfl, _, rfl, _, rfl, _, _, rfl, rfl, me, _, rfl, _, _, rfl, rfl, _, rfl, _, rfl, _, _, rfl, rfl, mf, _, rfl, _, _, rfl, rfl, _, rfl, _, rfl, (by show 8 ≤ sizeLine; decide), fun r nr => ?_⟩
      exact k r _ (SqT.of upd_same) (same_upd nr)
theorem ok_with_second_part (T : CT K mg A) (D : DT K mg A) : COk P w K mg base CX0 1 "with_second_part" ["numbers", "part"] (sp_with K withSecond) := by
  refine COk.by D.with_second_part fun f fd F => ?_
  refine F.ok sc_with_second_part (fun vs H Q E h => ?_) (fun cdv Ar outer s H vs Q E hr h => ?_)
  · obtain ⟨p, ns, q, rfl, _⟩ := h
    rfl
  · obtain ⟨p, ns, q, rfl, hp, hl, hf, hq, k⟩ := h
    refine ⟨_, (pss_cons (ps_asg (pv 0) (pg_tup rfl (pgs_cons (pg_name (i := 2) sc_with_second_part.nd rfl (Or.inl rfl)) (pgs_cons (pg_name (i := 3) sc_with_second_part.nd rfl (Or.inl rfl)) (pgs_cons (pg_name (i := 4) sc_with_second_part.nd rfl (Or.inl rfl)) (pgs_cons (pg_name (i := 5) sc_with_second_part.nd rfl (Or.inl rfl)) (pgs_cons (pg_name (i := 6) sc_with_second_part.nd rfl (Or.inl rfl)) (pgs_cons (pg_name (i := 7) sc_with_second_part.nd rfl (Or.inl rfl)) (pgs_cons (pg_name (i := 8) sc_with_second_part.nd rfl (Or.inl rfl)) (pgs_cons (pg_name (i := 9) sc_with_second_part.nd rfl (Or.inl rfl)) pgs_nil))))))))))
    (pss_one (ps_ret (pe_tup (pa_cons (pe_op op_add (pe_op op_mulW (pv 2) (pv 1)) (pv 3)) (pa_cons (pv 2) (pa_cons (pe_op op_add (pe_op op_mulW (pv 4) (pv 1)) (pv 5)) (pa_cons (pv 4) (pa_cons (pe_op op_add (pe_op op_mulW (pv 6) (pv 1)) (pv 7)) (pa_cons (pv 6) (pa_cons (pe_op op_add (pe_op op_mulW (pv 8) (pv 1)) (pv 9)) (pa_cons (pv 8) pa_nil)))))))))))), ?_⟩
    match ns, hl with
    | [a, b, c, d, e, f, g, h], _ =>
      have ma : CMulW a q := fits_mul (hf a (by simp)) hq
      have mc : CMulW c q := fits_mul (hf c (by simp)) hq
      have me : CMulW e q := fits_mul (hf e (by simp)) hq
      have mg' : CMulW g q := fits_mul (hf g (by simp)) hq
      refine ⟨_, rfl, p, _, rfl, hp, rfl, _, _, rfl, _, _, rfl, _, _, rfl, _, _, rfl, _, _, rfl, _, _, rfl, _, _, rfl, _, _, rfl, rfl, ?_⟩
      refine ⟨_, rfl, _, rfl, _, _, rfl, rfl, ma, _, rfl, _, _, rfl, rfl, _, rfl, _, rfl, _, rfl, _, _, rfl, rfl, mc, _, rfl, _, _, rfl, rfl, _, rfl, _, rfl, _, rfl, _, _, rfl, rfl, me, _, rfl, _, _, rfl, rfl, _, rfl, _, rfl, _, rfl, _, _, rfl, rfl, mg', _, rfl, _, _, rfl, rfl, _, rfl, (by show 8 ≤ sizeLine; decide), fun r nr => ?_⟩
      exact k r _ (SqT.of upd_same) (same_upd nr)
def sp_sure_part (K : PySem.W.Frag) : Sp := fun vs H Q _ => ∃ (l : Addr) (cs : List (Int × Int)), vs = [.ref l] ∧ CornersAt K H l cs ∧ 0 < cs.length ∧ cs.length ≤ 4 ∧ (∀ c ∈ cs, fits c.1 ∧ fits c.2) ∧
  ∀ H', Same H H' → Q (match surePart cs with | some q => .int q | none => .non) H'
theorem ok_sure_part (T : CT K mg A) (D : DT K mg A) : COk P w K mg base CX0 1 "sure_part" ["corners"] (sp_sure_part K) := by
  refine COk.by D.sure_part fun f fd F => ?_
  refine F.ok sc_sure_part (fun vs H Q E h => ?_) (fun cdv Ar outer s H vs Q E hr h => ?_)
  · obtain ⟨l, cs, rfl, _⟩ := h
    rfl
  · obtain ⟨l, cs, rfl, ⟨ts, hl, hts⟩, h0, h4, hf, k⟩ := h
    refine ⟨_, (C8.pss_cut (ps_if (pt_cmpR op_lt (pe_ix ix_tup (pe_ix ix_list (pv 0) pe_int (fun _ _ => rfl)) pe_int (fun _ _ => rfl)) pe_int (nomark _))
      (pss_one (ps_setLc (i := 0) (own := [("top", 1), ("below", 2)]) (g := gTup K 2 (gCons (gName 1) (gCons (gName 2) gNil))) (tt := tYes) rfl sc_sure_part.nd rfl rfl (sw_true rfl rfl rfl (by decide +kernel)) (pi_list (pv 0)) (blkOk_by (own := [("top", 1), ("below", 2)]) (N := ["corners", "top", "below", "part"]) (sc := defScope s_sure_part) (by decide +kernel)) (fun _ _ _ _ _ => (pg_tup rfl (pgs_cons (pg_name (i := 1) sc_sure_part.nd rfl (Or.inl rfl)) (pgs_cons (pg_name (i := 2) sc_sure_part.nd rfl (Or.inl rfl)) pgs_nil)))) (fun _ _ _ _ _ => pts_nil) (fun _ _ _ _ _ => (pe_tup (pa_cons (pe_un un_neg (pv 1)) (pa_cons (pe_un un_neg (pv 2)) pa_nil)))))) pss_nil)
    (pss_cons (ps_if (pt_cmpR op_le (pe_callB (cr_min rfl) (by rfl) T.b_min (by decide +kernel) (pa_cons (pe_lc (own := [("top", 1), ("below", 2)]) (g := gTup K 2 (gCons (gName 1) (gCons (gName 2) gNil))) (tt := tYes) rfl sc_sure_part.nd (pi_list (pv 0)) (blkOk_by (own := [("top", 1), ("below", 2)]) (N := ["corners", "top", "below", "part"]) (sc := defScope s_sure_part) (by decide +kernel)) (fun _ _ _ _ _ => (pg_tup rfl (pgs_cons (pg_name (i := 1) sc_sure_part.nd rfl (Or.inl rfl)) (pgs_cons (pg_name (i := 2) sc_sure_part.nd rfl (Or.inl rfl)) pgs_nil)))) (fun _ _ _ _ _ => pts_nil) (fun _ _ _ _ _ => (pv 2))) pa_nil)) pe_int (nomark _))
      (pss_one (ps_ret pe_non)) pss_nil)
    (pss_cons (ps_set (i := 3) sc_sure_part.nd rfl (Or.inl rfl) (pe_op op_fdivM (pe_ix ix_tup (pe_ix ix_list (pv 0) pe_int (fun _ _ => rfl)) pe_int (fun _ _ => rfl)) (pe_ix ix_tup (pe_ix ix_list (pv 0) pe_int (fun _ _ => rfl)) pe_int (fun _ _ => rfl))))
    (pss_cons (ps_for PassesOwn.never rfl (pi_list (pv 0)) (pg_tup rfl (pgs_cons (pg_name (i := 1) sc_sure_part.nd rfl (Or.inl rfl)) (pgs_cons (pg_name (i := 2) sc_sure_part.nd rfl (Or.inl rfl)) pgs_nil)))
      (pss_one (ps_if (pt_not (pt_chain op_le op_le (pe_op op_mulW (pv 3) (pv 2)) (pv 1) (pe_op op_mulW (pe_op op_add (pv 3) pe_int) (pv 2))))
      (pss_one (ps_ret pe_non)) pss_nil)))
    (pss_one (ps_ret (pv 3))))))), ?_⟩
    match cs, ts, hts, h0 with
    | c0 :: cr, t0 :: tr, hts, _ =>
    have ht0 := hts.1
    refine ⟨fun σ H' => ∃ l', σ = [some (V.ref l'), none, none, none] ∧ CornersAt K H' l' (flipped (c0 :: cr)) ∧ Same H H', ?_, ?_⟩
    · refine ⟨_, rfl, l, _, 0, _, rfl, rfl, hl, atI_nat (j := 0) rfl, t0, _, 1, _, rfl, rfl, ht0, atI_nat (j := 1) rfl, _, _, rfl, rfl, _, rfl, ite2 (fun c => ?_) (fun c => ?_)⟩
      · have cn : c0.2 < 0 := of_decide_eq_true c
        refine ⟨_, rfl, l, rfl, ⟨_, hl⟩, fun D0 nD => lc_list (K := K) (a := l) (xs := (t0 :: tr).map V.ref) (fun i H' => Same H H' ∧ ∃ us : List Addr, H' D0 = some (.lst (us.map V.ref)) ∧ us.length ≤ i ∧ PairsAt K H' us (((c0 :: cr).take i).map fun d => (-d.1, -d.2)))
          ⟨same_upd nD, [], upd_same, Nat.zero_le _, trivial⟩ (fun i H' _ z => sqL_same hl z.1) ?_ ?_⟩
        · rintro i x H' hx ⟨s1, us, hD, hu, hus⟩
          obtain ⟨t, d, rfl, ed, htd⟩ := hts.at_ hx
          refine ⟨t, _, rfl, sqT_same htd s1, rfl, _, _, rfl, _, _, rfl, rfl, rfl, ?_⟩
          refine ⟨_, rfl, _, rfl, _, rfl, _, rfl, (by show 2 ≤ sizeLine; decide), fun q nq => ?_⟩
          have s2 := same_upd (o := .tup [V.int (-d.1), .int (-d.2)]) nq
          have hi : i < 4 := by
            have := (List.getElem?_eq_some_iff.mp ed).1
            omega
          refine ⟨_, s2 _ _ hD, ?_, ?_, us ++ [q], ?_, ?_, ?_⟩
          · rw [List.length_map]
            exact Nat.lt_of_le_of_lt hu (Nat.lt_of_lt_of_le hi (by decide))
          · intro b o z
            rw [upd_ne (ne_of_none z nD)]
            exact s2 _ _ (s1 _ _ z)
          · rw [upd_same, List.map_append]
            rfl
          · rw [List.length_append]
            exact Nat.succ_le_succ hu
          · rw [List.take_add_one, ed, List.map_append]
            exact PairsAt.snoc (c := (-d.1, -d.2)) (sqT_lst (SqT.of upd_same) (s2 _ _ hD)) (PairsAt.lst (s2 _ _ hD) (hus.same s2))
        · rintro H' ⟨s1, us, hD, hu, hus⟩
          refine ⟨D0, rfl, ⟨us, SqL.of hD, ?_⟩, s1⟩
          rw [List.length_map, hts.len, List.take_of_length_le (Nat.le_refl _)] at hus
          unfold flipped
          rw [List.getD_cons_zero, if_pos cn]
          exact hus
      · refine ⟨l, rfl, ⟨_, hl, ?_⟩, Same.refl H⟩
        unfold flipped
        rw [List.getD_cons_zero, if_neg (fun z => c (decide_eq_true z))]
        exact hts
    · rintro σ H1 ⟨l1, rfl, ⟨us, hl1, hus⟩, s1⟩
      have hfd : ∀ d ∈ flipped (c0 :: cr), fits d.1 ∧ fits d.2 := by
        unfold flipped
        split
        · intro d hd
          obtain ⟨c, hc, rfl⟩ := List.mem_map.mp hd
          exact ⟨fits_neg (hf c hc).1, fits_neg (hf c hc).2⟩
        · exact hf
      have hlen : (flipped (c0 :: cr)).length = (c0 :: cr).length := by
        unfold flipped
        split
        · rw [List.length_map]
        · rfl
      have eS : surePart (c0 :: cr) = (if (flipped (c0 :: cr)).all (fun d => decide (0 < d.2)) then
        (if (flipped (c0 :: cr)).all (fun d => decide (((flipped (c0 :: cr)).getD 0 (0, 0)).1.fdiv ((flipped (c0 :: cr)).getD 0 (0, 0)).2 * d.2 ≤ d.1) && decide (d.1 ≤ (((flipped (c0 :: cr)).getD 0 (0, 0)).1.fdiv ((flipped (c0 :: cr)).getD 0 (0, 0)).2 + 1) * d.2)) then some (((flipped (c0 :: cr)).getD 0 (0, 0)).1.fdiv ((flipped (c0 :: cr)).getD 0 (0, 0)).2) else none) else none) := rfl
      rw [eS] at k
      clear eS
      have hle : (flipped (c0 :: cr)).length ≤ 4 := by rw [hlen]; exact h4
      have hge : 0 < (flipped (c0 :: cr)).length := by rw [hlen]; exact Nat.succ_pos _
      generalize flipped (c0 :: cr) = ds at *
      match ds, us, hus, hge with
      | d0 :: dr, u0 :: ur, hus, _ =>
      have hu0 := hus.1
      refine ⟨_, rfl, l1, rfl, ⟨_, hl1⟩, fun D1 nD1 => lc_list (K := K) (a := l1) (xs := (u0 :: ur).map V.ref) (fun i H' => Same H1 H' ∧ H' D1 = some (.lst ((((d0 :: dr).take i).map fun d => d.2).map V.int)))
          ⟨same_upd nD1, upd_same⟩ (fun i H' _ z => sqL_same hl1 z.1) ?_ ?_⟩
      · rintro i x H' hx ⟨s2, hD⟩
        obtain ⟨t, d, rfl, ed, htd⟩ := hus.at_ hx
        refine ⟨t, _, rfl, sqT_same htd s2, rfl, _, _, rfl, _, _, rfl, rfl, rfl, ?_⟩
        have hi : i < 4 := by
          have := (List.getElem?_eq_some_iff.mp ed).1
          omega
        refine ⟨_, rfl, _, hD, ?_, ?_, ?_⟩
        · rw [List.length_map, List.length_map, List.length_take]
          exact Nat.lt_of_le_of_lt (Nat.min_le_left _ _) (Nat.lt_of_lt_of_le hi (by decide))
        · intro b o z
          rw [upd_ne (ne_of_none z nD1)]
          exact s2 _ _ z
        · rw [upd_same, List.take_add_one, ed]
          simp
      · rintro H2 ⟨s2, hD⟩
        rw [List.length_map, hus.len, List.take_of_length_le (Nat.le_refl _)] at hD
        refine ⟨D1, _, rfl, SqL.of hD, (by rw [List.length_map]; exact Nat.succ_pos _), fun m hm hmin => ⟨_, _, rfl, rfl, _, rfl, ite2 (fun c => ?_) (fun c => ?_)⟩⟩
        · have mn : m ≤ 0 := of_decide_eq_true c
          have := k H2 (s1.trans s2)
          rw [if_neg ?_] at this
          · exact this
          · intro z
            obtain ⟨d, hd, rfl⟩ := List.mem_map.mp hm
            have := of_decide_eq_true (List.all_eq_true.mp z d hd)
            omega
        · have mp : 0 < m := by
            have : ¬ m ≤ 0 := fun z => c (decide_eq_true z)
            omega
          have pos : ∀ d ∈ d0 :: dr, 0 < d.2 := fun d hd => by
            have := hmin d.2 (List.mem_map.mpr ⟨d, hd, rfl⟩)
            omega
          have k1 := k
          rw [if_pos (List.all_eq_true.mpr fun d hd => decide_eq_true (pos d hd)), List.getD_cons_zero] at k1
          have p0 := pos d0 List.mem_cons_self
          have f0 := hfd d0 List.mem_cons_self
          have hu02 := sqT_same hu0 s2
          have hl12 := sqL_same hl1 s2
          have fq : fits (d0.1.fdiv d0.2) := Nat.lt_of_le_of_lt (fdiv_abs (by omega)) f0.1
          refine ⟨_, rfl, l1, _, 0, _, rfl, rfl, hl12, atI_nat (j := 0) rfl, u0, _, 0, _, rfl, rfl, hu02, atI_nat (j := 0) rfl, _, rfl, l1, _, 0, _, rfl, rfl, hl12, atI_nat (j := 0) rfl, u0, _, 1, _, rfl, rfl, hu02, atI_nat (j := 1) rfl, _, _, rfl, rfl, ⟨by omega, f0.1⟩, ?_⟩
          obtain ⟨q, hq⟩ : ∃ q, d0.1.fdiv d0.2 = q := ⟨_, rfl⟩
          rw [hq] at fq
          simp only [hq] at k1
          refine ⟨_, rfl, l1, rfl, ⟨_, hl12⟩, for_list (K := K) (a := l1) (xs := (u0 :: ur).map V.ref) (fun i σ H' => ∃ v1 v2, σ = [some (V.ref l1), v1, v2, some (V.int q)] ∧ H' = H2 ∧ ((d0 :: dr).take i).all (fun d => decide (q * d.2 ≤ d.1) && decide (d.1 ≤ (q + 1) * d.2)) = true)
            ⟨none, none, (by rw [← hq]; rfl), rfl, rfl⟩ (fun i σ H' _ ⟨_, _, _, e, _⟩ => by rw [e]; exact hl12) ?_ ?_⟩
          · rintro i x σ H' hx ⟨v1, v2, rfl, rfl, hall⟩
            obtain ⟨t, d, rfl, ed, htd⟩ := hus.at_ hx
            have hd : d ∈ d0 :: dr := List.mem_of_getElem? ed
            have fd' := hfd d hd
            have done : ¬ (decide (q * d.2 ≤ d.1) && decide (d.1 ≤ (q + 1) * d.2)) = true → Q .non H' := fun z => by
              have := k1 H' (s1.trans s2)
              rw [if_neg (fun y => z (List.all_eq_true.mp y d hd))] at this
              exact this
            refine ⟨t, _, rfl, sqT_same htd s2, rfl, _, _, rfl, _, _, rfl, rfl, ?_⟩
            refine ⟨_, rfl, _, rfl, _, _, rfl, rfl, fits_mul fq fd'.2, _, rfl, _, _, rfl, rfl, _, rfl, ite2 (fun c1 => ?_) (fun c1 => ?_)⟩
            · refine ⟨_, rfl, _, _, rfl, rfl, _, rfl, _, _, rfl, rfl, fits_mul1 fq fd'.2, _, _, rfl, rfl, _, rfl, ite2 (fun c2 => ?_) (fun c2 => ?_)⟩
              · refine done fun z => ?_
                rw [Bool.and_eq_true] at z
                rw [z.2] at c2
                cases c2
              · refine ⟨_, _, rfl, rfl, ?_⟩
                rw [List.take_add_one, ed, List.all_append, hall]
                have : decide (d.1 ≤ (q + 1) * d.2) = true := by
                  cases e : decide (d.1 ≤ (q + 1) * d.2) with
                  | true => rfl
                  | false => exact absurd (by rw [e]; rfl) c2
                simp only [Option.toList_some, List.all_cons, List.all_nil, Bool.and_true, c1, this]
            · refine ⟨_, rfl, iteT ?_⟩
              refine done fun z => ?_
              rw [Bool.and_eq_true] at z
              exact c1 z.1
          · rintro σ H' ⟨v1, v2, rfl, rfl, hall⟩
            rw [List.length_map, hus.len, List.take_of_length_le (Nat.le_refl _)] at hall
            refine ⟨_, rfl, ?_⟩
            have := k1 H' (s1.trans s2)
            rw [if_pos hall] at this
            exact this
end
/-! ### boxes: fractions, fours, eights -/
def fbF (t b : Int) (told : Bool) : Flds := [("top", .int t), ("below", .int b), ("told", .bl told)]
def foF (p x : Addr) (st told : Bool) (r : V) : Flds := [("numbers", .ref p), ("tree", .ref x), ("started", .bl st), ("told", .bl told), ("rest", r)]
def eiF (p q l : Addr) (told : Bool) (r : V) : Flds := [("numbers", .ref p), ("trees", .ref q), ("taken", .ref l), ("told", .bl told), ("rest", r)]
section
variable {P : Program} {w : World} {K : PySem.W.Frag} {mg : Str → Option Value} {base : Heap} {A : Ad}
theorem ok_FractionBox_init (T : CT K mg A) (D : DT K mg A) : IOk P w K mg base 1 "FractionBox" A.c_FractionBox ["self", "top", "below", "told"] (sp_ini A.c_FractionBox 3 fun us => [("top", us.getD 0 .non), ("below", us.getD 1 .non), ("told", us.getD 2 .non)]) := by
  refine IOk.of T.g_FractionBox D.FractionBox_init fun f fd F => ?_
  refine F.ok sc_FractionBox_init (fun vs H Q E h => ?_) (fun cdv Ar outer s H vs Q E hr h => ?_)
  · obtain ⟨p, dx, us, rfl, hl, _⟩ := h
    show us.length + 1 = 4
    omega
  · obtain ⟨p, dx, us, rfl, hl, hp, k⟩ := h
    match us, hl with
    | [u0, u1, u2], _ =>
      refine ⟨_, (pss_cons (ps_fld (pv 0) (pv 1) rfl)
    (pss_cons (ps_fld (pv 0) (pv 2) rfl)
    (pss_one (ps_fld (pv 0) (pv 3) rfl)))), ?_⟩
      refine ⟨_, rfl, _, rfl, p, _, dx, [], rfl, hp, T.cl_FractionBox, T.n_FractionBox_top, (by show 0 < 1000; decide), ?_⟩
      refine ⟨_, rfl, _, rfl, p, _, dx, _, rfl, upd_same, T.cl_FractionBox, T.n_FractionBox_below, (by show 1 < 1000; decide), ?_⟩
      refine ⟨_, rfl, _, rfl, p, _, dx, _, rfl, upd_same, T.cl_FractionBox, T.n_FractionBox_told, (by show 2 < 1000; decide), ?_⟩
      refine cast (congrArg (Q V.non) ?_) k
      rw [upd_upd, upd_upd]
      rfl
def sp_nothing_left (A : Ad) : Sp := fun vs H Q E => ∃ (a dx : Addr) (t b : Int) (told : Bool), vs = [.ref a] ∧ H a = some (.ins A.c_FractionBox dx (fbF t b told)) ∧
  (told = true → Q (.ref A.k_END) H) ∧ (told = false → E (.ref A.c_NoValue) none H)
theorem ok_nothing_left (T : CT K mg A) (D : DT K mg A) : MOk P w K mg base (L2.CX P w) 1 A.c_FractionBox "nothing_left" ["self"] (sp_nothing_left A) := by
  refine MOk.of T.cl_FractionBox D.FractionBox_nothing_left fun f fd F => ?_
  refine F.okX sc_FractionBox_nothing_left (fun vs H Q E h => ?_) (fun cdv Ar outer s H vs Q E hr h => ?_)
  · obtain ⟨a, dx, t, b, told, rfl, _⟩ := h
    rfl
  · obtain ⟨a, dx, t, b, told, rfl, ha, k1, k2⟩ := h
    refine ⟨_, (pss_cons (ps_if (pt_val (pe_fld (pv 0) rfl))
      (pss_one (ps_ret (pe_glob (v := .ref A.k_END) (by rfl) T.g_END rfl))) pss_nil)
    (pss_one (ps_raise rfl (takes_of rfl rfl rfl rfl) (pmk_own PySem.F.excBase_ValueError T.x_NoValue.x T.x_NoValue.g T.x_NoValue.k (raises_own T.x_NoValue.b T.x_NoValue.t) rfl)))), ?_⟩
    refine ⟨_, rfl, a, _, dx, _, _, rfl, ha, T.cl_FractionBox, T.n_FractionBox_told, rfl, ?_⟩
    cases told with
    | true => exact ⟨true, rfl, k1 rfl⟩
    | false => exact ⟨false, rfl, k2 rfl⟩
/-- a fraction box, asked: its parts cost nothing -/
def sp_fb (A : Ad) (K : PySem.W.Frag) : Sp := fun vs H Q E => ∃ (a dx : Addr) (m : V) (t b : Int) (told : Bool), vs = [.ref a, m] ∧ H a = some (.ins A.c_FractionBox dx (fbF t b told)) ∧ fits t ∧ fits b ∧
  (b = 0 → told = true → Q (.ref A.k_END) H) ∧ (b = 0 → told = false → E (.ref A.c_NoValue) none H) ∧
  (b ≠ 0 → ∀ r H', H' r = some (.tup [.str "part", .int (t.fdiv b)]) → H' a = some (.ins A.c_FractionBox dx (fbF b (t - t.fdiv b * b) true)) → (∀ c o, H c = some o → c ≠ a → H' c = some o) → Q (.ref r) H')
theorem ok_FractionBox_ask (T : CT K mg A) (D : DT K mg A) : MOk P w K mg base (L2.CX P w) 2 A.c_FractionBox "ask" ["self", "meter"] (sp_fb A K) := by
  have M_nothing := ok_nothing_left (P := P) (w := w) (base := base) T D
  have G_turned_over := ok_turned_over (P := P) (w := w) (base := base) T D
  refine MOk.of T.cl_FractionBox D.FractionBox_ask fun f fd F => ?_
  refine F.okX sc_FractionBox_ask (fun vs H Q E h => ?_) (fun cdv Ar outer s H vs Q E hr h => ?_)
  · obtain ⟨a, dx, m, t, b, told, rfl, _⟩ := h
    rfl
  · obtain ⟨a, dx, m, t, b, told, rfl, ha, ft, fb, k1, k2, k3⟩ := h
    refine ⟨_, (pss_cons (ps_if (pt_cmpR op_eq (pe_fld (pv 0) rfl) pe_int (nomark _))
      (pss_one (ps_ret (pe_mX0 M_nothing (hr.mono (by first | decide | omega)) (passes_tk (takes_of rfl rfl rfl rfl)) (pv 0)))) pss_nil)
    (pss_cons (ps_set (i := 2) sc_FractionBox_ask.nd rfl (Or.inl rfl) (pe_op op_fdivM (pe_fld (pv 0) rfl) (pe_fld (pv 0) rfl)))
    (pss_cons (ps_asg (pe_c G_turned_over (hr.mono (by first | decide | omega)) (pa_cons (pe_tup (pa_cons (pe_fld (pv 0) rfl) (pa_cons (pe_fld (pv 0) rfl) pa_nil))) (pa_cons (pv 2) pa_nil))) (pg_tup rfl (pgs_cons (pg_fld (pv 0)) (pgs_cons (pg_fld (pv 0)) pgs_nil))))
    (pss_cons (ps_fld (pv 0) pe_bl rfl)
    (pss_one (ps_ret (pe_tup (pa_cons pe_str (pa_cons (pv 2) pa_nil))))))))), ?_⟩
    have cl := T.cl_FractionBox
    refine ⟨_, rfl, a, _, dx, _, _, rfl, ha, cl, T.n_FractionBox_below, rfl, rfl, _, rfl, ite2 (fun c => ?_) (fun c => ?_)⟩
    · have hb : b = 0 := V.int.inj (of_decide_eq_true c)
      exact ⟨_, rfl, a, dx, _, rfl, ha, rfl, a, dx, t, b, told, rfl, ha, k1 hb, k2 hb⟩
    · have hb : b ≠ 0 := fun z => c (decide_eq_true (by rw [z]))
      refine ⟨_, rfl, a, _, dx, _, _, rfl, ha, cl, T.n_FractionBox_top, rfl, _, rfl, a, _, dx, _, _, rfl, ha, cl, T.n_FractionBox_below, rfl, _, _, rfl, rfl, ⟨hb, ft⟩, ?_⟩
      have fq : fits (t.fdiv b) := Nat.lt_of_le_of_lt (fdiv_abs hb) ft
      refine ⟨_, rfl, a, _, dx, _, _, rfl, ha, cl, T.n_FractionBox_top, rfl, _, rfl, a, _, dx, _, _, rfl, ha, cl, T.n_FractionBox_below, rfl, (by show 2 ≤ sizeLine; decide), fun q nq => ?_⟩
      have s1 := same_upd (o := .tup [V.int t, .int b]) nq
      refine ⟨_, rfl, q, [t, b], t.fdiv b, rfl, SqT.of upd_same, ⟨1, rfl, by decide, by decide⟩, (by intro z hz; simp at hz; rcases hz with rfl | rfl <;> assumption), fq, fun r H1 hr1 s2 => ?_⟩
      have ss := s1.trans s2
      have et : turnedOver [t, b] (t.fdiv b) = [b, t - t.fdiv b * b] := by simp [turnedOver]
      rw [et] at hr1
      refine ⟨r, _, rfl, hr1, rfl, _, _, rfl, _, rfl, a, _, dx, _, rfl, ss _ _ ha, cl, T.n_FractionBox_top, (by show 3 < 1000; decide), ?_⟩
      refine ⟨_, _, rfl, _, rfl, a, _, dx, _, rfl, upd_same, cl, T.n_FractionBox_below, (by show 3 < 1000; decide), rfl, ?_⟩
      refine ⟨_, rfl, a, _, dx, _, rfl, upd_same, cl, T.n_FractionBox_told, (by show 3 < 1000; decide), ?_⟩
      refine ⟨_, rfl, (by show 2 ≤ sizeLine; decide), fun u nu => ?_⟩
      have s3 := same_upd (o := .tup [V.str "part", .int (t.fdiv b)]) nu
      rw [upd_upd, upd_upd] at *
      exact k3 hb u _ upd_same (s3 _ _ upd_same) fun c o e hc => s3 _ _ (by rw [upd_ne hc]; exact ss _ _ e)
theorem ok_FourBox_init (T : CT K mg A) (D : DT K mg A) : IOk P w K mg base 1 "FourBox" A.c_FourBox ["self", "numbers", "tree", "started", "told"] (sp_ini A.c_FourBox 4 fun us => [("numbers", us.getD 0 .non), ("tree", us.getD 1 .non), ("started", us.getD 2 .non), ("told", us.getD 3 .non), ("rest", .non)]) := by
  refine IOk.of T.g_FourBox D.FourBox_init fun f fd F => ?_
  refine F.ok sc_FourBox_init (fun vs H Q E h => ?_) (fun cdv Ar outer s H vs Q E hr h => ?_)
  · obtain ⟨p, dx, us, rfl, hl, _⟩ := h
    show us.length + 1 = 5
    omega
  · obtain ⟨p, dx, us, rfl, hl, hp, k⟩ := h
    match us, hl with
    | [u0, u1, u2, u3], _ =>
      refine ⟨_, (pss_cons (ps_fld (pv 0) (pv 1) rfl)
    (pss_cons (ps_fld (pv 0) (pv 2) rfl)
    (pss_cons (ps_fld (pv 0) (pv 3) rfl)
    (pss_cons (ps_fld (pv 0) (pv 4) rfl)
    (pss_one (ps_fld (pv 0) pe_non rfl)))))), ?_⟩
      refine ⟨_, rfl, _, rfl, p, _, dx, [], rfl, hp, T.cl_FourBox, T.n_FourBox_numbers, (by show 0 < 1000; decide), ?_⟩
      refine ⟨_, rfl, _, rfl, p, _, dx, _, rfl, upd_same, T.cl_FourBox, T.n_FourBox_tree, (by show 1 < 1000; decide), ?_⟩
      refine ⟨_, rfl, _, rfl, p, _, dx, _, rfl, upd_same, T.cl_FourBox, T.n_FourBox_started, (by show 2 < 1000; decide), ?_⟩
      refine ⟨_, rfl, _, rfl, p, _, dx, _, rfl, upd_same, T.cl_FourBox, T.n_FourBox_told, (by show 3 < 1000; decide), ?_⟩
      refine ⟨_, rfl, p, _, dx, _, rfl, upd_same, T.cl_FourBox, T.n_FourBox_rest, (by show 4 < 1000; decide), ?_⟩
      refine cast (congrArg (Q V.non) ?_) k
      rw [upd_upd, upd_upd, upd_upd, upd_upd]
      rfl
/-- a part is told: the four's numbers are turned over -/
def sp_four_tell (A : Ad) (K : PySem.W.Frag) : Sp := fun vs H Q _ => ∃ (a dx p x : Addr) (ns : List Int) (st told : Bool) (q : Int), vs = [.ref a, .int q] ∧ H a = some (.ins A.c_FourBox dx (foF p x st told .non)) ∧ SqT K H p (ns.map V.int) ∧ ns.length = 4 ∧ (∀ z ∈ ns, fits z) ∧ fits q ∧
  ∀ r p' H', H' r = some (.tup [.str "part", .int q]) → H' a = some (.ins A.c_FourBox dx (foF p' x st true .non)) → SqT K H' p' ((turnedOver ns q).map V.int) → (∀ c o, H c = some o → c ≠ a → H' c = some o) → Q (.ref r) H'
theorem ok_FourBox_tell (T : CT K mg A) (D : DT K mg A) : MOk P w K mg base CX0 2 A.c_FourBox "tell" ["self", "part"] (sp_four_tell A K) := by
  have G_turned_over := ok_turned_over (P := P) (w := w) (base := base) T D
  refine MOk.of T.cl_FourBox D.FourBox_tell fun f fd F => ?_
  refine F.ok sc_FourBox_tell (fun vs H Q E h => ?_) (fun cdv Ar outer s H vs Q E hr h => ?_)
  · obtain ⟨a, dx, p, x, ns, st, told, q, rfl, _⟩ := h
    rfl
  · obtain ⟨a, dx, p, x, ns, st, told, q, rfl, ha, hp, hl, hf, fq, k⟩ := h
    refine ⟨_, (pss_cons (ps_fld (pv 0) (pe_c G_turned_over (hr.mono (by first | decide | omega)) (pa_cons (pe_fld (pv 0) rfl) (pa_cons (pv 1) pa_nil))) rfl)
    (pss_cons (ps_fld (pv 0) pe_bl rfl)
    (pss_one (ps_ret (pe_tup (pa_cons pe_str (pa_cons (pv 1) pa_nil))))))), ?_⟩
    have cl := T.cl_FourBox
    refine ⟨_, rfl, a, _, dx, _, _, rfl, ha, cl, T.n_FourBox_numbers, rfl, _, rfl, p, ns, q, rfl, hp, ⟨2, hl, by decide, by decide⟩, hf, fq, fun p' H1 hp1 s1 => ?_⟩
    refine ⟨_, rfl, a, _, dx, _, rfl, s1 _ _ ha, cl, T.n_FourBox_numbers, (by show 5 < 1000; decide), ?_⟩
    refine ⟨_, rfl, a, _, dx, _, rfl, upd_same, cl, T.n_FourBox_told, (by show 5 < 1000; decide), ?_⟩
    refine ⟨_, rfl, (by show 2 ≤ sizeLine; decide), fun u nu => ?_⟩
    have s3 := same_upd (o := .tup [V.str "part", .int q]) nu
    rw [upd_upd] at *
    exact k u p' _ upd_same (s3 _ _ upd_same) (sqT_same (sqT_ins hp1 (s1 _ _ ha)) s3) fun c o e hc => s3 _ _ (by rw [upd_ne hc]; exact s1 _ _ e)
def Ans.isFin : Ans → Bool
  | .fin => true
  | _ => false
def Ans.isWaits : Ans → Bool
  | .waits => true
  | _ => false
theorem eqv_fin (a : Ans) : PyData.eqv (.tuple a.data) (.tuple Ans.fin.data) = a.isFin := by
  cases a with
  | part n => rfl
  | fin => rfl
  | waits => rfl
theorem eqv_waits (a : Ans) : PyData.eqv (.tuple a.data) (.tuple Ans.waits.data) = a.isWaits := by
  cases a with
  | part n => rfl
  | fin => rfl
  | waits => rfl
/-- what a four's tree told is taken -/
def sp_four_take (A : Ad) (K : PySem.W.Frag) : Sp := fun vs H Q _ => ∃ (a dx p x : Addr) (ns : List Int) (st told : Bool) (v : V) (an : Ans), vs = [.ref a, v] ∧ an.At A H v ∧ H a = some (.ins A.c_FourBox dx (foF p x st told .non)) ∧ SqT K H p (ns.map V.int) ∧ ns.length = 4 ∧ (∀ z ∈ ns, fits z) ∧
  match an with
  | .waits => False
  | .fin => ∀ r dr H', H' a = some (.ins A.c_FourBox dx (foF p x st told (.ref r))) → H' r = some (.ins A.c_FractionBox dr (fbF (ns.getD 0 0) (ns.getD 2 0) told)) → H r = none → (∀ c o, H c = some o → c ≠ a → H' c = some o) → Q .non H'
  | .part q => fits q ∧ ∀ p' H', H' a = some (.ins A.c_FourBox dx (foF p' x true told .non)) → SqT K H' p' ((withOne ns q).map V.int) → (∀ c o, H c = some o → c ≠ a → H' c = some o) → Q .non H'
theorem ok_FourBox_take (T : CT K mg A) (D : DT K mg A) : MOk P w K mg base CX0 3 A.c_FourBox "take" ["self", "answer"] (sp_four_take A K) := by
  have I_FractionBox := ok_FractionBox_init (P := P) (w := w) (base := base) T D
  refine MOk.of T.cl_FourBox D.FourBox_take fun f fd F => ?_
  refine F.ok sc_FourBox_take (fun vs H Q E h => ?_) (fun cdv Ar outer s H vs Q E hr h => ?_)
  · obtain ⟨a, dx, p, x, ns, st, told, v, an, rfl, _⟩ := h
    rfl
  · obtain ⟨a, dx, p, x, ns, st, told, v, an, rfl, hv, ha, hp, hl, hf, k⟩ := h
    refine ⟨_, (pss_cons (ps_asg (pe_fld (pv 0) rfl) (pg_tup rfl (pgs_cons (pg_name (i := 2) sc_FourBox_take.nd rfl (Or.inl rfl)) (pgs_cons (pg_name (i := 3) sc_FourBox_take.nd rfl (Or.inl rfl)) (pgs_cons (pg_name (i := 4) sc_FourBox_take.nd rfl (Or.inl rfl)) (pgs_cons (pg_name (i := 5) sc_FourBox_take.nd rfl (Or.inl rfl)) pgs_nil))))))
    (pss_cons (ps_if (pt_cmpR (op_eqD hr.units) (pv 1) (pe_glob (v := .ref A.k_END) (by rfl) T.g_END rfl) (nomark _))
      (pss_cons (ps_fld (pv 0) (pe_mk I_FractionBox (hr.mono (by first | decide | omega)) (pa_cons (pv 2) (pa_cons (pv 4) (pa_cons (pe_fld (pv 0) rfl) pa_nil)))) rfl)
    (pss_one ps_retN)) pss_nil)
    (pss_cons (ps_set (i := 6) sc_FourBox_take.nd rfl (Or.inl rfl) (pe_ix ix_tup (pv 1) pe_int (fun _ _ => rfl)))
    (pss_cons (ps_fld (pv 0) (pe_tup (pa_cons (pe_op op_add (pe_op op_mulW (pv 2) (pv 6)) (pv 3)) (pa_cons (pv 2) (pa_cons (pe_op op_add (pe_op op_mulW (pv 4) (pv 6)) (pv 5)) (pa_cons (pv 4) pa_nil))))) rfl)
    (pss_one (ps_fld (pv 0) pe_bl rfl)))))), ?_⟩
    have cl := T.cl_FourBox
    match ns, hl with
    | [n0, n1, n2, n3], _ =>
      refine ⟨_, rfl, a, _, dx, _, _, rfl, ha, cl, T.n_FourBox_numbers, rfl, p, _, rfl, hp, rfl, _, _, rfl, _, _, rfl, _, _, rfl, _, _, rfl, rfl, ?_⟩
      obtain ⟨pv', rfl, hpv⟩ := hv.tup T
      have hE : SqT K H A.k_END Ans.fin.vals := T.t_END H
      refine ⟨_, rfl, _, _, an.dp hpv, Ans.fin.dp hE, an.shaped, Ans.fin.shaped, _, rfl, ?_⟩
      rw [eqv_fin]
      cases an with
      | waits => exact k.elim
      | fin =>
        refine iteT ⟨_, rfl, _, rfl, _, rfl, a, _, dx, _, _, rfl, ha, cl, T.n_FourBox_told, rfl, fun r dr nr nd ne => ?_⟩
        refine ⟨r, dr, _, rfl, rfl, upd_same, rfl, ?_⟩
        rw [upd_upd]
        have s1 := made_same (o := .own r) (o' := .ins A.c_FractionBox dr [("top", .int n0), ("below", .int n2), ("told", .bl told)]) nr nd
        refine ⟨_, rfl, a, _, dx, _, rfl, s1 _ _ ha, cl, T.n_FourBox_rest, (by show 5 < 1000; decide), ?_⟩
        exact k r dr _ upd_same (by rw [upd_ne (ne_of_none ha nr).symm]; exact upd_same) nr fun c o e hc => by rw [upd_ne hc]; exact s1 _ _ e
      | part q =>
        obtain ⟨fq, k⟩ := k
        refine iteF ⟨_, rfl, pv', _, 1, _, rfl, rfl, hpv, atI_nat (j := 1) rfl, ?_⟩
        refine ⟨_, rfl, _, rfl, _, _, rfl, rfl, fits_mul (hf n0 (by simp)) fq, _, rfl, _, _, rfl, rfl, _, rfl, _, rfl, _, rfl, _, _, rfl, rfl, fits_mul (hf n2 (by simp)) fq, _, rfl, _, _, rfl, rfl, _, rfl, (by show 4 ≤ sizeLine; decide), fun p' np => ?_⟩
        have s1 := same_upd (o := .tup [V.int (n0 * q + n1), .int n0, .int (n2 * q + n3), .int n2]) np
        refine ⟨_, rfl, a, _, dx, _, rfl, s1 _ _ ha, cl, T.n_FourBox_numbers, (by show 5 < 1000; decide), ?_⟩
        refine ⟨_, rfl, a, _, dx, _, rfl, upd_same, cl, T.n_FourBox_started, (by show 5 < 1000; decide), ?_⟩
        rw [upd_upd]
        exact k p' _ upd_same (sqT_ins (SqT.of upd_same) (s1 _ _ ha)) fun c o e hc => by rw [upd_ne hc]; exact s1 _ _ e
theorem ne_of_nd {i j : Int} (c : (!decide (V.int i = V.int j)) = true) : i ≠ j := fun z => by
  rw [z, decide_eq_true rfl] at c
  cases c
theorem eq_of_nd {i j : Int} (c : ¬ (!decide (V.int i = V.int j)) = true) : i = j := by
  rcases Decidable.em (i = j) with z | z
  · exact z
  · exact absurd (by rw [decide_eq_false (fun q => z (V.int.inj q))]; rfl) c
/-- the box of one tree alone -/
def OneIs (A : Ad) (p x : Addr) (ns : List Int) (told : Bool) (C : Addr) (fs : Flds) : Prop :=
  (ns.getD 0 0 * ns.getD 3 0 ≠ ns.getD 1 0 * ns.getD 2 0 ∧ C = A.c_FourBox ∧ fs = foF p x true told .non) ∨
  (ns.getD 0 0 * ns.getD 3 0 = ns.getD 1 0 * ns.getD 2 0 ∧ ns.getD 2 0 ≠ 0 ∧ C = A.c_FractionBox ∧ fs = fbF (ns.getD 0 0) (ns.getD 2 0) told) ∨
  (ns.getD 0 0 * ns.getD 3 0 = ns.getD 1 0 * ns.getD 2 0 ∧ ns.getD 2 0 = 0 ∧ C = A.c_FractionBox ∧ fs = fbF (ns.getD 1 0) (ns.getD 3 0) told)
def sp_box_of_one (A : Ad) (K : PySem.W.Frag) : Sp := fun vs H Q _ => ∃ (p x : Addr) (ns : List Int) (told : Bool), vs = [.ref p, .ref x, .bl told] ∧ SqT K H p (ns.map V.int) ∧ ns.length = 4 ∧ (∀ z ∈ ns, fits z) ∧
  ∀ r dr C fs H', H r = none → Same H H' → H' r = some (.ins C dr fs) → OneIs A p x ns told C fs → Q (.ref r) H'
theorem ok_box_of_one (T : CT K mg A) (D : DT K mg A) : COk P w K mg base CX0 3 "box_of_one" ["numbers", "tree", "told"] (sp_box_of_one A K) := by
  have I_FractionBox := ok_FractionBox_init (P := P) (w := w) (base := base) T D
  have I_FourBox := ok_FourBox_init (P := P) (w := w) (base := base) T D
  refine COk.by D.box_of_one fun f fd F => ?_
  refine F.ok sc_box_of_one (fun vs H Q E h => ?_) (fun cdv Ar outer s H vs Q E hr h => ?_)
  · obtain ⟨p, x, ns, told, rfl, _⟩ := h
    rfl
  · obtain ⟨p, x, ns, told, rfl, hp, hl, hf, k⟩ := h
    refine ⟨_, (pss_cons (ps_asg (pv 0) (pg_tup rfl (pgs_cons (pg_name (i := 3) sc_box_of_one.nd rfl (Or.inl rfl)) (pgs_cons (pg_name (i := 4) sc_box_of_one.nd rfl (Or.inl rfl)) (pgs_cons (pg_name (i := 5) sc_box_of_one.nd rfl (Or.inl rfl)) (pgs_cons (pg_name (i := 6) sc_box_of_one.nd rfl (Or.inl rfl)) pgs_nil))))))
    (pss_cons (ps_if (pt_cmpR op_ne (pe_op op_mulW (pv 3) (pv 6)) (pe_op op_mulW (pv 4) (pv 5)) (nomark _))
      (pss_one (ps_ret (pe_mk I_FourBox (hr.mono (by first | decide | omega)) (pa_cons (pv 0) (pa_cons (pv 1) (pa_cons pe_bl (pa_cons (pv 2) pa_nil))))))) pss_nil)
    (pss_cons (ps_if (pt_cmpR op_ne (pv 5) pe_int (nomark _))
      (pss_one (ps_ret (pe_mk I_FractionBox (hr.mono (by first | decide | omega)) (pa_cons (pv 3) (pa_cons (pv 5) (pa_cons (pv 2) pa_nil)))))) pss_nil)
    (pss_one (ps_ret (pe_mk I_FractionBox (hr.mono (by first | decide | omega)) (pa_cons (pv 4) (pa_cons (pv 6) (pa_cons (pv 2) pa_nil))))))))), ?_⟩
    match ns, hl with
    | [n0, n1, n2, n3], _ =>
      refine ⟨_, rfl, p, _, rfl, hp, rfl, _, _, rfl, _, _, rfl, _, _, rfl, _, _, rfl, rfl, ?_⟩
      refine ⟨_, rfl, _, rfl, _, _, rfl, rfl, fits_mul (hf n0 (by simp)) (hf n3 (by simp)), _, rfl, _, rfl, _, _, rfl, rfl, fits_mul (hf n1 (by simp)) (hf n2 (by simp)), ?_⟩
      refine ⟨rfl, _, rfl, ite2 (fun c => ?_) (fun c => ?_)⟩
      · have hc : n0 * n3 ≠ n1 * n2 := ne_of_nd c
        refine ⟨_, rfl, _, rfl, _, rfl, fun r dr nr nd ne => ?_⟩
        refine ⟨r, dr, _, rfl, rfl, upd_same, rfl, ?_⟩
        rw [upd_upd]
        exact k r dr _ _ _ nr (made_same nr nd) upd_same (.inl ⟨hc, rfl, rfl⟩)
      · have hc : n0 * n3 = n1 * n2 := eq_of_nd c
        refine ⟨_, rfl, rfl, _, rfl, ite2 (fun c2 => ?_) (fun c2 => ?_)⟩
        · have hc2 : n2 ≠ 0 := ne_of_nd c2
          refine ⟨_, rfl, _, rfl, _, rfl, fun r dr nr nd ne => ?_⟩
          refine ⟨r, dr, _, rfl, rfl, upd_same, rfl, ?_⟩
          rw [upd_upd]
          exact k r dr _ _ _ nr (made_same nr nd) upd_same (.inr (.inl ⟨hc, hc2, rfl, rfl⟩))
        · have hc2 : n2 = 0 := eq_of_nd c2
          refine ⟨_, rfl, _, rfl, _, rfl, fun r dr nr nd ne => ?_⟩
          refine ⟨r, dr, _, rfl, rfl, upd_same, rfl, ?_⟩
          rw [upd_upd]
          exact k r dr _ _ _ nr (made_same nr nd) upd_same (.inr (.inr ⟨hc, hc2, rfl, rfl⟩))
end
/-! ### boxes: eights -/
section
variable {P : Program} {w : World} {K : PySem.W.Frag} {mg : Str → Option Value} {base : Heap} {A : Ad}
open PySem.Spec PyProof.Rows in
/-- xs[i], to be written again -/
theorem get_listP {X : Cx} : PGet X (fun o i H Q => ∃ (p : Addr) (xs : List V) (j : Nat) (v : V), o = .ref p ∧ i = .int j ∧ SqL X.K H p xs ∧ xs[j]? = some v ∧ Q v H) := by
  intro pins s σ H o i ov iv Q I ro ri h
  obtain ⟨p, xs, j, z, rfl, rfl, hq, he, q⟩ := h
  cases ro
  obtain ⟨t, rfl⟩ := ri
  obtain ⟨its, r, pl, hz⟩ := I.list hq
  obtain ⟨w, ew, rw'⟩ := r.get he
  have hl := r.length
  have hn := line63
  have hj : j < xs.length := (List.getElem?_eq_some_iff.mp he).1
  exact wpAny_getItem_list (x := w) pl.isList (by omega) (by omega) (by simpa using ew) ⟨z, H, I, rw', q⟩
def sp_EightBox_init (A : Ad) : Sp := fun vs H Q _ => ∃ (a dx p x y : Addr), vs = [.ref a, .ref p, .ref x, .ref y] ∧ H a = some (.ins A.c_EightBox dx []) ∧
  ∀ q l H', H q = none → H l = none → l ≠ q → H' a = some (.ins A.c_EightBox dx (eiF p q l false .non)) → H' q = some (.tup [.ref x, .ref y]) → H' l = some (.lst [.int 0, .int 0]) → (∀ c o, H c = some o → c ≠ a → H' c = some o) → Q .non H'
theorem ok_EightBox_init (T : CT K mg A) (D : DT K mg A) : IOk P w K mg base 1 "EightBox" A.c_EightBox ["self", "numbers", "one", "other"] (sp_EightBox_init A) := by
  refine IOk.of T.g_EightBox D.EightBox_init fun f fd F => ?_
  refine F.ok sc_EightBox_init (fun vs H Q E h => ?_) (fun cdv Ar outer s H vs Q E hr h => ?_)
  · obtain ⟨a, dx, p, x, y, rfl, _⟩ := h
    rfl
  · obtain ⟨a, dx, p, x, y, rfl, ha, k⟩ := h
    have cl := T.cl_EightBox
    refine ⟨_, (pss_cons (ps_fld (pv 0) (pv 1) rfl)
    (pss_cons (ps_fld (pv 0) (pe_tup (pa_cons (pv 2) (pa_cons (pv 3) pa_nil))) rfl)
    (pss_cons (ps_fld (pv 0) (pe_lst (pa_cons pe_int (pa_cons pe_int pa_nil))) rfl)
    (pss_cons (ps_fld (pv 0) pe_bl rfl)
    (pss_one (ps_fld (pv 0) pe_non rfl)))))), ?_⟩
    refine ⟨_, rfl, _, rfl, a, _, dx, [], rfl, ha, cl, T.n_EightBox_numbers, (by show 0 < 1000; decide), ?_⟩
    refine ⟨_, rfl, _, rfl, (by show 2 ≤ sizeLine; decide), fun q nq => ?_⟩
    have h1 : (upd H a (.ins A.c_EightBox dx (putF "numbers" (.ref p) []))) a = some (.ins A.c_EightBox dx [("numbers", .ref p)]) := upd_same
    have s1 := same_upd (o := .tup [V.ref x, .ref y]) nq
    have naq : a ≠ q := ne_of_none h1 nq
    refine ⟨_, rfl, a, _, dx, _, rfl, s1 _ _ h1, cl, T.n_EightBox_trees, (by show 1 < 1000; decide), ?_⟩
    refine ⟨(by show 2 ≤ sizeLine; decide), fun l nl => ?_⟩
    rw [upd_ne naq.symm] at nq
    have nal : a ≠ l := ne_of_none upd_same nl
    have nlq : l ≠ q := fun z => by rw [z, upd_ne naq.symm, upd_same] at nl; cases nl
    have nl0 : H l = none := by rw [upd_ne nal.symm, upd_ne nlq, upd_ne nal.symm] at nl; exact nl
    refine ⟨_, rfl, a, _, dx, _, rfl, (by rw [upd_ne nal, upd_same]), cl, T.n_EightBox_taken, (by show 2 < 1000; decide), ?_⟩
    refine ⟨_, rfl, a, _, dx, _, rfl, upd_same, cl, T.n_EightBox_told, (by show 3 < 1000; decide), ?_⟩
    refine ⟨_, rfl, a, _, dx, _, rfl, upd_same, cl, T.n_EightBox_rest, (by show 4 < 1000; decide), ?_⟩
    rw [upd_upd, upd_upd]
    refine k q l _ nq nl0 nlq upd_same ?_ ?_ fun c o e hc => ?_
    · rw [upd_ne naq.symm, upd_ne nlq.symm, upd_ne naq.symm, upd_same]
    · rw [upd_ne nal.symm, upd_same]
    · rw [upd_ne hc, upd_ne (ne_of_none e nl0), upd_ne hc, upd_ne (ne_of_none e nq), upd_ne hc]
      exact e
def sp_eight_tell (A : Ad) (K : PySem.W.Frag) : Sp := fun vs H Q _ => ∃ (a dx p t l : Addr) (ns : List Int) (told : Bool) (q : Int), vs = [.ref a, .int q] ∧ H a = some (.ins A.c_EightBox dx (eiF p t l told .non)) ∧ SqT K H p (ns.map V.int) ∧ ns.length = 8 ∧ (∀ z ∈ ns, fits z) ∧ fits q ∧
  ∀ r p' H', H' r = some (.tup [.str "part", .int q]) → H' a = some (.ins A.c_EightBox dx (eiF p' t l true .non)) → SqT K H' p' ((turnedOver ns q).map V.int) → (∀ c o, H c = some o → c ≠ a → H' c = some o) → Q (.ref r) H'
theorem ok_EightBox_tell (T : CT K mg A) (D : DT K mg A) : MOk P w K mg base CX0 2 A.c_EightBox "tell" ["self", "part"] (sp_eight_tell A K) := by
  have G_turned_over := ok_turned_over (P := P) (w := w) (base := base) T D
  refine MOk.of T.cl_EightBox D.EightBox_tell fun f fd F => ?_
  refine F.ok sc_EightBox_tell (fun vs H Q E h => ?_) (fun cdv Ar outer s H vs Q E hr h => ?_)
  · obtain ⟨a, dx, p, t, l, ns, told, q, rfl, _⟩ := h
    rfl
  · obtain ⟨a, dx, p, t, l, ns, told, q, rfl, ha, hp, hl, hf, fq, k⟩ := h
    refine ⟨_, (pss_cons (ps_fld (pv 0) (pe_c G_turned_over (hr.mono (by first | decide | omega)) (pa_cons (pe_fld (pv 0) rfl) (pa_cons (pv 1) pa_nil))) rfl)
    (pss_cons (ps_fld (pv 0) pe_bl rfl)
    (pss_one (ps_ret (pe_tup (pa_cons pe_str (pa_cons (pv 1) pa_nil))))))), ?_⟩
    have cl := T.cl_EightBox
    refine ⟨_, rfl, a, _, dx, _, _, rfl, ha, cl, T.n_EightBox_numbers, rfl, _, rfl, p, ns, q, rfl, hp, ⟨4, hl, by decide, by decide⟩, hf, fq, fun p' H1 hp1 s1 => ?_⟩
    refine ⟨_, rfl, a, _, dx, _, rfl, s1 _ _ ha, cl, T.n_EightBox_numbers, (by show 5 < 1000; decide), ?_⟩
    refine ⟨_, rfl, a, _, dx, _, rfl, upd_same, cl, T.n_EightBox_told, (by show 5 < 1000; decide), ?_⟩
    refine ⟨_, rfl, (by show 2 ≤ sizeLine; decide), fun u nu => ?_⟩
    have s3 := same_upd (o := .tup [V.str "part", .int q]) nu
    rw [upd_upd] at *
    exact k u p' _ upd_same (s3 _ _ upd_same) (sqT_same (sqT_ins hp1 (s1 _ _ ha)) s3) fun c o e hc => s3 _ _ (by rw [upd_ne hc]; exact s1 _ _ e)
def leftOf (ns : List Int) (which : Nat) : List Int := if which = 0 then [ns.getD 0 0, ns.getD 1 0, ns.getD 4 0, ns.getD 5 0] else [ns.getD 0 0, ns.getD 2 0, ns.getD 4 0, ns.getD 6 0]
def sp_left_without (A : Ad) (K : PySem.W.Frag) : Sp := fun vs H Q _ => ∃ (a dx p t l x y : Addr) (ns : List Int) (told : Bool) (which : Nat), vs = [.ref a, .int which] ∧ which ≤ 1 ∧ H a = some (.ins A.c_EightBox dx (eiF p t l told .non)) ∧ SqT K H p (ns.map V.int) ∧ SqT K H t [.ref x, .ref y] ∧ ns.length = 8 ∧ (∀ z ∈ ns, fits z) ∧
  ∀ p' r dr C fs H', SqT K H' p' ((leftOf ns which).map V.int) → H r = none → Same H H' → H' r = some (.ins C dr fs) → OneIs A p' (if which = 0 then y else x) (leftOf ns which) told C fs → Q (.ref r) H'
theorem ok_left_without (T : CT K mg A) (D : DT K mg A) : MOk P w K mg base CX0 4 A.c_EightBox "left_without" ["self", "which"] (sp_left_without A K) := by
  have G_box_of_one := ok_box_of_one (P := P) (w := w) (base := base) T D
  refine MOk.of T.cl_EightBox D.EightBox_left_without fun f fd F => ?_
  refine F.ok sc_EightBox_left_without (fun vs H Q E h => ?_) (fun cdv Ar outer s H vs Q E hr h => ?_)
  · obtain ⟨a, dx, p, t, l, x, y, ns, told, which, rfl, _⟩ := h
    rfl
  · obtain ⟨a, dx, p, t, l, x, y, ns, told, which, rfl, hw, ha, hp, ht, hl, hf, k⟩ := h
    refine ⟨_, (pss_cons (ps_asg (pe_fld (pv 0) rfl) (pg_tup rfl (pgs_cons (pg_name (i := 2) sc_EightBox_left_without.nd rfl (Or.inl rfl)) (pgs_cons (pg_name (i := 3) sc_EightBox_left_without.nd rfl (Or.inl rfl)) (pgs_cons (pg_name (i := 4) sc_EightBox_left_without.nd rfl (Or.inl rfl)) (pgs_cons (pg_name (i := 5) sc_EightBox_left_without.nd rfl (Or.inl rfl)) (pgs_cons (pg_name (i := 6) sc_EightBox_left_without.nd rfl (Or.inl rfl)) (pgs_cons (pg_name (i := 7) sc_EightBox_left_without.nd rfl (Or.inl rfl)) (pgs_cons (pg_name (i := 8) sc_EightBox_left_without.nd rfl (Or.inl rfl)) (pgs_cons (pg_name (i := 9) sc_EightBox_left_without.nd rfl (Or.inl rfl)) pgs_nil))))))))))
    (pss_cons (ps_if (pt_cmpR op_eq (pv 1) pe_int (nomark _))
      (pss_one (ps_ret (pe_c G_box_of_one (hr.mono (by first | decide | omega)) (pa_cons (pe_tup (pa_cons (pv 2) (pa_cons (pv 3) (pa_cons (pv 6) (pa_cons (pv 7) pa_nil))))) (pa_cons (pe_ix ix_tup (pe_fld (pv 0) rfl) pe_int (fun _ _ => rfl)) (pa_cons (pe_fld (pv 0) rfl) pa_nil)))))) pss_nil)
    (pss_one (ps_ret (pe_c G_box_of_one (hr.mono (by first | decide | omega)) (pa_cons (pe_tup (pa_cons (pv 2) (pa_cons (pv 4) (pa_cons (pv 6) (pa_cons (pv 8) pa_nil))))) (pa_cons (pe_ix ix_tup (pe_fld (pv 0) rfl) pe_int (fun _ _ => rfl)) (pa_cons (pe_fld (pv 0) rfl) pa_nil)))))))), ?_⟩
    have cl := T.cl_EightBox
    match ns, hl with
    | [n0, n1, n2, n3, n4, n5, n6, n7], _ =>
      refine ⟨_, rfl, a, _, dx, _, _, rfl, ha, cl, T.n_EightBox_numbers, rfl, p, _, rfl, hp, rfl, _, _, rfl, _, _, rfl, _, _, rfl, _, _, rfl, _, _, rfl, _, _, rfl, _, _, rfl, _, _, rfl, rfl, ?_⟩
      refine ⟨_, rfl, rfl, _, rfl, ?_⟩
      match which, hw with
      | 0, _ =>
        refine iteT ⟨_, rfl, _, rfl, _, rfl, _, rfl, (by show 4 ≤ sizeLine; decide), fun p' np => ?_⟩
        have s1 := same_upd (o := .tup [V.int n0, .int n1, .int n4, .int n5]) np
        refine ⟨_, rfl, a, _, dx, _, _, rfl, s1 _ _ ha, cl, T.n_EightBox_trees, rfl, t, _, 1, _, rfl, rfl, sqT_same ht s1, atI_nat (j := 1) rfl, _, rfl, a, _, dx, _, _, rfl, s1 _ _ ha, cl, T.n_EightBox_told, rfl, ?_⟩
        refine ⟨p', y, [n0, n1, n4, n5], told, rfl, SqT.of upd_same, rfl, (by intro z hz; simp at hz; rcases hz with rfl | rfl | rfl | rfl <;> exact hf _ (by simp)), fun r dr C fs H' nr s2 hr' o => ?_⟩
        exact k p' r dr C fs H' (sqT_same (SqT.of upd_same) s2) (s1.free nr) (s1.trans s2) hr' o
      | 1, _ =>
        refine iteF ⟨_, rfl, _, rfl, _, rfl, _, rfl, (by show 4 ≤ sizeLine; decide), fun p' np => ?_⟩
        have s1 := same_upd (o := .tup [V.int n0, .int n2, .int n4, .int n6]) np
        refine ⟨_, rfl, a, _, dx, _, _, rfl, s1 _ _ ha, cl, T.n_EightBox_trees, rfl, t, _, 0, _, rfl, rfl, sqT_same ht s1, atI_nat (j := 0) rfl, _, rfl, a, _, dx, _, _, rfl, s1 _ _ ha, cl, T.n_EightBox_told, rfl, ?_⟩
        refine ⟨p', x, [n0, n2, n4, n6], told, rfl, SqT.of upd_same, rfl, (by intro z hz; simp at hz; rcases hz with rfl | rfl | rfl | rfl <;> exact hf _ (by simp)), fun r dr C fs H' nr s2 hr' o => ?_⟩
        exact k p' r dr C fs H' (sqT_same (SqT.of upd_same) s2) (s1.free nr) (s1.trans s2) hr' o
def withPart (ns : List Int) (which : Nat) (q : Int) : List Int := if which = 0 then withFirst ns q else withSecond ns q
def sp_eight_take (A : Ad) (K : PySem.W.Frag) : Sp := fun vs H Q _ => ∃ (a dx p t l x y : Addr) (ns : List Int) (told : Bool) (which : Nat) (i j : Int) (v : V) (an : Ans), vs = [.ref a, .int which, v] ∧ which ≤ 1 ∧ an.At A H v ∧ H a = some (.ins A.c_EightBox dx (eiF p t l told .non)) ∧ SqT K H p (ns.map V.int) ∧ SqT K H t [.ref x, .ref y] ∧ H l = some (.lst [.int i, .int j]) ∧ ns.length = 8 ∧ (∀ z ∈ ns, fits z) ∧
  match an with
  | .waits => False
  | .fin => ∀ p' r dr C fs H', SqT K H' p' ((leftOf ns which).map V.int) → H r = none → H' a = some (.ins A.c_EightBox dx (eiF p t l told (.ref r))) → (∀ c o, H c = some o → c ≠ a → H' c = some o) → H' r = some (.ins C dr fs) → OneIs A p' (if which = 0 then y else x) (leftOf ns which) told C fs → Q .non H'
  | .part q => fits q ∧ ∀ p' H', H' a = some (.ins A.c_EightBox dx (eiF p' t l told .non)) → SqT K H' p' ((withPart ns which q).map V.int) → H' l = some (.lst (if which = 0 then [.int (i + 1), .int j] else [.int i, .int (j + 1)])) → (∀ c o, H c = some o → c ≠ a → c ≠ l → H' c = some o) → Q .non H'
theorem ok_EightBox_take (T : CT K mg A) (D : DT K mg A) : MOk P w K mg base CX0 5 A.c_EightBox "take" ["self", "which", "answer"] (sp_eight_take A K) := by
  have M_left := ok_left_without (P := P) (w := w) (base := base) T D
  have G_with_first_part := ok_with_first_part (P := P) (w := w) (base := base) T D
  have G_with_second_part := ok_with_second_part (P := P) (w := w) (base := base) T D
  refine MOk.of T.cl_EightBox D.EightBox_take fun f fd F => ?_
  refine F.ok sc_EightBox_take (fun vs H Q E h => ?_) (fun cdv Ar outer s H vs Q E hr h => ?_)
  · obtain ⟨a, dx, p, t, l, x, y, ns, told, which, i, j, v, an, rfl, _⟩ := h
    rfl
  · obtain ⟨a, dx, p, t, l, x, y, ns, told, which, i, j, v, an, rfl, hw, hv, ha, hp, ht, hL, hl, hf, k⟩ := h
    refine ⟨_, (pss_cons (ps_if (pt_cmpR (op_eqD hr.units) (pv 2) (pe_glob (v := .ref A.k_END) (by rfl) T.g_END rfl) (nomark _))
      (pss_cons (ps_fld (pv 0) (pe_m M_left (hr.mono (by first | decide | omega)) (pv 0) (pa_cons (pv 1) pa_nil)) rfl)
    (pss_one ps_retN)) pss_nil)
    (pss_cons (ps_if (pt_cmpR op_eq (pv 1) pe_int (nomark _))
      (pss_one (ps_fld (pv 0) (pe_c G_with_first_part (hr.mono (by first | decide | omega)) (pa_cons (pe_fld (pv 0) rfl) (pa_cons (pe_ix ix_tup (pv 2) pe_int (fun _ _ => rfl)) pa_nil))) rfl)) (pss_one (ps_fld (pv 0) (pe_c G_with_second_part (hr.mono (by first | decide | omega)) (pa_cons (pe_fld (pv 0) rfl) (pa_cons (pe_ix ix_tup (pv 2) pe_int (fun _ _ => rfl)) pa_nil))) rfl)))
    (pss_one (ps_augS (pe_fld (pv 0) rfl) (pv 1) get_listP pe_int ip_add set_list)))), ?_⟩
    have cl := T.cl_EightBox
    obtain ⟨pv', rfl, hpv⟩ := hv.tup T
    have hE : SqT K H A.k_END Ans.fin.vals := T.t_END H
    refine ⟨_, rfl, _, _, an.dp hpv, Ans.fin.dp hE, an.shaped, Ans.fin.shaped, _, rfl, ?_⟩
    rw [eqv_fin]
    cases an with
    | waits => exact k.elim
    | fin =>
      refine iteT ⟨_, rfl, a, dx, _, rfl, ha, rfl, _, rfl, a, dx, p, t, l, x, y, ns, told, which, rfl, hw, ha, hp, ht, hl, hf, fun p' r dr C fs H1 hp1 nr s1 hr1 o => ?_⟩
      refine ⟨_, rfl, a, _, dx, _, rfl, s1 _ _ ha, cl, T.n_EightBox_rest, (by show 5 < 1000; decide), ?_⟩
      exact k p' r dr C fs _ (sqT_ins hp1 (s1 _ _ ha)) nr upd_same (fun c o e hc => by rw [upd_ne hc]; exact s1 _ _ e) (by rw [upd_ne (ne_of_none ha nr).symm]; exact hr1) o
    | part q =>
      obtain ⟨fq, k⟩ := k
      have nal : l ≠ a := ne_of hL ha (by intro z; cases z)
      refine iteF ?_
      match which, hw with
      | 0, _ =>
        refine ⟨_, rfl, rfl, _, rfl, iteT ?_⟩
        refine ⟨_, rfl, a, _, dx, _, _, rfl, ha, cl, T.n_EightBox_numbers, rfl, _, rfl, pv', _, 1, _, rfl, rfl, hpv, atI_nat (j := 1) rfl, p, ns, q, rfl, hp, hl, hf, fq, fun p' H1 hp1 s1 => ?_⟩
        refine ⟨_, rfl, a, _, dx, _, rfl, s1 _ _ ha, cl, T.n_EightBox_numbers, (by show 5 < 1000; decide), ?_⟩
        have hL1 : (upd H1 a (.ins A.c_EightBox dx (putF "numbers" (.ref p') (eiF p t l told .non)))) l = some (.lst [.int i, .int j]) := by rw [upd_ne nal]; exact s1 _ _ hL
        refine ⟨_, rfl, a, _, dx, _, _, rfl, upd_same, cl, T.n_EightBox_taken, rfl, _, rfl, l, _, 0, _, rfl, rfl, SqL.of hL1, rfl, _, _, rfl, rfl, l, _, 0, 0, rfl, rfl, hL1, rfl, ?_⟩
        refine k p' _ ?_ ?_ upd_same fun c o e hc hcl => ?_
        · rw [upd_ne nal.symm, upd_same]; rfl
        · exact sqT_lst (sqT_ins hp1 (s1 _ _ ha)) hL1
        · rw [upd_ne hcl, upd_ne hc]; exact s1 _ _ e
      | 1, _ =>
        refine ⟨_, rfl, rfl, _, rfl, iteF ?_⟩
        refine ⟨_, rfl, a, _, dx, _, _, rfl, ha, cl, T.n_EightBox_numbers, rfl, _, rfl, pv', _, 1, _, rfl, rfl, hpv, atI_nat (j := 1) rfl, p, ns, q, rfl, hp, hl, hf, fq, fun p' H1 hp1 s1 => ?_⟩
        refine ⟨_, rfl, a, _, dx, _, rfl, s1 _ _ ha, cl, T.n_EightBox_numbers, (by show 5 < 1000; decide), ?_⟩
        have hL1 : (upd H1 a (.ins A.c_EightBox dx (putF "numbers" (.ref p') (eiF p t l told .non)))) l = some (.lst [.int i, .int j]) := by rw [upd_ne nal]; exact s1 _ _ hL
        refine ⟨_, rfl, a, _, dx, _, _, rfl, upd_same, cl, T.n_EightBox_taken, rfl, _, rfl, l, _, 1, _, rfl, rfl, SqL.of hL1, rfl, _, _, rfl, rfl, l, _, 1, 1, rfl, rfl, hL1, rfl, ?_⟩
        refine k p' _ ?_ ?_ upd_same fun c o e hc hcl => ?_
        · rw [upd_ne nal.symm, upd_same]; rfl
        · exact sqT_lst (sqT_ins hp1 (s1 _ _ ha)) hL1
        · rw [upd_ne hcl, upd_ne hc]; exact s1 _ _ e
end
/-! ### boxes: what they are, in plain Lean, and where they stand -/
inductive Box where
  | leaf (c : Chain)
  | fb (t b : Int) (told : Bool)
  | four (ns : List Int) (st told : Bool) (x : Box)
  | fourR (t b : Int) (told : Bool)
  | eight (ns : List Int) (i j : Int) (told : Bool) (x y : Box)
  | eightR (r : Box)
def Box.wt : Box → Nat
  | .leaf _ => 0
  | .fb _ _ _ => 0
  | .four _ _ _ x => x.wt + 1
  | .fourR _ _ _ => 1
  | .eight _ _ _ _ x y => max x.wt y.wt + 3
  | .eightR r => r.wt + 2
/-- of which class -/
def Box.kind : Box → Nat
  | .leaf _ => 0
  | .fb _ _ _ => 1
  | .four _ _ _ _ => 2
  | .fourR _ _ _ => 2
  | .eight _ _ _ _ _ _ => 3
  | .eightR _ => 3
/-- whole trees within: no fraction box there; a rest is a four or a fraction box -/
def Box.Ok : Box → Prop
  | .leaf c => c.Ok
  | .fb _ _ _ => True
  | .four ns _ _ x => ns.length = 4 ∧ x.Ok ∧ x.kind ≠ 1
  | .fourR _ _ _ => True
  | .eight ns i j _ x y => ns.length = 8 ∧ x.Ok ∧ y.Ok ∧ x.kind ≠ 1 ∧ y.kind ≠ 1 ∧ 0 ≤ i ∧ 0 ≤ j
  | .eightR r => r.Ok ∧ (r.kind = 1 ∨ r.kind = 2)
def allFit (ns : List Int) (cs : List (Int × Int)) : Bool := ns.all (fun z => decide (fits z)) && cs.all (fun c => decide (fits c.1) && decide (fits c.2))
/-- a fraction box, asked -/
def fbAsk (t b : Int) (told : Bool) : Option (Option Ans × Int × Int × Bool) :=
  if fits t ∧ fits b then (if b = 0 then (if told = true then some (some .fin, t, b, told) else some (none, t, b, told)) else some (some (.part (t.fdiv b)), b, t - t.fdiv b * b, true)) else none
def oneBox (ns : List Int) (told : Bool) (x : Box) : Box :=
  if ns.getD 0 0 * ns.getD 3 0 ≠ ns.getD 1 0 * ns.getD 2 0 then .four ns true told x
  else if ns.getD 2 0 ≠ 0 then .fb (ns.getD 0 0) (ns.getD 2 0) told else .fb (ns.getD 1 0) (ns.getD 3 0) told
/-- what is told (none: NoValue), the box behind it, how many parts of leaves may yet be taken; nothing where the numbers are too great, or the fuel too little -/
def askF : Nat → Box → Int → Option (Option Ans × Box × Int)
  | 0, _, _ => none
  | _ + 1, .leaf c, l => some (some (c.ans l), .leaf (c.then_ l), l - c.took l)
  | _ + 1, .fb t b told, l => (fbAsk t b told).map fun r => (r.1, .fb r.2.1 r.2.2.1 r.2.2.2, l)
  | _ + 1, .fourR t b told, l => (fbAsk t b told).map fun r => (r.1, .fourR r.2.1 r.2.2.1 r.2.2.2, l)
  | n + 1, .four ns st told x, l =>
    if allFit ns (fourCorners ns) = true then
      match (if st = true then surePart (fourCorners ns) else none) with
      | some q => some (some (.part q), .four (turnedOver ns q) st true x, l)
      | none => match askF n x l with
        | none => none
        | some (none, x', l') => some (none, .four ns st told x', l')
        | some (some .waits, x', l') => some (some .waits, .four ns st told x', l')
        | some (some .fin, _, l') => askF n (.fourR (ns.getD 0 0) (ns.getD 2 0) told) l'
        | some (some (.part q), x', l') => if fits q then askF n (.four (withOne ns q) true told x') l' else none
    else none
  | n + 1, .eight ns i j told x y, l =>
    if allFit ns (eightCorners ns) = true then
      match (if 0 < i ∧ 0 < j then surePart (eightCorners ns) else none) with
      | some q => some (some (.part q), .eight (turnedOver ns q) i j true x y, l)
      | none =>
        if i ≤ j then match askF n x l with
          | none => none
          | some (none, x', l') => some (none, .eight ns i j told x' y, l')
          | some (some .waits, x', l') => some (some .waits, .eight ns i j told x' y, l')
          | some (some .fin, _, l') => askF n (.eightR (oneBox (leftOf ns 0) told y)) l'
          | some (some (.part q), x', l') => if fits q then askF n (.eight (withFirst ns q) (i + 1) j told x' y) l' else none
        else match askF n y l with
          | none => none
          | some (none, y', l') => some (none, .eight ns i j told x y', l')
          | some (some .waits, y', l') => some (some .waits, .eight ns i j told x y', l')
          | some (some .fin, _, l') => askF n (.eightR (oneBox (leftOf ns 1) told x)) l'
          | some (some (.part q), y', l') => if fits q then askF n (.eight (withSecond ns q) i (j + 1) told x y') l' else none
    else none
  | n + 1, .eightR r, l => (askF n r l).map fun z => (z.1, .eightR z.2.1, z.2.2)
def BoxAt (A : Ad) (K : PySem.W.Frag) (H : Hp) : Box → Addr → List Addr → Prop
  | .leaf c, a, fp => ∃ ca, fp = [a, ca] ∧ LeafAt A K H a ca c ∧ a ≠ ca
  | .fb t b told, a, fp => ∃ dx, fp = [a] ∧ H a = some (.ins A.c_FractionBox dx (fbF t b told))
  | .four ns st told x, a, fp => ∃ dx p tx fx, fp = a :: fx ∧ H a = some (.ins A.c_FourBox dx (foF p tx st told .non)) ∧ SqT K H p (ns.map V.int) ∧ BoxAt A K H x tx fx ∧ a ∉ fx
  | .fourR t b told, a, fp => ∃ dx p tx st told' r dr, fp = [a, r] ∧ H a = some (.ins A.c_FourBox dx (foF p tx st told' (.ref r))) ∧ H r = some (.ins A.c_FractionBox dr (fbF t b told)) ∧ a ≠ r
  | .eight ns i j told x y, a, fp => ∃ dx p t l tx ty fx fy, fp = a :: l :: (fx ++ fy) ∧ H a = some (.ins A.c_EightBox dx (eiF p t l told .non)) ∧ SqT K H p (ns.map V.int) ∧ SqT K H t [.ref tx, .ref ty] ∧ H l = some (.lst [.int i, .int j]) ∧
      BoxAt A K H x tx fx ∧ BoxAt A K H y ty fy ∧ a ∉ fx ∧ a ∉ fy ∧ l ∉ fx ∧ l ∉ fy ∧ ∀ c ∈ fx, c ∉ fy
  | .eightR r, a, fp => ∃ dx p t l told b fr, fp = a :: fr ∧ H a = some (.ins A.c_EightBox dx (eiF p t l told (.ref b))) ∧ BoxAt A K H r b fr ∧ a ∉ fr
section
variable {P : Program} {w : World} {K : PySem.W.Frag} {mg : Str → Option Value} {base : Heap} {A : Ad}
/-- no tuple, no locked thing -/
def Soft (H : Hp) (c : Addr) : Prop := (∃ C dx fs, H c = some (.ins C dx fs)) ∨ ∃ xs, H c = some (.lst xs)
theorem Soft.no {H : Hp} {c : Addr} {o : HO} (h : Soft H c) (e : H c = some o) : (∀ ys, o ≠ .tup ys) ∧ ∀ ob u, o ≠ .frz ob u := by
  rcases h with ⟨C, dx, fs, z⟩ | ⟨xs, z⟩
  · rw [z] at e; cases e; exact ⟨fun _ q => (by cases q), fun _ _ q => (by cases q)⟩
  · rw [z] at e; cases e; exact ⟨fun _ q => (by cases q), fun _ _ q => (by cases q)⟩
theorem BoxAt.soft {H : Hp} : ∀ {B : Box} {a : Addr} {fp : List Addr}, BoxAt A K H B a fp → ∀ c ∈ fp, Soft H c
  | .leaf ch, a, fp, h => by
    obtain ⟨ca, rfl, ⟨⟨dx, e⟩, hc⟩, _⟩ := h
    intro c hm
    simp only [List.mem_cons, List.not_mem_nil, or_false] at hm
    rcases hm with rfl | rfl
    · exact .inl ⟨_, _, _, e⟩
    · exact .inl hc.there
  | .fb t b told, a, fp, h => by
    obtain ⟨dx, rfl, e⟩ := h
    intro c hm
    simp only [List.mem_cons, List.not_mem_nil, or_false] at hm
    subst hm
    exact .inl ⟨_, _, _, e⟩
  | .four ns st told x, a, fp, h => by
    obtain ⟨dx, p, tx, fx, rfl, e, hp, hx, na⟩ := h
    intro c hm
    rcases List.mem_cons.mp hm with rfl | hm
    · exact .inl ⟨_, _, _, e⟩
    · exact BoxAt.soft hx c hm
  | .fourR t b told, a, fp, h => by
    obtain ⟨dx, p, tx, st, told', r, dr, rfl, e, er, _⟩ := h
    intro c hm
    simp only [List.mem_cons, List.not_mem_nil, or_false] at hm
    rcases hm with rfl | rfl
    · exact .inl ⟨_, _, _, e⟩
    · exact .inl ⟨_, _, _, er⟩
  | .eight ns i j told x y, a, fp, h => by
    obtain ⟨dx, p, t, l, tx, ty, fx, fy, rfl, e, hp, ht, hl, hx, hy, _⟩ := h
    intro c hm
    rcases List.mem_cons.mp hm with rfl | hm
    · exact .inl ⟨_, _, _, e⟩
    · rcases List.mem_cons.mp hm with rfl | hm
      · exact .inr ⟨_, hl⟩
      · rcases List.mem_append.mp hm with hm | hm
        · exact BoxAt.soft hx c hm
        · exact BoxAt.soft hy c hm
  | .eightR r, a, fp, h => by
    obtain ⟨dx, p, t, l, told, b, fr, rfl, e, hr, _⟩ := h
    intro c hm
    rcases List.mem_cons.mp hm with rfl | hm
    · exact .inl ⟨_, _, _, e⟩
    · exact BoxAt.soft hr c hm
theorem BoxAt.kept {H H' : Hp} {N : Addr → Prop} (k : ∀ c o, H c = some o → ¬ N c → H' c = some o) (hN : ∀ c o, N c → H c = some o → (∀ ys, o ≠ .tup ys) ∧ ∀ ob u, o ≠ .frz ob u) :
    ∀ {B : Box} {a : Addr} {fp : List Addr}, BoxAt A K H B a fp → (∀ c ∈ fp, ¬ N c) → BoxAt A K H' B a fp
  | .leaf ch, a, fp, h, n => by
    obtain ⟨ca, rfl, ⟨⟨dx, e⟩, hc⟩, ne⟩ := h
    exact ⟨ca, rfl, ⟨⟨dx, k _ _ e (n a (by simp))⟩, hc.kept (n ca (by simp)) k hN⟩, ne⟩
  | .fb t b told, a, fp, h, n => by
    obtain ⟨dx, rfl, e⟩ := h
    exact ⟨dx, rfl, k _ _ e (n a (by simp))⟩
  | .four ns st told x, a, fp, h, n => by
    obtain ⟨dx, p, tx, fx, rfl, e, hp, hx, na⟩ := h
    exact ⟨dx, p, tx, fx, rfl, k _ _ e (n a (by simp)), sqT_but hp k hN, BoxAt.kept k hN hx (fun c hc => n c (by simp [hc])), na⟩
  | .fourR t b told, a, fp, h, n => by
    obtain ⟨dx, p, tx, st, told', r, dr, rfl, e, er, ne⟩ := h
    exact ⟨dx, p, tx, st, told', r, dr, rfl, k _ _ e (n a (by simp)), k _ _ er (n r (by simp)), ne⟩
  | .eight ns i j told x y, a, fp, h, n => by
    obtain ⟨dx, p, t, l, tx, ty, fx, fy, rfl, e, hp, ht, hl, hx, hy, z⟩ := h
    exact ⟨dx, p, t, l, tx, ty, fx, fy, rfl, k _ _ e (n a (by simp)), sqT_but hp k hN, sqT_but ht k hN, k _ _ hl (n l (by simp)), BoxAt.kept k hN hx (fun c hc => n c (by simp [hc])), BoxAt.kept k hN hy (fun c hc => n c (by simp [hc])), z⟩
  | .eightR r, a, fp, h, n => by
    obtain ⟨dx, p, t, l, told, b, fr, rfl, e, hr, na⟩ := h
    exact ⟨dx, p, t, l, told, b, fr, rfl, k _ _ e (n a (by simp)), BoxAt.kept k hN hr (fun c hc => n c (by simp [hc])), na⟩
theorem BoxAt.same {H H' : Hp} {B : Box} {a : Addr} {fp : List Addr} (h : BoxAt A K H B a fp) (s : Same H H') : BoxAt A K H' B a fp :=
  h.kept (N := fun _ => False) (fun c o e _ => s c o e) (fun _ _ z => z.elim) fun _ _ z => z
/-- the box itself is of its footprint -/
theorem BoxAt.mem {H : Hp} {B : Box} {a : Addr} {fp : List Addr} (h : BoxAt A K H B a fp) : a ∈ fp := by
  cases B with
  | leaf c => obtain ⟨ca, rfl, _⟩ := h; simp
  | fb t b u => obtain ⟨dx, rfl, _⟩ := h; simp
  | four ns st told x => obtain ⟨dx, p, tx, fx, rfl, _⟩ := h; simp
  | fourR t b u => obtain ⟨dx, p, tx, st, told', r, dr, rfl, _⟩ := h; simp
  | eight ns i j told x y => obtain ⟨dx, p, t, l, tx, ty, fx, fy, rfl, _⟩ := h; simp
  | eightR r => obtain ⟨dx, p, t, l, told, b, fr, rfl, _⟩ := h; simp
theorem allFit_ns {ns : List Int} {cs : List (Int × Int)} (h : allFit ns cs = true) : (∀ z ∈ ns, fits z) ∧ ∀ c ∈ cs, fits c.1 ∧ fits c.2 := by
  unfold allFit at h
  rw [Bool.and_eq_true, List.all_eq_true, List.all_eq_true] at h
  refine ⟨fun z hz => of_decide_eq_true (h.1 z hz), fun c hc => ?_⟩
  have := h.2 c hc
  rw [Bool.and_eq_true] at this
  exact ⟨of_decide_eq_true this.1, of_decide_eq_true this.2⟩
theorem surePart_fits {cs : List (Int × Int)} {q : Int} (h : surePart cs = some q) (hf : ∀ c ∈ cs, fits c.1 ∧ fits c.2) (hc : 0 < cs.length) : fits q := by
  have hfd : ∀ d ∈ flipped cs, fits d.1 ∧ fits d.2 := by
    unfold flipped
    split
    · intro d hd
      obtain ⟨c, hc, rfl⟩ := List.mem_map.mp hd
      exact ⟨fits_neg (hf c hc).1, fits_neg (hf c hc).2⟩
    · exact hf
  have hlen : 0 < (flipped cs).length := by
    unfold flipped
    split
    · rw [List.length_map]; exact hc
    · exact hc
  unfold surePart at h
  simp only at h
  generalize flipped cs = ds at *
  match ds, hlen with
  | d0 :: dr, _ =>
    rw [List.getD_cons_zero] at h
    split at h
    · rename_i hp
      split at h
      · cases h
        have p0 : 0 < d0.2 := of_decide_eq_true (List.all_eq_true.mp hp d0 List.mem_cons_self)
        exact Nat.lt_of_le_of_lt (fdiv_abs (by omega)) (hfd d0 List.mem_cons_self).1
      · cases h
    · cases h
theorem turnedOver_len {ns : List Int} {q : Int} {h : Nat} (e : ns.length = 2 * h) : (turnedOver ns q).length = ns.length := by
  unfold turnedOver
  rw [List.length_append, List.length_drop, List.length_zipWith, List.length_take, List.length_drop]
  omega
theorem oneBox_ok {ns : List Int} {told : Bool} {x : Box} (hl : ns.length = 4) (hx : x.Ok) (hk : x.kind ≠ 1) : (oneBox ns told x).Ok ∧ (oneBox ns told x).wt ≤ x.wt + 1 ∧ ((oneBox ns told x).kind = 1 ∨ (oneBox ns told x).kind = 2) := by
  unfold oneBox
  split
  · exact ⟨⟨hl, hx, hk⟩, Nat.le_refl _, .inr rfl⟩
  · split
    · exact ⟨trivial, Nat.zero_le _, .inl rfl⟩
    · exact ⟨trivial, Nat.zero_le _, .inl rfl⟩
theorem askF_ok : ∀ {n : Nat} {B : Box} {l : Int} {o : Option Ans} {B' : Box} {l' : Int}, B.Ok → askF n B l = some (o, B', l') → B'.Ok ∧ B'.wt ≤ B.wt ∧ B'.kind = B.kind
  | 0, B, l, o, B', l', _, e => by cases B <;> cases e
  | n + 1, .leaf c, l, o, B', l', ok, e => by
    cases e
    exact ⟨Chain.Ok.then_ (ch := c) ok l, Nat.le_refl _, rfl⟩
  | n + 1, .fb t b told, l, o, B', l', ok, e => by
    simp only [askF, Option.map_eq_some_iff] at e
    obtain ⟨r, _, e⟩ := e
    cases e
    exact ⟨trivial, Nat.le_refl _, rfl⟩
  | n + 1, .fourR t b told, l, o, B', l', ok, e => by
    simp only [askF, Option.map_eq_some_iff] at e
    obtain ⟨r, _, e⟩ := e
    cases e
    exact ⟨trivial, Nat.le_refl _, rfl⟩
  | n + 1, .four ns st told x, l, o, B', l', ok, e => by
    obtain ⟨hl, hx, hk⟩ := ok
    simp only [askF] at e
    split at e
    · split at e
      · cases e
        exact ⟨⟨(turnedOver_len (h := 2) hl).trans hl, hx, hk⟩, Nat.le_refl _, rfl⟩
      · split at e
        · cases e
        · rename_i x' l1 ex
          cases e
          obtain ⟨a1, a2, a3⟩ := askF_ok hx ex
          exact ⟨⟨hl, a1, a3 ▸ hk⟩, Nat.succ_le_succ a2, rfl⟩
        · rename_i x' l1 ex
          cases e
          obtain ⟨a1, a2, a3⟩ := askF_ok hx ex
          exact ⟨⟨hl, a1, a3 ▸ hk⟩, Nat.succ_le_succ a2, rfl⟩
        · obtain ⟨a1, a2, a3⟩ := askF_ok (B := .fourR _ _ _) trivial e
          exact ⟨a1, Nat.le_trans a2 (Nat.succ_le_succ (Nat.zero_le _)), a3⟩
        · rename_i q x' l1 ex
          split at e
          · obtain ⟨a1, a2, a3⟩ := askF_ok hx ex
            obtain ⟨b1, b2, b3⟩ := askF_ok (B := .four (withOne ns q) true told x') ⟨rfl, a1, a3 ▸ hk⟩ e
            exact ⟨b1, Nat.le_trans b2 (Nat.succ_le_succ a2), b3⟩
          · cases e
    · cases e
  | n + 1, .eight ns i j told x y, l, o, B', l', ok, e => by
    obtain ⟨hl, hx, hy, hkx, hky, hi, hj⟩ := ok
    simp only [askF] at e
    have wx : x.wt ≤ max x.wt y.wt := Nat.le_max_left _ _
    have wy : y.wt ≤ max x.wt y.wt := Nat.le_max_right _ _
    split at e
    · split at e
      · cases e
        exact ⟨⟨(turnedOver_len (h := 4) hl).trans hl, hx, hy, hkx, hky, hi, hj⟩, Nat.le_refl _, rfl⟩
      · split at e
        · split at e
          · cases e
          · rename_i x' l1 ex
            cases e
            obtain ⟨a1, a2, a3⟩ := askF_ok hx ex
            exact ⟨⟨hl, a1, hy, a3 ▸ hkx, hky, hi, hj⟩, (by show max _ _ + 3 ≤ max _ _ + 3; omega), rfl⟩
          · rename_i x' l1 ex
            cases e
            obtain ⟨a1, a2, a3⟩ := askF_ok hx ex
            exact ⟨⟨hl, a1, hy, a3 ▸ hkx, hky, hi, hj⟩, (by show max _ _ + 3 ≤ max _ _ + 3; omega), rfl⟩
          · have z := oneBox_ok (ns := leftOf ns 0) (told := told) rfl hy hky
            obtain ⟨b1, b2, b3⟩ := askF_ok (B := .eightR (oneBox (leftOf ns 0) told y)) ⟨z.1, z.2.2⟩ e
            exact ⟨b1, Nat.le_trans b2 (by show _ + 2 ≤ max _ _ + 3; have := z.2.1; omega), b3⟩
          · rename_i q x' l1 ex
            split at e
            · obtain ⟨a1, a2, a3⟩ := askF_ok hx ex
              obtain ⟨b1, b2, b3⟩ := askF_ok (B := .eight (withFirst ns q) (i + 1) j told x' y) ⟨rfl, a1, hy, a3 ▸ hkx, hky, by omega, hj⟩ e
              exact ⟨b1, Nat.le_trans b2 (by show max _ _ + 3 ≤ max _ _ + 3; omega), b3⟩
            · cases e
        · split at e
          · cases e
          · rename_i x' l1 ex
            cases e
            obtain ⟨a1, a2, a3⟩ := askF_ok hy ex
            exact ⟨⟨hl, hx, a1, hkx, a3 ▸ hky, hi, hj⟩, (by show max _ _ + 3 ≤ max _ _ + 3; omega), rfl⟩
          · rename_i x' l1 ex
            cases e
            obtain ⟨a1, a2, a3⟩ := askF_ok hy ex
            exact ⟨⟨hl, hx, a1, hkx, a3 ▸ hky, hi, hj⟩, (by show max _ _ + 3 ≤ max _ _ + 3; omega), rfl⟩
          · have z := oneBox_ok (ns := leftOf ns 1) (told := told) rfl hx hkx
            obtain ⟨b1, b2, b3⟩ := askF_ok (B := .eightR (oneBox (leftOf ns 1) told x)) ⟨z.1, z.2.2⟩ e
            exact ⟨b1, Nat.le_trans b2 (by show _ + 2 ≤ max _ _ + 3; have := z.2.1; omega), b3⟩
          · rename_i q x' l1 ex
            split at e
            · obtain ⟨a1, a2, a3⟩ := askF_ok hy ex
              obtain ⟨b1, b2, b3⟩ := askF_ok (B := .eight (withSecond ns q) i (j + 1) told x x') ⟨rfl, hx, a1, hkx, a3 ▸ hky, hi, by omega⟩ e
              exact ⟨b1, Nat.le_trans b2 (by show max _ _ + 3 ≤ max _ _ + 3; omega), b3⟩
            · cases e
    · cases e
  | n + 1, .eightR r, l, o, B', l', ok, e => by
    simp only [askF, Option.map_eq_some_iff] at e
    obtain ⟨⟨o1, r1, l1⟩, e1, e⟩ := e
    cases e
    obtain ⟨a1, a2, a3⟩ := askF_ok ok.1 e1
    exact ⟨⟨a1, by rw [a3]; exact ok.2⟩, Nat.add_le_add_right a2 2, rfl⟩
end
/-! ### boxes, asked -/
/-- what follows of a box's asking, at a, with the meter at m: none: NoValue is raised -/
def FinB (A : Ad) (K : PySem.W.Frag) (Q : VK) (E : XK) (H : Hp) (a m : Addr) (fp : List Addr) (l s : Int) (o : Option Ans) (B' : Box) (l' : Int) : Prop :=
  ∀ (H' : Hp) (fp' : List Addr), BoxAt A K H' B' a fp' → MeterAt A H' m l' (s + (l - l')) → m ∉ fp' → (∀ c z, H c = some z → c ∉ fp → c ≠ m → H' c = some z) → (∀ c ∈ fp', c ∈ fp ∨ H c = none) →
    match o with
    | none => E (.ref A.c_NoValue) none H'
    | some an => ∀ v, an.At A H' v → Q v H'
theorem FinB.step {A : Ad} {K : PySem.W.Frag} {Q : VK} {E : XK} {H H1 : Hp} {a m : Addr} {fp fp1 : List Addr} {l s l1 s1 : Int} {o : Option Ans} {B' : Box} {l' : Int} (k : FinB A K Q E H a m fp l s o B' l')
    (fr : ∀ c z, H c = some z → c ∉ fp → c ≠ m → H1 c = some z) (sub : ∀ c ∈ fp1, c ∈ fp ∨ H c = none) (es : s1 + l1 = s + l) : FinB A K Q E H1 a m fp1 l1 s1 o B' l' := by
  intro H' fp' hB hm nm fr' sub'
  refine k H' fp' hB (by rw [show s + (l - l') = s1 + (l1 - l') by omega]; exact hm) nm (fun c z e hc hcm => fr' c z (fr c z e hc hcm) (fun q => ?_) hcm) (fun c hc => ?_)
  · rcases sub c q with q | q
    · exact hc q
    · rw [q] at e; cases e
  · rcases sub' c hc with q | q
    · exact sub c q
    · cases ec : H c with
      | none => exact .inr rfl
      | some z =>
        rcases Decidable.em (c ∈ fp) with q1 | q1
        · exact .inl q1
        · have := fr c z ec q1 (fun q2 => nm (q2 ▸ hc))
          rw [q] at this
          cases this
/-- a box of the class kd, no heavier than d, asked -/
def spB (A : Ad) (K : PySem.W.Frag) (kd d : Nat) : Sp := fun vs H Q E => ∃ (a m : Addr) (fp : List Addr) (B : Box) (l s : Int) (n : Nat) (o : Option Ans) (B' : Box) (l' : Int), vs = [.ref a, .ref m] ∧ BoxAt A K H B a fp ∧ B.Ok ∧ B.wt ≤ d ∧ B.kind = kd ∧ MeterAt A H m l s ∧ m ∉ fp ∧ askF n B l = some (o, B', l') ∧
  FinB A K Q E H a m fp l s o B' l'
section
variable {P : Program} {w : World} {K : PySem.W.Frag} {mg : Str → Option Value} {base : Heap} {A : Ad}
theorem ok_ask_leaf (T : CT K mg A) (D : DT K mg A) (d : Nat) : MOk P w K mg base CX0 2 A.c_Leaf "ask" ["self", "meter"] (spB A K 0 d) := by
  obtain ⟨cl, f, fd, F, M, B⟩ := ok_Leaf_ask (P := P) (w := w) (base := base) T D
  refine ⟨cl, f, fd, F.imp fun vs H Q E h => ?_, M, B⟩
  obtain ⟨a, m, fp, B, l, s, n, o, B', l', rfl, hB, ok, _, hk, hm, nm, e, k⟩ := h
  cases B with
  | leaf ch =>
    cases n with
    | zero => cases e
    | succ n =>
      cases e
      obtain ⟨ca, rfl, hL, ne⟩ := hB
      have n1 : m ≠ a := fun z => nm (by simp [z])
      have n2 : m ≠ ca := fun z => nm (by simp [z])
      refine ⟨a, ca, m, ch, l, s, rfl, hL, ok, hm, ne, n1.symm, n2.symm, fun v H' hl hm' ha kp => ?_⟩
      refine k H' [a, ca] ⟨ca, rfl, hl, ne⟩ (by rw [show s + (l - (l - ch.took l)) = s + ch.took l by omega]; exact hm') nm (fun c o e hc hcm => kp c o e (fun z => hc (by simp [z])) hcm) (fun c hc => .inl hc) v ha
  | fb t b u => cases hk
  | four ns st told x => cases hk
  | fourR t b u => cases hk
  | eight ns i j told x y => cases hk
  | eightR r => cases hk
theorem fb_sub (T : CT K mg A) {t b : Int} {told : Bool} {r : Option Ans × Int × Int × Bool} {a dx m : Addr} {H : Hp} {Q : VK} {E : XK} (e : fbAsk t b told = some r) (ha : H a = some (.ins A.c_FractionBox dx (fbF t b told)))
    (k : ∀ H', H' a = some (.ins A.c_FractionBox dx (fbF r.2.1 r.2.2.1 r.2.2.2)) → (∀ c o, H c = some o → c ≠ a → H' c = some o) → match r.1 with
      | none => E (.ref A.c_NoValue) none H'
      | some an => ∀ v, an.At A H' v → Q v H') : sp_fb A K [.ref a, .ref m] H Q E := by
  unfold fbAsk at e
  split at e
  · rename_i hf
    refine ⟨a, dx, _, t, b, told, rfl, ha, hf.1, hf.2, fun hb ht => ?_, fun hb ht => ?_, fun hb v H' hv hA kp => ?_⟩
    · rw [if_pos hb, if_pos ht] at e
      cases e
      exact k H ha (fun c o e _ => e) _ rfl
    · rw [if_pos hb, if_neg (by rw [ht]; decide)] at e
      cases e
      exact k H ha (fun c o e _ => e)
    · rw [if_neg hb] at e
      cases e
      exact k H' hA kp _ ⟨_, rfl, hv⟩
  · cases e
theorem ok_ask_fb (T : CT K mg A) (D : DT K mg A) (d : Nat) : MOk P w K mg base (L2.CX P w) 2 A.c_FractionBox "ask" ["self", "meter"] (spB A K 1 d) := by
  obtain ⟨cl, f, fd, F, M, B⟩ := ok_FractionBox_ask (P := P) (w := w) (base := base) T D
  refine ⟨cl, f, fd, F.imp fun vs H Q E h => ?_, M, B⟩
  obtain ⟨a, m, fp, B, l, s, n, o, B', l', rfl, hB, ok, _, hk, hm, nm, e, k⟩ := h
  cases B with
  | fb t b told =>
    cases n with
    | zero => cases e
    | succ n =>
      simp only [askF, Option.map_eq_some_iff] at e
      obtain ⟨r, er, e⟩ := e
      cases e
      obtain ⟨dx, rfl, ha⟩ := hB
      obtain ⟨dm, em⟩ := hm
      have nma : m ≠ a := fun z => nm (by simp [z])
      refine fb_sub T er ha fun H' hA kp => ?_
      exact k H' [a] ⟨dx, rfl, hA⟩ ⟨dm, by rw [show s + (l - l) = s by omega]; exact kp _ _ em nma⟩ nm (fun c o e hc _ => kp c o e (fun z => hc (by simp [z]))) (fun c hc => .inl hc)
  | leaf ch => cases hk
  | four ns st told x => cases hk
  | fourR t b u => cases hk
  | eight ns i j told x y => cases hk
  | eightR r => cases hk
theorem Box.kinds (B : Box) : B.kind = 0 ∨ B.kind = 1 ∨ B.kind = 2 ∨ B.kind = 3 := by
  cases B <;> simp [Box.kind]
theorem BoxAt.cls {H : Hp} {B : Box} {a : Addr} {fp : List Addr} (h : BoxAt A K H B a fp) : ∃ C dx fs, H a = some (.ins C dx fs) ∧ fs.lookup ("ask" : Str) = none ∧ (B.kind = 0 → C = A.c_Leaf) ∧ (B.kind = 1 → C = A.c_FractionBox) ∧ (B.kind = 2 → C = A.c_FourBox) ∧ (B.kind = 3 → C = A.c_EightBox) := by
  cases B with
  | leaf c => obtain ⟨ca, rfl, ⟨⟨dx, e⟩, _⟩, _⟩ := h; exact ⟨_, _, _, e, rfl, fun _ => rfl, fun z => (by cases z), fun z => (by cases z), fun z => (by cases z)⟩
  | fb t b u => obtain ⟨dx, rfl, e⟩ := h; exact ⟨_, _, _, e, rfl, fun z => (by cases z), fun _ => rfl, fun z => (by cases z), fun z => (by cases z)⟩
  | four ns st told x => obtain ⟨dx, p, tx, fx, rfl, e, _⟩ := h; exact ⟨_, _, _, e, rfl, fun z => (by cases z), fun z => (by cases z), fun _ => rfl, fun z => (by cases z)⟩
  | fourR t b u => obtain ⟨dx, p, tx, st, told', r, dr, rfl, e, _⟩ := h; exact ⟨_, _, _, e, rfl, fun z => (by cases z), fun z => (by cases z), fun _ => rfl, fun z => (by cases z)⟩
  | eight ns i j told x y => obtain ⟨dx, p, t, l, tx, ty, fx, fy, rfl, e, _⟩ := h; exact ⟨_, _, _, e, rfl, fun z => (by cases z), fun z => (by cases z), fun z => (by cases z), fun _ => rfl⟩
  | eightR r => obtain ⟨dx, p, t, l, told, b, fr, rfl, e, _⟩ := h; exact ⟨_, _, _, e, rfl, fun z => (by cases z), fun z => (by cases z), fun z => (by cases z), fun _ => rfl⟩
theorem leaf_some {n : Nat} {B B' : Box} {l l' : Int} (hk : B.kind = 0) (e : askF n B l = some (none, B', l')) : False := by
  cases B <;> cases hk
  cases n with
  | zero => cases e
  | succ n => cases e
/-- a tree within, asked: by its class -/
theorem ask_any {σ : St} {H : Hp} {to : TE} {ta : TA} {Q : VK} {E : XK} {d : Nat} {tx m : Addr} {fx : List Addr} {x x' : Box} {l s l' : Int} {n : Nat} {o : Option Ans} (hto : ∀ R : VK, R (.ref tx) H → to σ H R) (hta : ∀ R : List V → Hp → Prop, R [.ref m] H → ta σ H R)
    (hB : BoxAt A K H x tx fx) (ok : x.Ok) (hw : x.wt ≤ d) (hk : x.kind ≠ 1) (hm : MeterAt A H m l s) (nm : m ∉ fx) (e : askF n x l = some (o, x', l')) (k : FinB A K Q E H tx m fx l s o x' l') :
    tMeth A.c_Leaf "ask" (spB A K 0 d) [] E0 to ta σ H Q ∨ tMeth A.c_FourBox "ask" (spB A K 2 d) [] E to ta σ H Q ∨ tMeth A.c_EightBox "ask" (spB A K 3 d) [] E to ta σ H Q := by
  obtain ⟨C, dx, fs, ec, hl, c0, c1, c2, c3⟩ := hB.cls
  rcases x.kinds with z | z | z | z
  · refine .inl (hto _ ⟨tx, dx, fs, rfl, by rw [← c0 z]; exact ec, hl, hta _ ⟨tx, m, fx, x, l, s, n, o, x', l', rfl, hB, ok, hw, z, hm, nm, e, ?_⟩⟩)
    cases o with
    | none => exact (leaf_some z e).elim
    | some an => exact k
  · exact absurd z hk
  · exact .inr (.inl (hto _ ⟨tx, dx, fs, rfl, by rw [← c2 z]; exact ec, hl, hta _ ⟨tx, m, fx, x, l, s, n, o, x', l', rfl, hB, ok, hw, z, hm, nm, e, k⟩⟩))
  · exact .inr (.inr (hto _ ⟨tx, dx, fs, rfl, by rw [← c3 z]; exact ec, hl, hta _ ⟨tx, m, fx, x, l, s, n, o, x', l', rfl, hB, ok, hw, z, hm, nm, e, k⟩⟩))
theorem ok_ask_four {d : Nat} (T : CT K mg A) (D : DT K mg A) (M_four : MOk P w K mg base (L2.CX P w) (6 + d) A.c_FourBox "ask" ["self", "meter"] (spB A K 2 d)) (M_eight : MOk P w K mg base (L2.CX P w) (6 + d) A.c_EightBox "ask" ["self", "meter"] (spB A K 3 d)) :
    MOk P w K mg base (L2.CX P w) (6 + (d + 1)) A.c_FourBox "ask" ["self", "meter"] (spB A K 2 (d + 1)) := by
  have M_leaf := ok_ask_leaf (P := P) (w := w) (base := base) T D d
  have M_fb := ok_FractionBox_ask (P := P) (w := w) (base := base) T D
  have M_tell := ok_FourBox_tell (P := P) (w := w) (base := base) T D
  have M_take := ok_FourBox_take (P := P) (w := w) (base := base) T D
  have G_sure_part := ok_sure_part (P := P) (w := w) (base := base) T D
  have G_four_corners := ok_four_corners (P := P) (w := w) (base := base) T D
  refine MOk.of T.cl_FourBox D.FourBox_ask fun f fd F => ?_
  refine F.okX (k := 6 + d) sc_FourBox_ask (fun vs H Q E h => ?_) (fun cdv Ar outer s H vs Q E hr h => ?_)
  · obtain ⟨a, m, fp, B, l, s, n, o, B', l', rfl, _⟩ := h
    rfl
  · obtain ⟨a, m, fp, B, l, sp, n, o, B', l', rfl, hB, ok, hw, hk, hm, nm, e, k⟩ := h
    refine ⟨_, (pss_cons (ps_while (passes_of rfl) (pt_cmpR op_isN (pe_fld (pv 0) rfl) pe_non (nomark _))
      (C8.pss_cut (ps_set (i := 2) sc_FourBox_ask.nd rfl (Or.inl rfl) (pe_ifExp (pt_val (pe_fld (pv 0) rfl)) (pe_c G_sure_part (hr.mono (by first | decide | omega)) (pa_cons (pe_c G_four_corners (hr.mono (by first | decide | omega)) (pa_cons (pe_fld (pv 0) rfl) pa_nil)) pa_nil)) pe_non))
    (pss_cons (ps_if (pt_cmpR op_notN (pv 2) pe_non (nomark _))
      (pss_one (ps_ret (pe_m M_tell (hr.mono (by first | decide | omega)) (pv 0) (pa_cons (pv 2) pa_nil)))) pss_nil)
    (pss_cons (ps_set (i := 3) sc_FourBox_ask.nd rfl (Or.inl rfl) ((pe_alt (pe_m M_leaf (hr.mono (by first | decide | omega)) (pe_fld (pv 0) rfl) (pa_cons (pv 1) pa_nil)) (pe_alt (pe_mX M_four (hr.mono (by first | decide | omega)) (passes_tk (takes_of rfl rfl rfl rfl)) (pe_fld (pv 0) rfl) (pa_cons (pv 1) pa_nil)) (pe_mX M_eight (hr.mono (by first | decide | omega)) (passes_tk (takes_of rfl rfl rfl rfl)) (pe_fld (pv 0) rfl) (pa_cons (pv 1) pa_nil))))))
    (pss_cons (ps_if (pt_cmpR (op_eqD hr.units) (pv 3) (pe_glob (v := .ref A.k_WAITS) (by rfl) T.g_WAITS rfl) (nomark _))
      (pss_one (ps_ret (pv 3))) pss_nil)
    (pss_one (ps_expr (pe_m M_take (hr.mono (by first | decide | omega)) (pv 0) (pa_cons (pv 3) pa_nil)))))))))
    (pss_one (ps_ret (pe_mX M_fb (hr.mono (by first | decide | omega)) (passes_tk (takes_of rfl rfl rfl rfl)) (pe_fld (pv 0) rfl) (pa_cons (pv 1) pa_nil))))), ?_⟩
    have cl := T.cl_FourBox
    refine ⟨fun n1 σ H1 => ∃ v2 v3 fp1 B1 l1 s1, σ = [some (V.ref a), some (V.ref m), v2, v3] ∧ BoxAt A K H1 B1 a fp1 ∧ B1.Ok ∧ B1.wt ≤ d + 1 ∧ B1.kind = 2 ∧ MeterAt A H1 m l1 s1 ∧ m ∉ fp1 ∧ askF n1 B1 l1 = some (o, B', l') ∧ FinB A K Q E H1 a m fp1 l1 s1 o B' l',
      ⟨n, none, none, fp, B, l, sp, rfl, hB, ok, hw, hk, hm, nm, e, k⟩, ?_⟩
    rintro n1 σ H1 ⟨v2, v3, fp1, B1, l1, s1, rfl, hB1, ok1, hw1, hk1, hm1, nm1, e1, k1⟩
    cases B1 with
    | leaf c => cases hk1
    | fb t b u => cases hk1
    | eight ns i j told x y => cases hk1
    | eightR r => cases hk1
    | fourR t b told =>
      obtain ⟨dx, p, tx, st, told', r, dr, rfl, ea, er, ne⟩ := hB1
      obtain ⟨dm, em⟩ := hm1
      refine ⟨_, rfl, a, _, dx, _, _, rfl, ea, cl, T.n_FourBox_rest, rfl, rfl, _, rfl, ite2 (fun c => ?_) (fun c => ?_)⟩
      · exact absurd (of_decide_eq_true c) (by intro z; cases z)
      · cases n1 with
        | zero => cases e1
        | succ n1 =>
          simp only [askF, Option.map_eq_some_iff] at e1
          obtain ⟨z, ez, e1⟩ := e1
          cases e1
          have nma : m ≠ a := fun z => nm1 (by simp [z])
          have nmr : m ≠ r := fun z => nm1 (by simp [z])
          refine ⟨_, rfl, a, _, dx, _, _, rfl, ea, cl, T.n_FourBox_rest, rfl, r, dr, _, rfl, er, rfl, _, rfl, fb_sub T ez er fun H' hA kp => ?_⟩
          exact k1 H' [a, r] ⟨dx, p, tx, st, told', r, dr, rfl, kp _ _ ea ne, hA, ne⟩ ⟨dm, by rw [Int.sub_self, Int.add_zero]; exact kp _ _ em nmr⟩ nm1 (fun c o e hc _ => kp c o e (fun z => hc (by simp [z]))) (fun c hc => .inl hc)
    | four ns st told x =>
      obtain ⟨dx, p, tx, fx, rfl, ea, hp, hx, na⟩ := hB1
      obtain ⟨hl4, okx, kx⟩ := ok1
      refine ⟨_, rfl, a, _, dx, _, _, rfl, ea, cl, T.n_FourBox_rest, rfl, rfl, _, rfl, ite2 (fun c => ?_) (fun c => absurd (decide_eq_true rfl) c)⟩
      cases n1 with
      | zero => cases e1
      | succ n1 =>
      simp only [askF] at e1
      split at e1
      case isFalse => cases e1
      rename_i hfit
      obtain ⟨hf, hcf⟩ := allFit_ns hfit
      refine ⟨_, fun σ' H' z => z, fun σ' H' => ∃ pv, σ' = [some (V.ref a), some (V.ref m), some pv, v3] ∧ Same H1 H' ∧ pv = (match (if st = true then surePart (fourCorners ns) else none) with | some q => V.int q | none => V.non), ?_, ?_⟩
      · refine ⟨_, rfl, a, _, dx, _, _, rfl, ea, cl, T.n_FourBox_started, rfl, st, rfl, ?_⟩
        cases st with
        | true => exact ⟨_, rfl, a, _, dx, _, _, rfl, ea, cl, T.n_FourBox_numbers, rfl, p, ns, rfl, hp, hl4, fun L H2 hc s2 => ⟨L, fourCorners ns, rfl, hc, (by show 0 < 2; decide), (by show 2 ≤ 4; decide), hcf, fun H3 s3 => ⟨_, rfl, s2.trans s3, rfl⟩⟩⟩
        | false => exact ⟨_, rfl, Same.refl H1, rfl⟩
      · rintro σ' H3 ⟨pv, rfl, s3, rfl⟩
        have ea3 := s3 _ _ ea
        have hp3 := sqT_same hp s3
        have hx3 := hx.same s3
        obtain ⟨dm, em⟩ := hm1
        have em3 := s3 _ _ em
        have nma : m ≠ a := fun z => nm1 (by simp [z])
        have nmx : m ∉ fx := fun z => nm1 (by simp [z])
        have k3 : FinB A K Q E H3 a m (a :: fx) l1 s1 o B' l' := k1.step (fun c z e _ _ => s3 c z e) (fun c hc => .inl hc) rfl
        cases es : (if st = true then surePart (fourCorners ns) else none) with
        | some q =>
          rw [es] at e1
          cases e1
          have fq : fits q := by
            cases st with
            | true => exact surePart_fits es hcf (by show 0 < 2; decide)
            | false => cases es
          refine ⟨_, rfl, rfl, _, rfl, ite2 (fun _ => ?_) (fun c => absurd rfl c)⟩
          refine ⟨_, rfl, a, dx, _, rfl, ea3, rfl, _, rfl, a, dx, p, tx, ns, st, told, q, rfl, ea3, hp3, hl4, hf, fq, fun r p' H4 hr4 ha4 hp4 kp => ?_⟩
          have hx4 := hx3.kept (N := fun c => c = a) (fun c o e n => kp c o e n) (fun c o e z => by subst e; rw [ea3] at z; exact ins_no (Option.some.inj z).symm) (fun c hc z => na (z ▸ hc))
          exact k3 H4 (a :: fx) ⟨dx, p', tx, fx, rfl, ha4, hp4, hx4, na⟩ ⟨dm, by rw [Int.sub_self, Int.add_zero]; exact kp _ _ em3 nma⟩ nm1 (fun c o e hc _ => kp c o e (fun z => hc (by simp [z]))) (fun c hc => .inl hc) _ ⟨r, rfl, hr4⟩
        | none =>
          rw [es] at e1
          simp only at e1
          refine ⟨_, rfl, rfl, _, rfl, ite2 (fun c => absurd c (by decide)) (fun _ => ?_)⟩
          cases ex : askF n1 x l1 with
          | none => rw [ex] at e1; cases e1
          | some z =>
            obtain ⟨ox, x', l2⟩ := z
            rw [ex] at e1
            obtain ⟨okx', wx', kx'⟩ := askF_ok okx ex
            refine ask_any (tx := tx) (m := m) (fx := fx) (x := x) (l := l1) (s := s1) (n := n1) (fun R h => ⟨_, rfl, a, _, dx, _, _, rfl, ea3, cl, T.n_FourBox_tree, rfl, h⟩) (fun R h => ⟨_, rfl, h⟩) hx3 okx (by show x.wt ≤ d; exact Nat.le_of_succ_le_succ hw1) kx ⟨dm, em3⟩ nmx ex fun H4 fx' hx4 hm4 nm4 fr4 sub4 => ?_
            have ea4 := fr4 _ _ ea3 na nma.symm
            have hp4 : SqT K H4 p (ns.map V.int) := sqT_but (N := fun c => c ∈ fx ∨ c = m) hp3 (fun c o e n => fr4 c o e (fun z => n (.inl z)) (fun z => n (.inr z))) fun c o z e => by
              rcases z with z | rfl
              · exact (hx3.soft c z).no e
              · rw [em3] at e; exact ins_no (Option.some.inj e).symm
            have na4 : a ∉ fx' := fun z => by
              rcases sub4 a z with q | q
              · exact na q
              · rw [ea3] at q; cases q
            have nm5 : m ∉ a :: fx' := fun z => by
              rcases List.mem_cons.mp z with q | q
              · exact nma q
              · exact nm4 q
            have fr5 : ∀ c z, H3 c = some z → c ∉ a :: fx → c ≠ m → H4 c = some z := fun c z e hc hcm => fr4 c z e (fun q => hc (List.mem_cons_of_mem _ q)) hcm
            have sub5 : ∀ c ∈ a :: fx', c ∈ a :: fx ∨ H3 c = none := fun c hc => by
              rcases List.mem_cons.mp hc with rfl | hc
              · exact .inl List.mem_cons_self
              · rcases sub4 c hc with q | q
                · exact .inl (List.mem_cons_of_mem _ q)
                · exact .inr q
            cases ox with
            | none =>
              cases e1
              exact k3 H4 (a :: fx') ⟨dx, p, tx, fx', rfl, ea4, hp4, hx4, na4⟩ hm4 nm5 fr5 sub5
            | some an =>
              intro v hv
              obtain ⟨pv', rfl, hpv⟩ := hv.tup T
              have hW : SqT K H4 A.k_WAITS Ans.waits.vals := T.t_WAITS H4
              refine ⟨_, rfl, _, _, an.dp hpv, Ans.waits.dp hW, an.shaped, Ans.waits.shaped, _, rfl, ?_⟩
              rw [eqv_waits]
              cases an with
              | waits =>
                cases e1
                exact iteT ⟨_, rfl, k3 H4 (a :: fx') ⟨dx, p, tx, fx', rfl, ea4, hp4, hx4, na4⟩ hm4 nm5 fr5 sub5 _ hv⟩
              | fin =>
                simp only at e1
                refine iteF ⟨_, rfl, a, dx, _, rfl, ea4, rfl, _, rfl, a, dx, p, tx, ns, st, told, _, .fin, rfl, hv, ea4, hp4, hl4, hf, fun r dr H5 ha5 hr5 nr5 kp5 => ?_⟩
                have nar : a ≠ r := ne_of_none ea4 nr5
                obtain ⟨dm4, em4⟩ := hm4
                have nmr : m ≠ r := ne_of_none em4 nr5
                refine ⟨n1, Nat.lt_succ_self _, _, _, [a, r], .fourR (ns.getD 0 0) (ns.getD 2 0) told, l2, s1 + (l1 - l2), rfl, ⟨dx, p, tx, st, told, r, dr, rfl, ha5, hr5, nar⟩, trivial, (by show 1 ≤ d + 1; omega), rfl, ⟨dm4, kp5 _ _ em4 nma⟩, ?_, e1, ?_⟩
                · intro z
                  simp only [List.mem_cons, List.not_mem_nil, or_false] at z
                  rcases z with z | z
                  · exact nma z
                  · exact nmr z
                · refine k3.step (fun c z e hc hcm => ?_) (fun c hc => ?_) (by omega)
                  · exact kp5 c z (fr5 c z e hc hcm) (fun q => hc (q ▸ List.mem_cons_self))
                  · simp only [List.mem_cons, List.not_mem_nil, or_false] at hc
                    rcases hc with rfl | rfl
                    · exact .inl List.mem_cons_self
                    · cases q : H3 c with
                      | none => exact .inr rfl
                      | some z =>
                        rcases Decidable.em (c ∈ a :: fx) with q1 | q1
                        · exact .inl q1
                        · have := fr5 c z q q1 nmr.symm
                          rw [nr5] at this
                          cases this
              | part q =>
                simp only at e1
                split at e1
                case isFalse => cases e1
                rename_i fq
                refine iteF ⟨_, rfl, a, dx, _, rfl, ea4, rfl, _, rfl, a, dx, p, tx, ns, st, told, _, .part q, rfl, hv, ea4, hp4, hl4, hf, fq, fun p' H5 ha5 hp5 kp5 => ?_⟩
                obtain ⟨dm4, em4⟩ := hm4
                have hx5 := hx4.kept (N := fun c => c = a) (fun c o e n => kp5 c o e n) (fun c o e z => by subst e; rw [ea4] at z; exact ins_no (Option.some.inj z).symm) (fun c hc z => na4 (z ▸ hc))
                refine ⟨n1, Nat.lt_succ_self _, _, _, a :: fx', .four (withOne ns q) true told x', l2, s1 + (l1 - l2), rfl, ⟨dx, p', tx, fx', rfl, ha5, hp5, hx5, na4⟩, ⟨rfl, okx', kx' ▸ kx⟩, (by show x'.wt + 1 ≤ d + 1; exact Nat.succ_le_succ (Nat.le_trans wx' (Nat.le_of_succ_le_succ hw1))), rfl, ⟨dm4, kp5 _ _ em4 nma⟩, nm5, e1, ?_⟩
                exact k3.step (fun c z e hc hcm => kp5 c z (fr5 c z e hc hcm) (fun q => hc (q ▸ List.mem_cons_self))) sub5 (by omega)
end
/-! ### eights, asked -/
section
variable {P : Program} {w : World} {K : PySem.W.Frag} {mg : Str → Option Value} {base : Heap} {A : Ad}
theorem oneIs_at {H : Hp} {p z r dr C : Addr} {ns : List Int} {told : Bool} {fs : Flds} {x : Box} {fx : List Addr} (one : OneIs A p z ns told C fs) (hr : H r = some (.ins C dr fs)) (hp : SqT K H p (ns.map V.int)) (hx : BoxAt A K H x z fx) (nr : r ∉ fx) :
    ∃ fr, BoxAt A K H (oneBox ns told x) r fr ∧ ∀ c ∈ fr, c = r ∨ c ∈ fx := by
  unfold oneBox
  rcases one with ⟨h1, rfl, rfl⟩ | ⟨h1, h2, rfl, rfl⟩ | ⟨h1, h2, rfl, rfl⟩
  · rw [if_pos h1]
    exact ⟨r :: fx, ⟨dr, p, z, fx, rfl, hr, hp, hx, nr⟩, fun c hc => List.mem_cons.mp hc⟩
  · rw [if_neg (fun q => q h1), if_pos h2]
    exact ⟨[r], ⟨dr, rfl, hr⟩, fun c hc => .inl (by simpa using hc)⟩
  · rw [if_neg (fun q => q h1), if_neg (fun q => q h2)]
    exact ⟨[r], ⟨dr, rfl, hr⟩, fun c hc => .inl (by simpa using hc)⟩
theorem ask_rest {σ : St} {H : Hp} {to : TE} {ta : TA} {Q : VK} {E : XK} {d : Nat} {tx m : Addr} {fx : List Addr} {x x' : Box} {l s l' : Int} {n : Nat} {o : Option Ans} (hto : ∀ R : VK, R (.ref tx) H → to σ H R) (hta : ∀ R : List V → Hp → Prop, R [.ref m] H → ta σ H R)
    (hB : BoxAt A K H x tx fx) (ok : x.Ok) (hw : x.wt ≤ d) (hk : x.kind = 1 ∨ x.kind = 2) (hm : MeterAt A H m l s) (nm : m ∉ fx) (e : askF n x l = some (o, x', l')) (k : FinB A K Q E H tx m fx l s o x' l') :
    tMeth A.c_FractionBox "ask" (spB A K 1 d) [] E to ta σ H Q ∨ tMeth A.c_FourBox "ask" (spB A K 2 d) [] E to ta σ H Q := by
  obtain ⟨C, dx, fs, ec, hl, c0, c1, c2, c3⟩ := hB.cls
  rcases hk with z | z
  · exact .inl (hto _ ⟨tx, dx, fs, rfl, by rw [← c1 z]; exact ec, hl, hta _ ⟨tx, m, fx, x, l, s, n, o, x', l', rfl, hB, ok, hw, z, hm, nm, e, k⟩⟩)
  · exact .inr (hto _ ⟨tx, dx, fs, rfl, by rw [← c2 z]; exact ec, hl, hta _ ⟨tx, m, fx, x, l, s, n, o, x', l', rfl, hB, ok, hw, z, hm, nm, e, k⟩⟩)
theorem ok_ask_eight {d : Nat} (T : CT K mg A) (D : DT K mg A) (M_four : MOk P w K mg base (L2.CX P w) (6 + (d + 1)) A.c_FourBox "ask" ["self", "meter"] (spB A K 2 (d + 1))) (M_eight : MOk P w K mg base (L2.CX P w) (6 + (d + 1)) A.c_EightBox "ask" ["self", "meter"] (spB A K 3 (d + 1))) :
    MOk P w K mg base (L2.CX P w) (6 + (d + 2)) A.c_EightBox "ask" ["self", "meter"] (spB A K 3 (d + 2)) := by
  have M_leaf := ok_ask_leaf (P := P) (w := w) (base := base) T D (d + 1)
  have M_fb := ok_ask_fb (P := P) (w := w) (base := base) T D (d + 1)
  have M_tell := ok_EightBox_tell (P := P) (w := w) (base := base) T D
  have M_take := ok_EightBox_take (P := P) (w := w) (base := base) T D
  have G_sure_part := ok_sure_part (P := P) (w := w) (base := base) T D
  have G_eight_corners := ok_eight_corners (P := P) (w := w) (base := base) T D
  refine MOk.of T.cl_EightBox D.EightBox_ask fun f fd F => ?_
  refine F.okX (k := 6 + (d + 1)) sc_EightBox_ask (fun vs H Q E h => ?_) (fun cdv Ar outer s H vs Q E hr h => ?_)
  · obtain ⟨a, m, fp, B, l, s, n, o, B', l', rfl, _⟩ := h
    rfl
  · obtain ⟨a, m, fp, B, l, sp, n, o, B', l', rfl, hB, ok, hw, hk, hm, nm, e, k⟩ := h
    refine ⟨_, (pss_cons (ps_while (passes_of rfl) (pt_cmpR op_isN (pe_fld (pv 0) rfl) pe_non (nomark _))
      (C8.pss_cut (ps_set (i := 2) sc_EightBox_ask.nd rfl (Or.inl rfl) (pe_ifExp (pt_cmpR op_gt (pe_callB (cr_min rfl) (by rfl) T.b_min (by decide +kernel) (pa_cons (pe_fld (pv 0) rfl) pa_nil)) pe_int (nomark _)) (pe_c G_sure_part (hr.mono (by first | decide | omega)) (pa_cons (pe_c G_eight_corners (hr.mono (by first | decide | omega)) (pa_cons (pe_fld (pv 0) rfl) pa_nil)) pa_nil)) pe_non))
    (pss_cons (ps_if (pt_cmpR op_notN (pv 2) pe_non (nomark _))
      (pss_one (ps_ret (pe_m M_tell (hr.mono (by first | decide | omega)) (pv 0) (pa_cons (pv 2) pa_nil)))) pss_nil)
    (C8.pss_cut (ps_set (i := 3) sc_EightBox_ask.nd rfl (Or.inl rfl) (pe_ifExp (pt_cmpR op_le (pe_ix ix_list (pe_fld (pv 0) rfl) pe_int (fun _ _ => rfl)) (pe_ix ix_list (pe_fld (pv 0) rfl) pe_int (fun _ _ => rfl)) (nomark _)) pe_int pe_int))
    (pss_cons (ps_set (i := 4) sc_EightBox_ask.nd rfl (Or.inl rfl) ((pe_alt (pe_m M_leaf (hr.mono (by first | decide | omega)) (pe_ix ix_tup (pe_fld (pv 0) rfl) (pv 3) (fun _ _ => rfl)) (pa_cons (pv 1) pa_nil)) (pe_alt (pe_mX M_four (hr.mono (by first | decide | omega)) (passes_tk (takes_of rfl rfl rfl rfl)) (pe_ix ix_tup (pe_fld (pv 0) rfl) (pv 3) (fun _ _ => rfl)) (pa_cons (pv 1) pa_nil)) (pe_mX M_eight (hr.mono (by first | decide | omega)) (passes_tk (takes_of rfl rfl rfl rfl)) (pe_ix ix_tup (pe_fld (pv 0) rfl) (pv 3) (fun _ _ => rfl)) (pa_cons (pv 1) pa_nil))))))
    (pss_cons (ps_if (pt_cmpR (op_eqD hr.units) (pv 4) (pe_glob (v := .ref A.k_WAITS) (by rfl) T.g_WAITS rfl) (nomark _))
      (pss_one (ps_ret (pv 4))) pss_nil)
    (pss_one (ps_expr (pe_m M_take (hr.mono (by first | decide | omega)) (pv 0) (pa_cons (pv 3) (pa_cons (pv 4) pa_nil)))))))))))
    (pss_one (ps_ret ((pe_alt (pe_mX M_fb (hr.mono (by first | decide | omega)) (passes_tk (takes_of rfl rfl rfl rfl)) (pe_fld (pv 0) rfl) (pa_cons (pv 1) pa_nil)) (pe_mX M_four (hr.mono (by first | decide | omega)) (passes_tk (takes_of rfl rfl rfl rfl)) (pe_fld (pv 0) rfl) (pa_cons (pv 1) pa_nil))))))), ?_⟩
    have cl := T.cl_EightBox
    refine ⟨fun n1 σ H1 => ∃ v2 v3 v4 fp1 B1 l1 s1, σ = [some (V.ref a), some (V.ref m), v2, v3, v4] ∧ BoxAt A K H1 B1 a fp1 ∧ B1.Ok ∧ B1.wt ≤ d + 2 ∧ B1.kind = 3 ∧ MeterAt A H1 m l1 s1 ∧ m ∉ fp1 ∧ askF n1 B1 l1 = some (o, B', l') ∧ FinB A K Q E H1 a m fp1 l1 s1 o B' l',
      ⟨n, none, none, none, fp, B, l, sp, rfl, hB, ok, hw, hk, hm, nm, e, k⟩, ?_⟩
    rintro n1 σ H1 ⟨v2, v3, v4, fp1, B1, l1, s1, rfl, hB1, ok1, hw1, hk1, hm1, nm1, e1, k1⟩
    cases B1 with
    | leaf c => cases hk1
    | fb t b u => cases hk1
    | four ns st told x => cases hk1
    | fourR t b told => cases hk1
    | eightR r =>
      obtain ⟨dx, p, t, L, told, b, fr, rfl, ea, hr1, na⟩ := hB1
      refine ⟨_, rfl, a, _, dx, _, _, rfl, ea, cl, T.n_EightBox_rest, rfl, rfl, _, rfl, ite2 (fun c => ?_) (fun c => ?_)⟩
      · exact absurd (of_decide_eq_true c) (by intro z; cases z)
      · cases n1 with
        | zero => cases e1
        | succ n1 =>
          simp only [askF, Option.map_eq_some_iff] at e1
          obtain ⟨⟨o1, r1, l2⟩, er, e1⟩ := e1
          cases e1
          have nma : m ≠ a := fun z => nm1 (by simp [z])
          have nmr : m ∉ fr := fun z => nm1 (by simp [z])
          refine ask_rest (tx := b) (m := m) (fx := fr) (x := r) (l := l1) (s := s1) (n := n1) (fun R h => ⟨_, rfl, a, _, dx, _, _, rfl, ea, cl, T.n_EightBox_rest, rfl, h⟩) (fun R h => ⟨_, rfl, h⟩) hr1 ok1.1 (by have : r.wt + 2 ≤ d + 2 := hw1; omega) ok1.2 hm1 nmr er fun H4 fr' hr4 hm4 nm4 fr4 sub4 => ?_
          have ea4 := fr4 _ _ ea na nma.symm
          refine k1 H4 (a :: fr') ⟨dx, p, t, L, told, b, fr', rfl, ea4, hr4, fun z => ?_⟩ hm4 (fun z => ?_) (fun c z e hc hcm => fr4 c z e (fun q => hc (List.mem_cons_of_mem _ q)) hcm) (fun c hc => ?_)
          · rcases sub4 a z with q | q
            · exact na q
            · rw [ea] at q; cases q
          · rcases List.mem_cons.mp z with q | q
            · exact nma q
            · exact nm4 q
          · rcases List.mem_cons.mp hc with rfl | hc
            · exact .inl List.mem_cons_self
            · rcases sub4 c hc with q | q
              · exact .inl (List.mem_cons_of_mem _ q)
              · exact .inr q
    | eight ns i j told x y =>
      obtain ⟨dx, p, t, L, tx, ty, fx, fy, rfl, ea, hp, ht, hL, hx, hy, na1, na2, nl1, nl2, dj0⟩ := hB1
      obtain ⟨hl8, okx, oky, kx, ky, hi, hj⟩ := ok1
      have hwE : max x.wt y.wt + 3 ≤ d + 2 := hw1
      have wx : x.wt ≤ d + 1 := by omega
      have wy : y.wt ≤ d + 1 := by omega
      refine ⟨_, rfl, a, _, dx, _, _, rfl, ea, cl, T.n_EightBox_rest, rfl, rfl, _, rfl, ite2 (fun c => ?_) (fun c => absurd (decide_eq_true rfl) c)⟩
      cases n1 with
      | zero => cases e1
      | succ n1 =>
      simp only [askF] at e1
      split at e1
      case isFalse => cases e1
      rename_i hfit
      obtain ⟨hf, hcf⟩ := allFit_ns hfit
      refine ⟨_, fun σ' H' z => z, fun σ' H' => ∃ pv, σ' = [some (V.ref a), some (V.ref m), some pv, v3, v4] ∧ Same H1 H' ∧ pv = (match (if 0 < i ∧ 0 < j then surePart (eightCorners ns) else none) with | some q => V.int q | none => V.non), ?_, ?_⟩
      · refine ⟨_, rfl, a, _, dx, _, _, rfl, ea, cl, T.n_EightBox_taken, rfl, L, [i, j], rfl, SqL.of hL, (by show 0 < 2; decide), fun mn hmn hmin => ⟨_, _, rfl, rfl, _, rfl, ite2 (fun c => ?_) (fun c => ?_)⟩⟩
        · have c' : mn > 0 := of_decide_eq_true c
          have h1 := hmin i (by simp)
          have h2 := hmin j (by simp)
          rw [if_pos (show 0 < i ∧ 0 < j by omega)]
          exact ⟨_, rfl, a, _, dx, _, _, rfl, ea, cl, T.n_EightBox_numbers, rfl, p, ns, rfl, hp, hl8, fun Lc H2 hc s2 => ⟨Lc, eightCorners ns, rfl, hc, (by show 0 < 4; decide), (by show 4 ≤ 4; decide), hcf, fun H3 s3 => ⟨_, rfl, s2.trans s3, rfl⟩⟩⟩
        · have c' : ¬ mn > 0 := fun z => c (decide_eq_true z)
          rw [if_neg (show ¬ (0 < i ∧ 0 < j) from fun z => by
            simp only [List.mem_cons, List.not_mem_nil, or_false] at hmn
            rcases hmn with rfl | rfl <;> omega)]
          exact ⟨_, rfl, Same.refl H1, rfl⟩
      · rintro σ' H3 ⟨pv, rfl, s3, rfl⟩
        have ea3 := s3 _ _ ea
        have hp3 := sqT_same hp s3
        have ht3 := sqT_same ht s3
        have hL3 := s3 _ _ hL
        have hx3 := hx.same s3
        have hy3 := hy.same s3
        obtain ⟨dm, em⟩ := hm1
        have em3 := s3 _ _ em
        have nma : m ≠ a := fun z => nm1 (by simp [z])
        have nml : m ≠ L := fun z => nm1 (by simp [z])
        have nmx : m ∉ fx := fun z => nm1 (by simp [z])
        have nmy : m ∉ fy := fun z => nm1 (by simp [z])
        have k3 : FinB A K Q E H3 a m (a :: L :: (fx ++ fy)) l1 s1 o B' l' := k1.step (fun c z e _ _ => s3 c z e) (fun c hc => .inl hc) rfl
        cases es : (if 0 < i ∧ 0 < j then surePart (eightCorners ns) else none) with
        | some q =>
          rw [es] at e1
          cases e1
          have fq : fits q := by
            split at es
            · exact surePart_fits es hcf (by show 0 < 4; decide)
            · cases es
          refine ⟨_, rfl, rfl, _, rfl, ite2 (fun _ => ?_) (fun c => absurd rfl c)⟩
          refine ⟨_, rfl, a, dx, _, rfl, ea3, rfl, _, rfl, a, dx, p, t, L, ns, told, q, rfl, ea3, hp3, hl8, hf, fq, fun r p' H4 hr4 ha4 hp4 kp => ?_⟩
          have sf : ∀ c o, c = a → H3 c = some o → (∀ ys, o ≠ .tup ys) ∧ ∀ ob u, o ≠ .frz ob u := fun c o e z => by subst e; rw [ea3] at z; exact ins_no (Option.some.inj z).symm
          have hx4 := hx3.kept (N := fun c => c = a) (fun c o e n => kp c o e n) sf (fun c hc z => na1 (z ▸ hc))
          have hy4 := hy3.kept (N := fun c => c = a) (fun c o e n => kp c o e n) sf (fun c hc z => na2 (z ▸ hc))
          have ht4 := sqT_but (N := fun c => c = a) ht3 (fun c o e n => kp c o e n) sf
          have nLa : L ≠ a := ne_of hL3 ea3 (by intro z; cases z)
          exact k3 H4 (a :: L :: (fx ++ fy)) ⟨dx, p', t, L, tx, ty, fx, fy, rfl, ha4, hp4, ht4, kp _ _ hL3 nLa, hx4, hy4, na1, na2, nl1, nl2, dj0⟩ ⟨dm, by rw [Int.sub_self, Int.add_zero]; exact kp _ _ em3 nma⟩ nm1 (fun c o e hc _ => kp c o e (fun z => hc (by simp [z]))) (fun c hc => .inl hc) _ ⟨r, rfl, hr4⟩
        | none =>
          rw [es] at e1
          simp only at e1
          refine ⟨_, rfl, rfl, _, rfl, ite2 (fun c => absurd c (by decide)) (fun _ => ?_)⟩
          refine ⟨fun σ' H' => H3 = H' ∧ σ' = [some (V.ref a), some (V.ref m), some V.non, some (V.int (if i ≤ j then 0 else 1)), v4], ?_, ?_⟩
          · refine ⟨_, rfl, a, _, dx, _, _, rfl, ea3, cl, T.n_EightBox_taken, rfl, L, _, 0, _, rfl, rfl, SqL.of hL3, atI_nat (j := 0) rfl, _, rfl, a, _, dx, _, _, rfl, ea3, cl, T.n_EightBox_taken, rfl, L, _, 1, _, rfl, rfl, SqL.of hL3, atI_nat (j := 1) rfl, _, _, rfl, rfl, _, rfl, ite2 (fun c => ?_) (fun c => ?_)⟩
            · rw [if_pos (of_decide_eq_true c)]
              exact ⟨rfl, rfl⟩
            · rw [if_neg (fun z => c (decide_eq_true z))]
              exact ⟨rfl, rfl⟩
          rintro σ' H3' ⟨rfl, rfl⟩
          split at e1
          · rename_i cij
            rw [if_pos cij]
            cases ex : askF n1 x l1 with
            | none => rw [ex] at e1; cases e1
            | some z =>
              obtain ⟨ox, x', l2⟩ := z
              rw [ex] at e1
              obtain ⟨okc', wc', kc'⟩ := askF_ok okx ex
              refine ask_any (tx := tx) (m := m) (fx := fx) (x := x) (l := l1) (s := s1) (n := n1) (fun R h => ⟨_, rfl, a, _, dx, _, _, rfl, ea3, cl, T.n_EightBox_trees, rfl, _, rfl, t, _, 0, _, rfl, rfl, ht3, atI_nat (j := 0) rfl, h⟩) (fun R h => ⟨_, rfl, h⟩) hx3 okx wx kx ⟨dm, em3⟩ nmx ex fun H4 fc' hc4 hm4 nm4 fr4 sub4 => ?_
              have ea4 := fr4 _ _ ea3 na1 nma.symm
              have hL4 := fr4 _ _ hL3 nl1 nml.symm
              have soft4 : ∀ c o, (c ∈ fx ∨ c = m) → H3 c = some o → (∀ ys, o ≠ .tup ys) ∧ ∀ ob u, o ≠ .frz ob u := fun c o z e => by
                rcases z with z | rfl
                · exact (hx3.soft c z).no e
                · rw [em3] at e; exact ins_no (Option.some.inj e).symm
              have frN : ∀ c o, H3 c = some o → ¬ (c ∈ fx ∨ c = m) → H4 c = some o := fun c o e n => fr4 c o e (fun z => n (.inl z)) (fun z => n (.inr z))
              have hp4 : SqT K H4 p (ns.map V.int) := sqT_but hp3 frN soft4
              have ht4 : SqT K H4 t [.ref tx, .ref ty] := sqT_but ht3 frN soft4
              have ho4 := hy3.kept frN soft4 (fun c hc z => by
                rcases z with z | rfl
                · exact dj0 c z hc
                · exact nmy hc)
              have old : ∀ c z, H3 c = some z → c ∉ fx → c ∉ fc' := fun c z e hn q => by
                rcases sub4 c q with q | q
                · exact hn q
                · rw [e] at q; cases q
              have nac : a ∉ fc' := old _ _ ea3 na1
              have nlc : L ∉ fc' := old _ _ hL3 nl1
              have dj : ∀ c ∈ fc', c ∉ fy := fun c hc hd => by
                obtain ⟨z, ez⟩ : ∃ z, H3 c = some z := by
                  rcases hy3.soft c hd with ⟨_, _, _, q⟩ | ⟨_, q⟩
                  · exact ⟨_, q⟩
                  · exact ⟨_, q⟩
                exact old c z ez (fun q => dj0 c q hd) hc
              have nm5 : m ∉ a :: L :: (fc' ++ fy) := fun z => by
                simp only [List.mem_cons, List.mem_append] at z
                rcases z with z | z | z | z
                · exact nma z
                · exact nml z
                · exact nm4 z
                · exact nmy z
              have fr5 : ∀ c z, H3 c = some z → c ∉ a :: L :: (fx ++ fy) → c ≠ m → H4 c = some z := fun c z e hc hcm => fr4 c z e (fun q => hc (by simp [q])) hcm
              have sub5 : ∀ c ∈ a :: L :: (fc' ++ fy), c ∈ a :: L :: (fx ++ fy) ∨ H3 c = none := fun c hc => by
                simp only [List.mem_cons, List.mem_append] at hc ⊢
                rcases hc with z | z | z | z
                · exact .inl (.inl z)
                · exact .inl (.inr (.inl z))
                · rcases sub4 c z with q | q
                  · exact .inl (.inr (.inr (.inl q)))
                  · exact .inr q
                · exact .inl (.inr (.inr (.inr z)))


              cases ox with
              | none =>
                cases e1
                exact k3 H4 (a :: L :: (fc' ++ fy)) ⟨dx, p, t, L, tx, ty, fc', fy, rfl, ea4, hp4, ht4, hL4, hc4, ho4, nac, na2, nlc, nl2, dj⟩ hm4 nm5 fr5 sub5
              | some an =>
                intro v hv
                obtain ⟨pv', rfl, hpv⟩ := hv.tup T
                have hW : SqT K H4 A.k_WAITS Ans.waits.vals := T.t_WAITS H4
                refine ⟨_, rfl, _, _, an.dp hpv, Ans.waits.dp hW, an.shaped, Ans.waits.shaped, _, rfl, ?_⟩
                rw [eqv_waits]
                cases an with
                | waits =>
                  cases e1
                  exact iteT ⟨_, rfl, k3 H4 (a :: L :: (fc' ++ fy)) ⟨dx, p, t, L, tx, ty, fc', fy, rfl, ea4, hp4, ht4, hL4, hc4, ho4, nac, na2, nlc, nl2, dj⟩ hm4 nm5 fr5 sub5 _ hv⟩
                | fin =>
                  simp only at e1
                  refine iteF ⟨_, rfl, a, dx, _, rfl, ea4, rfl, _, rfl, _, rfl, a, dx, p, t, L, tx, ty, ns, told, 0, i, j, _, .fin, rfl, by decide, hv, ea4, hp4, ht4, hL4, hl8, hf, fun p' r dr C fs H5 hp5 nr5 ha5 kp5 hr5 one => ?_⟩
                  obtain ⟨dm4, em4⟩ := hm4
                  have nar : a ≠ r := ne_of_none ea4 nr5
                  have nmr : m ≠ r := ne_of_none em4 nr5
                  have ho5 := ho4.kept (N := fun c => c = a) (fun c o e n => kp5 c o e n) (fun c o e z => by subst e; rw [ea4] at z; exact ins_no (Option.some.inj z).symm) (fun c hc z => na2 (z ▸ hc))
                  have nro : r ∉ fy := fun z => by
                    rcases ho4.soft r z with ⟨_, _, _, q⟩ | ⟨_, q⟩
                    · rw [nr5] at q; cases q
                    · rw [nr5] at q; cases q
                  obtain ⟨fr, hr6, sub6⟩ := oneIs_at one hr5 hp5 ho5 nro
                  have z6 := oneBox_ok (ns := leftOf ns 0) (told := told) rfl oky ky
                  refine ⟨n1, Nat.lt_succ_self _, _, _, _, a :: fr, .eightR (oneBox (leftOf ns 0) told y), l2, s1 + (l1 - l2), rfl, ⟨dx, p, t, L, told, r, fr, rfl, ha5, hr6, ?_⟩, ⟨z6.1, z6.2.2⟩, (by show _ + 2 ≤ d + 2; have := z6.2.1; omega), rfl, ⟨dm4, kp5 _ _ em4 nma⟩, ?_, e1, ?_⟩
                  · intro z
                    rcases sub6 a z with q | q
                    · exact nar q
                    · exact na2 q
                  · intro z
                    rcases List.mem_cons.mp z with q | q
                    · exact nma q
                    · rcases sub6 m q with q | q
                      · exact nmr q
                      · exact nmy q
                  · refine k3.step (fun c z e hc hcm => ?_) (fun c hc => ?_) (by omega)
                    · exact kp5 c z (fr5 c z e hc hcm) (fun q => hc (q ▸ List.mem_cons_self))
                    · rcases List.mem_cons.mp hc with rfl | hc
                      · exact .inl List.mem_cons_self
                      · rcases sub6 c hc with rfl | q
                        · cases q : H3 c with
                          | none => exact .inr rfl
                          | some z =>
                            rcases Decidable.em (c ∈ a :: L :: (fx ++ fy)) with q1 | q1
                            · exact .inl q1
                            · have := fr5 c z q q1 nmr.symm
                              rw [nr5] at this
                              cases this
                        · exact .inl (by simp [q])
                | part q =>
                  simp only at e1
                  split at e1
                  case isFalse => cases e1
                  rename_i fq
                  refine iteF ⟨_, rfl, a, dx, _, rfl, ea4, rfl, _, rfl, _, rfl, a, dx, p, t, L, tx, ty, ns, told, 0, i, j, _, .part q, rfl, by decide, hv, ea4, hp4, ht4, hL4, hl8, hf, fq, fun p' H5 ha5 hp5 hL5 kp5 => ?_⟩
                  obtain ⟨dm4, em4⟩ := hm4
                  have frN5 : ∀ c o, H4 c = some o → ¬ (c = a ∨ c = L) → H5 c = some o := fun c o e n => kp5 c o e (fun z => n (.inl z)) (fun z => n (.inr z))
                  have soft5 : ∀ c o, (c = a ∨ c = L) → H4 c = some o → (∀ ys, o ≠ .tup ys) ∧ ∀ ob u, o ≠ .frz ob u := fun c o z e => by
                    rcases z with rfl | rfl
                    · exact Soft.no (.inl ⟨_, _, _, ea4⟩) e
                    · exact Soft.no (.inr ⟨_, hL4⟩) e
                  have hc5 := hc4.kept frN5 soft5 (fun c hc z => by
                    rcases z with rfl | rfl
                    · exact nac hc
                    · exact nlc hc)
                  have ho5 := ho4.kept frN5 soft5 (fun c hc z => by
                    rcases z with rfl | rfl
                    · exact na2 hc
                    · exact nl2 hc)
                  have ht5 : SqT K H5 t [.ref tx, .ref ty] := sqT_but ht4 frN5 soft5
                  refine ⟨n1, Nat.lt_succ_self _, _, _, _, a :: L :: (fc' ++ fy), .eight (withFirst ns q) (i + 1) j told x' y, l2, s1 + (l1 - l2), rfl, ⟨dx, p', t, L, tx, ty, fc', fy, rfl, ha5, hp5, ht5, hL5, hc5, ho5, nac, na2, nlc, nl2, dj⟩, ⟨rfl, okc', oky, kc' ▸ kx, ky, by omega, hj⟩, (by show max _ _ + 3 ≤ d + 2; omega), rfl, ⟨dm4, kp5 _ _ em4 nma nml⟩, nm5, e1, ?_⟩
                  exact k3.step (fun c z e hc hcm => kp5 c z (fr5 c z e hc hcm) (fun q => hc (by simp [q])) (fun q => hc (by simp [q]))) sub5 (by omega)
          · rename_i cij
            rw [if_neg cij]
            cases ex : askF n1 y l1 with
            | none => rw [ex] at e1; cases e1
            | some z =>
              obtain ⟨ox, x', l2⟩ := z
              rw [ex] at e1
              obtain ⟨okc', wc', kc'⟩ := askF_ok oky ex
              refine ask_any (tx := ty) (m := m) (fx := fy) (x := y) (l := l1) (s := s1) (n := n1) (fun R h => ⟨_, rfl, a, _, dx, _, _, rfl, ea3, cl, T.n_EightBox_trees, rfl, _, rfl, t, _, 1, _, rfl, rfl, ht3, atI_nat (j := 1) rfl, h⟩) (fun R h => ⟨_, rfl, h⟩) hy3 oky wy ky ⟨dm, em3⟩ nmy ex fun H4 fc' hc4 hm4 nm4 fr4 sub4 => ?_
              have ea4 := fr4 _ _ ea3 na2 nma.symm
              have hL4 := fr4 _ _ hL3 nl2 nml.symm
              have soft4 : ∀ c o, (c ∈ fy ∨ c = m) → H3 c = some o → (∀ ys, o ≠ .tup ys) ∧ ∀ ob u, o ≠ .frz ob u := fun c o z e => by
                rcases z with z | rfl
                · exact (hy3.soft c z).no e
                · rw [em3] at e; exact ins_no (Option.some.inj e).symm
              have frN : ∀ c o, H3 c = some o → ¬ (c ∈ fy ∨ c = m) → H4 c = some o := fun c o e n => fr4 c o e (fun z => n (.inl z)) (fun z => n (.inr z))
              have hp4 : SqT K H4 p (ns.map V.int) := sqT_but hp3 frN soft4
              have ht4 : SqT K H4 t [.ref tx, .ref ty] := sqT_but ht3 frN soft4
              have ho4 := hx3.kept frN soft4 (fun c hc z => by
                rcases z with z | rfl
                · exact dj0 c hc z
                · exact nmx hc)
              have old : ∀ c z, H3 c = some z → c ∉ fy → c ∉ fc' := fun c z e hn q => by
                rcases sub4 c q with q | q
                · exact hn q
                · rw [e] at q; cases q
              have nac : a ∉ fc' := old _ _ ea3 na2
              have nlc : L ∉ fc' := old _ _ hL3 nl2
              have dj : ∀ c ∈ fc', c ∉ fx := fun c hc hd => by
                obtain ⟨z, ez⟩ : ∃ z, H3 c = some z := by
                  rcases hx3.soft c hd with ⟨_, _, _, q⟩ | ⟨_, q⟩
                  · exact ⟨_, q⟩
                  · exact ⟨_, q⟩
                exact old c z ez (fun q => dj0 c hd q) hc
              have nm5 : m ∉ a :: L :: (fx ++ fc') := fun z => by
                simp only [List.mem_cons, List.mem_append] at z
                rcases z with z | z | z | z
                · exact nma z
                · exact nml z
                · exact nmx z
                · exact nm4 z
              have fr5 : ∀ c z, H3 c = some z → c ∉ a :: L :: (fx ++ fy) → c ≠ m → H4 c = some z := fun c z e hc hcm => fr4 c z e (fun q => hc (by simp [q])) hcm
              have sub5 : ∀ c ∈ a :: L :: (fx ++ fc'), c ∈ a :: L :: (fx ++ fy) ∨ H3 c = none := fun c hc => by
                simp only [List.mem_cons, List.mem_append] at hc ⊢
                rcases hc with z | z | z | z
                · exact .inl (.inl z)
                · exact .inl (.inr (.inl z))
                · exact .inl (.inr (.inr (.inl z)))


                · rcases sub4 c z with q | q
                  · exact .inl (.inr (.inr (.inr q)))
                  · exact .inr q
              cases ox with
              | none =>
                cases e1
                exact k3 H4 (a :: L :: (fx ++ fc')) ⟨dx, p, t, L, tx, ty, fx, fc', rfl, ea4, hp4, ht4, hL4, ho4, hc4, na1, nac, nl1, nlc, fun c h1 h2 => dj c h2 h1⟩ hm4 nm5 fr5 sub5
              | some an =>
                intro v hv
                obtain ⟨pv', rfl, hpv⟩ := hv.tup T
                have hW : SqT K H4 A.k_WAITS Ans.waits.vals := T.t_WAITS H4
                refine ⟨_, rfl, _, _, an.dp hpv, Ans.waits.dp hW, an.shaped, Ans.waits.shaped, _, rfl, ?_⟩
                rw [eqv_waits]
                cases an with
                | waits =>
                  cases e1
                  exact iteT ⟨_, rfl, k3 H4 (a :: L :: (fx ++ fc')) ⟨dx, p, t, L, tx, ty, fx, fc', rfl, ea4, hp4, ht4, hL4, ho4, hc4, na1, nac, nl1, nlc, fun c h1 h2 => dj c h2 h1⟩ hm4 nm5 fr5 sub5 _ hv⟩
                | fin =>
                  simp only at e1
                  refine iteF ⟨_, rfl, a, dx, _, rfl, ea4, rfl, _, rfl, _, rfl, a, dx, p, t, L, tx, ty, ns, told, 1, i, j, _, .fin, rfl, by decide, hv, ea4, hp4, ht4, hL4, hl8, hf, fun p' r dr C fs H5 hp5 nr5 ha5 kp5 hr5 one => ?_⟩
                  obtain ⟨dm4, em4⟩ := hm4
                  have nar : a ≠ r := ne_of_none ea4 nr5
                  have nmr : m ≠ r := ne_of_none em4 nr5
                  have ho5 := ho4.kept (N := fun c => c = a) (fun c o e n => kp5 c o e n) (fun c o e z => by subst e; rw [ea4] at z; exact ins_no (Option.some.inj z).symm) (fun c hc z => na1 (z ▸ hc))
                  have nro : r ∉ fx := fun z => by
                    rcases ho4.soft r z with ⟨_, _, _, q⟩ | ⟨_, q⟩
                    · rw [nr5] at q; cases q
                    · rw [nr5] at q; cases q
                  obtain ⟨fr, hr6, sub6⟩ := oneIs_at one hr5 hp5 ho5 nro
                  have z6 := oneBox_ok (ns := leftOf ns 1) (told := told) rfl okx kx
                  refine ⟨n1, Nat.lt_succ_self _, _, _, _, a :: fr, .eightR (oneBox (leftOf ns 1) told x), l2, s1 + (l1 - l2), rfl, ⟨dx, p, t, L, told, r, fr, rfl, ha5, hr6, ?_⟩, ⟨z6.1, z6.2.2⟩, (by show _ + 2 ≤ d + 2; have := z6.2.1; omega), rfl, ⟨dm4, kp5 _ _ em4 nma⟩, ?_, e1, ?_⟩
                  · intro z
                    rcases sub6 a z with q | q
                    · exact nar q
                    · exact na1 q
                  · intro z
                    rcases List.mem_cons.mp z with q | q
                    · exact nma q
                    · rcases sub6 m q with q | q
                      · exact nmr q
                      · exact nmx q
                  · refine k3.step (fun c z e hc hcm => ?_) (fun c hc => ?_) (by omega)
                    · exact kp5 c z (fr5 c z e hc hcm) (fun q => hc (q ▸ List.mem_cons_self))
                    · rcases List.mem_cons.mp hc with rfl | hc
                      · exact .inl List.mem_cons_self
                      · rcases sub6 c hc with rfl | q
                        · cases q : H3 c with
                          | none => exact .inr rfl
                          | some z =>
                            rcases Decidable.em (c ∈ a :: L :: (fx ++ fy)) with q1 | q1
                            · exact .inl q1
                            · have := fr5 c z q q1 nmr.symm
                              rw [nr5] at this
                              cases this
                        · exact .inl (by simp [q])
                | part q =>
                  simp only at e1
                  split at e1
                  case isFalse => cases e1
                  rename_i fq
                  refine iteF ⟨_, rfl, a, dx, _, rfl, ea4, rfl, _, rfl, _, rfl, a, dx, p, t, L, tx, ty, ns, told, 1, i, j, _, .part q, rfl, by decide, hv, ea4, hp4, ht4, hL4, hl8, hf, fq, fun p' H5 ha5 hp5 hL5 kp5 => ?_⟩
                  obtain ⟨dm4, em4⟩ := hm4
                  have frN5 : ∀ c o, H4 c = some o → ¬ (c = a ∨ c = L) → H5 c = some o := fun c o e n => kp5 c o e (fun z => n (.inl z)) (fun z => n (.inr z))
                  have soft5 : ∀ c o, (c = a ∨ c = L) → H4 c = some o → (∀ ys, o ≠ .tup ys) ∧ ∀ ob u, o ≠ .frz ob u := fun c o z e => by
                    rcases z with rfl | rfl
                    · exact Soft.no (.inl ⟨_, _, _, ea4⟩) e
                    · exact Soft.no (.inr ⟨_, hL4⟩) e
                  have hc5 := hc4.kept frN5 soft5 (fun c hc z => by
                    rcases z with rfl | rfl
                    · exact nac hc
                    · exact nlc hc)
                  have ho5 := ho4.kept frN5 soft5 (fun c hc z => by
                    rcases z with rfl | rfl
                    · exact na1 hc
                    · exact nl1 hc)
                  have ht5 : SqT K H5 t [.ref tx, .ref ty] := sqT_but ht4 frN5 soft5
                  refine ⟨n1, Nat.lt_succ_self _, _, _, _, a :: L :: (fx ++ fc'), .eight (withSecond ns q) i (j + 1) told x x', l2, s1 + (l1 - l2), rfl, ⟨dx, p', t, L, tx, ty, fx, fc', rfl, ha5, hp5, ht5, hL5, ho5, hc5, na1, nac, nl1, nlc, fun c h1 h2 => dj c h2 h1⟩, ⟨rfl, okx, okc', kx, kc' ▸ ky, hi, by omega⟩, (by show max _ _ + 3 ≤ d + 2; omega), rfl, ⟨dm4, kp5 _ _ em4 nma nml⟩, nm5, e1, ?_⟩
                  exact k3.step (fun c z e hc hcm => kp5 c z (fr5 c z e hc hcm) (fun q => hc (by simp [q])) (fun q => hc (by simp [q]))) sub5 (by omega)
theorem mok_no {k : Nat} {C : Addr} {m qual : Str} {ps : List Str} {sp : Sp} {st : Stmt} {CX : CXT} (c : Cls K C) (D : ∃ f fd, Fun K m qual st f fd ∧ Meth K C m f ∧ Binds K fd ps []) (no : ∀ vs H Q E, ¬ sp vs H Q E) : MOk P w K mg base CX k C m ps sp :=
  MOk.of c D fun f fd F => ⟨(fun vs H Q E h => (no vs H Q E h).elim), (fun _ _ _ _ _ _ _ _ _ _ _ _ _ h => (no _ _ _ _ h).elim)⟩
theorem no_four {vs : List V} {H : Hp} {Q : VK} {E : XK} : ¬ spB A K 2 0 vs H Q E := by
  rintro ⟨a, m, fp, B, l, s, n, o, B', l', rfl, hB, ok, hw, hk, _⟩
  cases B with
  | four ns st told x => exact absurd hw (by show ¬ x.wt + 1 ≤ 0; omega)
  | fourR t b u => exact absurd hw (by show ¬ 1 ≤ 0; omega)
  | leaf c => cases hk
  | fb t b u => cases hk
  | eight ns i j told x y => cases hk
  | eightR r => cases hk
theorem no_eight {d : Nat} (hd : d ≤ 1) {vs : List V} {H : Hp} {Q : VK} {E : XK} : ¬ spB A K 3 d vs H Q E := by
  rintro ⟨a, m, fp, B, l, s, n, o, B', l', rfl, hB, ok, hw, hk, _⟩
  cases B with
  | four ns st told x => cases hk
  | fourR t b u => cases hk
  | leaf c => cases hk
  | fb t b u => cases hk
  | eight ns i j told x y => exact absurd hw (by show ¬ max x.wt y.wt + 3 ≤ d; omega)
  | eightR r => exact absurd hw (by show ¬ r.wt + 2 ≤ d; omega)
/-- fours and eights, no heavier than d -/
theorem ok_asks (T : CT K mg A) (D : DT K mg A) : ∀ d : Nat, MOk P w K mg base (L2.CX P w) (6 + d) A.c_FourBox "ask" ["self", "meter"] (spB A K 2 d) ∧ MOk P w K mg base (L2.CX P w) (6 + d) A.c_EightBox "ask" ["self", "meter"] (spB A K 3 d)
  | 0 => ⟨mok_no T.cl_FourBox D.FourBox_ask fun _ _ _ _ => no_four, mok_no T.cl_EightBox D.EightBox_ask fun _ _ _ _ => no_eight (by omega)⟩
  | 1 => by
    have h := ok_asks T D 0
    exact ⟨ok_ask_four T D h.1 h.2, mok_no T.cl_EightBox D.EightBox_ask fun _ _ _ _ => no_eight (by omega)⟩
  | d + 2 => by
    have h := ok_asks T D (d + 1)
    exact ⟨ok_ask_four T D h.1 h.2, ok_ask_eight T D h.1 h.2⟩
end
/-! ### trees, and the boxes that are made of them -/
inductive Tree where
  | leaf (f : Leaf)
  | four (ns : List Int) (x : Tree)
  | eight (ns : List Int) (x y : Tree)
  | power (x : Tree) (n : Nat)
def Tree.ht : Tree → Nat
  | .leaf _ => 0
  | .four _ x => x.ht + 1
  | .eight _ x y => max x.ht y.ht + 1
  | .power x _ => x.ht + 1
def Tree.At (K : PySem.W.Frag) (H : Hp) : Tree → Addr → Prop
  | .leaf f, v => f.At K H v
  | .four ns x, v => ∃ p tx, SqT K H v [.str "four", .ref p, .ref tx] ∧ SqT K H p (ns.map V.int) ∧ x.At K H tx
  | .eight ns x y, v => ∃ p tx ty, SqT K H v [.str "eight", .ref p, .ref tx, .ref ty] ∧ SqT K H p (ns.map V.int) ∧ x.At K H tx ∧ y.At K H ty
  | .power x n, v => ∃ tx, SqT K H v [.str "power", .ref tx, .int n] ∧ x.At K H tx
/-- some two columns are not made of one another -/
def Crossed (ns : List Int) : Prop := ∃ i k : Nat, k < i ∧ i < ns.length / 2 ∧ ns.getD i 0 * ns.getD (k + ns.length / 2) 0 ≠ ns.getD k 0 * ns.getD (i + ns.length / 2) 0
def Tree.Good : Tree → Prop
  | .leaf f => f.Good
  | .four ns x => ns.length = 4 ∧ (∀ z ∈ ns, tame z) ∧ Crossed ns ∧ x.Good
  | .eight ns x y => ns.length = 8 ∧ (∀ z ∈ ns, tame z) ∧ Crossed ns ∧ x.Good ∧ y.Good
  | .power x n => 1 ≤ n ∧ n ≤ 4 ∧ x.Good
def timesN : List Int := [1, 0, 0, 0, 0, 0, 0, 1]
def powB (R : Box → Prop) : Nat → Box → Prop
  | 0, _ => False
  | 1, B => R B
  | n + 2, B => ∃ x y, R x ∧ powB R (n + 1) y ∧ B = .eight timesN 0 0 false x y
/-- the box that a tree begins with -/
def Tree.Starts : Tree → Box → Prop
  | .leaf f, B => ∃ ch, f.Starts ch ∧ B = .leaf ch
  | .four ns x, B => ∃ X, x.Starts X ∧ B = .four ns false false X
  | .eight ns x y, B => ∃ X Y, x.Starts X ∧ y.Starts Y ∧ B = .eight ns 0 0 false X Y
  | .power x n, B => powB x.Starts n B
section
variable {P : Program} {w : World} {K : PySem.W.Frag} {mg : Str → Option Value} {base : Heap} {A : Ad}
theorem Tree.At.same {H H' : Hp} (s : Same H H') : ∀ {t : Tree} {v : Addr}, t.At K H v → t.At K H' v
  | .leaf f, v, h => Leaf.At.same (f := f) h s
  | .four ns x, v, h => by
    obtain ⟨p, tx, h1, h2, h3⟩ := h
    exact ⟨p, tx, sqT_same h1 s, sqT_same h2 s, Tree.At.same s h3⟩
  | .eight ns x y, v, h => by
    obtain ⟨p, tx, ty, h1, h2, h3, h4⟩ := h
    exact ⟨p, tx, ty, sqT_same h1 s, sqT_same h2 s, Tree.At.same s h3, Tree.At.same s h4⟩
  | .power x n, v, h => by
    obtain ⟨tx, h1, h2⟩ := h
    exact ⟨tx, sqT_same h1 s, Tree.At.same s h2⟩
theorem powB_kind {R : Box → Prop} (h : ∀ B, R B → B.kind ≠ 1) : ∀ {n : Nat} {B : Box}, powB R n B → B.kind ≠ 1
  | 0, B, z => z.elim
  | 1, B, z => h B z
  | n + 2, B, z => by
    obtain ⟨x, y, _, _, rfl⟩ := z
    show 3 ≠ 1
    decide
theorem Tree.Starts.kind : ∀ {t : Tree} {B : Box}, t.Starts B → B.kind ≠ 1
  | .leaf f, B, h => by obtain ⟨ch, _, rfl⟩ := h; show 0 ≠ 1; decide
  | .four ns x, B, h => by obtain ⟨X, _, rfl⟩ := h; show 2 ≠ 1; decide
  | .eight ns x y, B, h => by obtain ⟨X, Y, _, _, rfl⟩ := h; show 3 ≠ 1; decide
  | .power x n, B, h => powB_kind (fun B z => Tree.Starts.kind z) h
/-- a box was made: new, and of the right beginning -/
def Made (A : Ad) (K : PySem.W.Frag) (R : Box → Prop) (H : Hp) (Q : VK) : Prop := ∀ (a : Addr) (fp : List Addr) (B : Box) (H' : Hp), BoxAt A K H' B a fp → R B → B.Ok → Same H H' → (∀ c ∈ fp, H c = none) → Q (.ref a) H'
def sp_box_of (A : Ad) (K : PySem.W.Frag) (d : Nat) : Sp := fun vs H Q _ => ∃ (v : Addr) (t : Tree), vs = [.ref v] ∧ t.At K H v ∧ t.Good ∧ t.ht ≤ d ∧ Made A K t.Starts H Q
def sp_power_box (A : Ad) (K : PySem.W.Frag) (d N : Nat) : Sp := fun vs H Q _ => ∃ (v : Addr) (t : Tree) (n : Nat), vs = [.ref v, .int n] ∧ t.At K H v ∧ t.Good ∧ t.ht ≤ d ∧ 1 ≤ n ∧ n ≤ N ∧ Made A K (powB t.Starts n) H Q
theorem cok_no {k : Nat} {x : Str} {st : Stmt} {ps : List Str} {sp : Sp} (D : ∃ f fd, DefAt K mg x st ps f fd) (no : ∀ vs H Q E, ¬ sp vs H Q E) : COk P w K mg base CX0 k x ps sp := by
  obtain ⟨f, fd, F⟩ := D
  exact .of F ⟨(fun _ _ _ _ h => (no _ _ _ _ h).elim), (fun _ _ _ _ _ _ _ _ _ _ _ _ _ h => (no _ _ _ _ h).elim)⟩
/-- an eight is made of two new boxes -/
theorem eight_made {H H1 H2 : Hp} {Q : VK} {p tx ty : Addr} {fx fy : List Addr} {X Y : Box} {ns : List Int} (T : CT K mg A) (hx : BoxAt A K H1 X tx fx) (hy : BoxAt A K H2 Y ty fy) (okX : X.Ok) (okY : Y.Ok) (kX : X.kind ≠ 1) (kY : Y.kind ≠ 1) (hl : ns.length = 8)
    (s1 : Same H H1) (s2 : Same H1 H2) (nx : ∀ c ∈ fx, H c = none) (ny : ∀ c ∈ fy, H1 c = none) (hp : SqT K H2 p (ns.map V.int))
    (k : ∀ (a : Addr) (fp : List Addr) (H' : Hp), BoxAt A K H' (.eight ns 0 0 false X Y) a fp → Box.Ok (.eight ns 0 0 false X Y) → Same H H' → (∀ c ∈ fp, H c = none) → Q (.ref a) H') {x dx : Addr} (nx2 : H2 x = none) (nd2 : H2 dx = none) (ne : dx ≠ x) :
    sp_EightBox_init A [.ref x, .ref p, .ref tx, .ref ty] (upd (upd H2 dx (.own x)) x (.ins A.c_EightBox dx [])) (fun v H' => v = .non ∧ Q (.ref x) H') E0 := by
  refine ⟨x, dx, p, tx, ty, rfl, upd_same, fun q l H' nq nl nlq ha hq hL kp => ⟨rfl, ?_⟩⟩
  have s3 : Same H2 H' := fun c o e => kp c o (by rw [upd_ne (ne_of_none e nx2), upd_ne (ne_of_none e nd2)]; exact e) (ne_of_none e nx2)
  have nlx : l ≠ x := fun z => by rw [z, upd_same] at nl; cases nl
  have nld : l ≠ dx := fun z => by rw [z, upd_ne ne, upd_same] at nl; cases nl
  have nl2 : H2 l = none := by rw [upd_ne nlx, upd_ne nld] at nl; exact nl
  have some_of : ∀ {H0 : Hp} {B : Box} {b : Addr} {f : List Addr} {c : Addr}, BoxAt A K H0 B b f → c ∈ f → ∃ o, H0 c = some o := fun h hc => by
    rcases h.soft _ hc with ⟨_, _, _, q⟩ | ⟨_, q⟩
    · exact ⟨_, q⟩
    · exact ⟨_, q⟩
  have hx2 := hx.same s2
  have out : ∀ {B : Box} {b : Addr} {f : List Addr} {c : Addr}, BoxAt A K H2 B b f → H2 c = none → c ∉ f := fun h e hc => by
    obtain ⟨o, q⟩ := some_of h hc
    rw [e] at q
    cases q
  refine k x (x :: l :: (fx ++ fy)) H' ⟨dx, p, q, l, tx, ty, fx, fy, rfl, ha, sqT_same hp s3, SqT.of hq, hL, hx2.same s3, hy.same s3, out hx2 nx2, out hy nx2, out hx2 nl2, out hy nl2, fun c h1 h2 => ?_⟩ ⟨hl, okX, okY, kX, kY, by decide, by decide⟩ ((s1.trans s2).trans s3) (fun c hc => ?_)
  · obtain ⟨o, q⟩ := some_of hx h1
    rw [ny c h2] at q
    cases q
  · simp only [List.mem_cons, List.mem_append] at hc
    rcases hc with rfl | rfl | hc | hc
    · exact (s1.trans s2).free nx2
    · exact (s1.trans s2).free nl2
    · exact nx c hc
    · exact s1.free (ny c hc)
theorem ok_power_box {d N k : Nat} (T : CT K mg A) (D : DT K mg A) (hk : 5 ≤ k) (G_box_of : COk P w K mg base CX0 k "box_of" ["tree"] (sp_box_of A K d)) (G_power_box : COk P w K mg base CX0 (k + N) "power_box" ["tree", "times"] (sp_power_box A K d N)) :
    COk P w K mg base CX0 (k + (N + 1)) "power_box" ["tree", "times"] (sp_power_box A K d (N + 1)) := by
  have I_EightBox := ok_EightBox_init (P := P) (w := w) (base := base) T D
  refine COk.by D.power_box fun f fd F => ?_
  refine F.ok (k := k + N) sc_power_box (fun vs H Q E h => ?_) (fun cdv Ar outer s H vs Q E hr h => ?_)
  · obtain ⟨v, t, n, rfl, _⟩ := h
    rfl
  · obtain ⟨v, t, n, rfl, ht, hg, hd, h1, hN, k'⟩ := h
    refine ⟨_, (pss_cons (ps_if (pt_cmpR op_eq (pv 1) pe_int (nomark _))
      (pss_one (ps_ret (pe_c G_box_of (hr.mono (by first | decide | omega)) (pa_cons (pv 0) pa_nil)))) pss_nil)
    (pss_one (ps_ret (pe_mk I_EightBox (hr.mono (by first | decide | omega)) (pa_cons (pe_glob (v := .ref A.k_TIMES) (by rfl) T.g_TIMES rfl) (pa_cons (pe_c G_box_of (hr.mono (by first | decide | omega)) (pa_cons (pv 0) pa_nil)) (pa_cons (pe_c G_power_box (hr.mono (by first | decide | omega)) (pa_cons (pv 0) (pa_cons (pe_op op_sub (pv 1) pe_int) pa_nil))) pa_nil))))))), ?_⟩
    refine ⟨_, rfl, rfl, _, rfl, ite2 (fun c => ?_) (fun c => ?_)⟩
    · have e : n = 1 := by
        have := V.int.inj (of_decide_eq_true c)
        omega
      subst e
      exact ⟨_, rfl, v, t, rfl, ht, hg, hd, k'⟩
    · have e : n ≠ 1 := fun z => c (decide_eq_true (by rw [z]; rfl))
      obtain ⟨n, rfl⟩ : ∃ j, n = j + 2 := ⟨n - 2, by omega⟩
      refine ⟨_, rfl, v, t, rfl, ht, hg, hd, fun tx fx X H1 hx sX okX s1 nx => ?_⟩
      refine ⟨_, rfl, _, rfl, _, _, rfl, rfl, ?_⟩
      have en : (((n + 2 : Nat) : Int) - 1) = ((n + 1 : Nat) : Int) := by omega
      refine cast (congrArg (fun z => sp_power_box A K d N [V.ref v, V.int z] H1 _ E0) en.symm) ?_
      refine ⟨v, t, n + 1, rfl, ht.same s1, hg, hd, by omega, by omega, fun ty fy Y H2 hy sY okY s2 ny => ?_⟩
      intro x dx nx2 nd2 ne
      exact eight_made T hx hy okX okY sX.kind (powB_kind (fun B z => Tree.Starts.kind z) sY) rfl s1 s2 nx ny (T.t_TIMES H2) (fun a fp H' hB ok s n' => k' a fp _ H' hB ⟨X, Y, sX, sY, rfl⟩ ok s n') nx2 nd2 ne
theorem ok_power_all {d k : Nat} (T : CT K mg A) (D : DT K mg A) (hk : 5 ≤ k) (G : COk P w K mg base CX0 k "box_of" ["tree"] (sp_box_of A K d)) : ∀ N : Nat, COk P w K mg base CX0 (k + N) "power_box" ["tree", "times"] (sp_power_box A K d N)
  | 0 => cok_no D.power_box fun vs H Q E h => by
    obtain ⟨v, t, n, _, _, _, _, h1, h2, _⟩ := h
    omega
  | N + 1 => ok_power_box T D hk G (ok_power_all T D hk G N)
theorem ok_box_of_step {d k : Nat} (T : CT K mg A) (D : DT K mg A) (hk : 5 ≤ k) (hd : ∀ t : Tree, t.ht < d + 1 → t.ht ≤ d) (G_box_of : COk P w K mg base CX0 k "box_of" ["tree"] (sp_box_of A K d)) : COk P w K mg base CX0 (k + 5) "box_of" ["tree"] (sp_box_of A K (d + 1)) := by
  have G_leaf_of := ok_leaf_of (P := P) (w := w) (base := base) T D
  have G_power_box := ok_power_all (P := P) (w := w) (base := base) T D hk G_box_of 4
  have I_EightBox := ok_EightBox_init (P := P) (w := w) (base := base) T D
  have I_FourBox := ok_FourBox_init (P := P) (w := w) (base := base) T D
  refine COk.by D.box_of fun f fd F => ?_
  refine F.ok (k := k + 4) sc_box_of (fun vs H Q E h => ?_) (fun cdv Ar outer s H vs Q E hr h => ?_)
  · obtain ⟨v, t, rfl, _⟩ := h
    rfl
  · obtain ⟨v, t, rfl, ht, hg, hh, k'⟩ := h
    refine ⟨_, (pss_cons (ps_set (i := 1) sc_box_of.nd rfl (Or.inl rfl) (pe_ix ix_tup (pv 0) pe_int (fun _ _ => rfl)))
    (pss_cons (ps_if (pt_cmpR op_eq (pv 1) pe_str (nomark _))
      (pss_one (ps_ret (pe_mk I_FourBox (hr.mono (by first | decide | omega)) (pa_cons (pe_ix ix_tup (pv 0) pe_int (fun _ _ => rfl)) (pa_cons (pe_c G_box_of (hr.mono (by first | decide | omega)) (pa_cons (pe_ix ix_tup (pv 0) pe_int (fun _ _ => rfl)) pa_nil)) (pa_cons pe_bl (pa_cons pe_bl pa_nil))))))) pss_nil)
    (pss_cons (ps_if (pt_cmpR op_eq (pv 1) pe_str (nomark _))
      (pss_one (ps_ret (pe_mk I_EightBox (hr.mono (by first | decide | omega)) (pa_cons (pe_ix ix_tup (pv 0) pe_int (fun _ _ => rfl)) (pa_cons (pe_c G_box_of (hr.mono (by first | decide | omega)) (pa_cons (pe_ix ix_tup (pv 0) pe_int (fun _ _ => rfl)) pa_nil)) (pa_cons (pe_c G_box_of (hr.mono (by first | decide | omega)) (pa_cons (pe_ix ix_tup (pv 0) pe_int (fun _ _ => rfl)) pa_nil)) pa_nil)))))) pss_nil)
    (pss_cons (ps_if (pt_cmpR op_eq (pv 1) pe_str (nomark _))
      (pss_one (ps_ret (pe_c G_power_box (hr.mono (by first | decide | omega)) (pa_cons (pe_ix ix_tup (pv 0) pe_int (fun _ _ => rfl)) (pa_cons (pe_ix ix_tup (pv 0) pe_int (fun _ _ => rfl)) pa_nil))))) pss_nil)
    (pss_one (ps_ret (pe_c G_leaf_of (hr.mono (by first | decide | omega)) (pa_cons (pv 0) pa_nil)))))))), ?_⟩
    cases t with
    | leaf f =>
      have fin : Q = Q → sp_leaf_of A K [.ref v] H Q E0 := fun _ => ⟨v, f, rfl, ht, hg, fun a c ch H' hl st ok s na nc ne => k' a [a, c] (.leaf ch) H' ⟨c, rfl, hl, ne⟩ ⟨ch, st, rfl⟩ ok s (fun z hz => by
        simp only [List.mem_cons, List.not_mem_nil, or_false] at hz
        rcases hz with rfl | rfl
        · exact na
        · exact nc)⟩
      cases f with
      | frac t b => exact ⟨_, rfl, v, _, 0, _, rfl, rfl, ht, atI_nat (j := 0) rfl, _, rfl, rfl, _, rfl, iteF ⟨_, rfl, rfl, _, rfl, iteF ⟨_, rfl, rfl, _, rfl, iteF ⟨_, rfl, fin rfl⟩⟩⟩⟩
      | root t s b => exact ⟨_, rfl, v, _, 0, _, rfl, rfl, ht, atI_nat (j := 0) rfl, _, rfl, rfl, _, rfl, iteF ⟨_, rfl, rfl, _, rfl, iteF ⟨_, rfl, rfl, _, rfl, iteF ⟨_, rfl, fin rfl⟩⟩⟩⟩
      | ruled ps ring steps =>
        obtain ⟨p, q, u, hv, h3⟩ := id ht
        exact ⟨_, rfl, v, _, 0, _, rfl, rfl, hv, atI_nat (j := 0) rfl, _, rfl, rfl, _, rfl, iteF ⟨_, rfl, rfl, _, rfl, iteF ⟨_, rfl, rfl, _, rfl, iteF ⟨_, rfl, fin rfl⟩⟩⟩⟩
    | four ns x =>
      obtain ⟨p, tx, hv, hp, hx⟩ := ht
      obtain ⟨hl, ht', hc, gx⟩ := hg
      refine ⟨_, rfl, v, _, 0, _, rfl, rfl, hv, atI_nat (j := 0) rfl, _, rfl, rfl, _, rfl, iteT ⟨_, rfl, v, _, 1, _, rfl, rfl, hv, atI_nat (j := 1) rfl, _, rfl, v, _, 2, _, rfl, rfl, hv, atI_nat (j := 2) rfl, tx, x, rfl, hx, gx, Nat.le_of_succ_le_succ hh, fun bx fx X H1 hbx sX okX s1 nx => ?_⟩⟩
      intro r dr nr nd ne
      refine ⟨r, dr, _, rfl, rfl, upd_same, rfl, ?_⟩
      rw [upd_upd]
      have s2 := made_same (o := .own r) (o' := .ins A.c_FourBox dr (foF p bx false false .non)) nr nd
      have nrx : r ∉ fx := fun z => by
        rcases hbx.soft r z with ⟨_, _, _, q⟩ | ⟨_, q⟩
        · rw [nr] at q; cases q
        · rw [nr] at q; cases q
      refine k' r (r :: fx) (.four ns false false X) _ ⟨dr, p, bx, fx, rfl, upd_same, sqT_same hp (s1.trans s2), hbx.same s2, nrx⟩ ⟨X, sX, rfl⟩ ⟨hl, okX, sX.kind⟩ (s1.trans s2) (fun c hc => ?_)
      rcases List.mem_cons.mp hc with rfl | hc
      · exact s1.free nr
      · exact nx c hc
    | eight ns x y =>
      obtain ⟨p, tx, ty, hv, hp, hx, hy⟩ := ht
      obtain ⟨hl, ht', hc, gx, gy⟩ := hg
      have hm : max x.ht y.ht + 1 ≤ d + 1 := hh
      refine ⟨_, rfl, v, _, 0, _, rfl, rfl, hv, atI_nat (j := 0) rfl, _, rfl, rfl, _, rfl, iteF ⟨_, rfl, rfl, _, rfl, iteT ⟨_, rfl, v, _, 1, _, rfl, rfl, hv, atI_nat (j := 1) rfl, _, rfl, v, _, 2, _, rfl, rfl, hv, atI_nat (j := 2) rfl, tx, x, rfl, hx, gx, by omega, fun bx fx X H1 hbx sX okX s1 nx => ?_⟩⟩⟩
      have hv1 := sqT_same hv s1
      refine ⟨_, rfl, v, _, 3, _, rfl, rfl, hv1, atI_nat (j := 3) rfl, ty, y, rfl, hy.same s1, gy, by omega, fun byy fy Y H2 hby sY okY s2 ny => ?_⟩
      intro r dr nr nd ne
      exact eight_made T hbx hby okX okY sX.kind sY.kind hl s1 s2 nx ny (sqT_same hp (s1.trans s2)) (fun a fp H' hB ok s n' => k' a fp _ H' hB ⟨X, Y, sX, sY, rfl⟩ ok s n') nr nd ne
    | power x n =>
      obtain ⟨tx, hv, hx⟩ := ht
      obtain ⟨h1, h4, gx⟩ := hg
      exact ⟨_, rfl, v, _, 0, _, rfl, rfl, hv, atI_nat (j := 0) rfl, _, rfl, rfl, _, rfl, iteF ⟨_, rfl, rfl, _, rfl, iteF ⟨_, rfl, rfl, _, rfl, iteT ⟨_, rfl, v, _, 1, _, rfl, rfl, hv, atI_nat (j := 1) rfl, _, rfl, v, _, 2, _, rfl, rfl, hv, atI_nat (j := 2) rfl, tx, x, n, rfl, hx, gx, Nat.le_of_succ_le_succ hh, h1, h4, k'⟩⟩⟩⟩
end
/-! ### readings of trees -/
section
variable {P : Program} {w : World} {K : PySem.W.Frag} {mg : Str → Option Value} {base : Heap} {A : Ad}
theorem ok_box_of_0 (T : CT K mg A) (D : DT K mg A) : COk P w K mg base CX0 6 "box_of" ["tree"] (sp_box_of A K 0) := by
  obtain ⟨f, fd, F, a, b, c⟩ := ok_box_of_leaf (P := P) (w := w) (base := base) T D
  refine ⟨f, fd, F.imp fun vs H Q E h => ?_, a, b, c⟩
  obtain ⟨v, t, rfl, ht, hg, hh, k'⟩ := h
  cases t with
  | leaf f => exact ⟨v, f, rfl, ht, hg, fun a c ch H' hl st ok s na nc ne => k' a [a, c] (.leaf ch) H' ⟨c, rfl, hl, ne⟩ ⟨ch, st, rfl⟩ ok s (fun z hz => by
        simp only [List.mem_cons, List.not_mem_nil, or_false] at hz
        rcases hz with rfl | rfl
        · exact na
        · exact nc)⟩
  | four ns x => exact absurd hh (by show ¬ x.ht + 1 ≤ 0; omega)
  | eight ns x y => exact absurd hh (by show ¬ max x.ht y.ht + 1 ≤ 0; omega)
  | power x n => exact absurd hh (by show ¬ x.ht + 1 ≤ 0; omega)
theorem ok_box_of_all (T : CT K mg A) (D : DT K mg A) : ∀ d : Nat, COk P w K mg base CX0 (6 + 5 * d) "box_of" ["tree"] (sp_box_of A K d)
  | 0 => ok_box_of_0 T D
  | d + 1 => (ok_box_of_step T D (by omega) (fun t h => Nat.le_of_lt_succ h) (ok_box_of_all T D d)).mono (by omega)
/-- a reading at r: its box, its meter -/
structure ReadB (A : Ad) (K : PySem.W.Frag) (H : Hp) (r a m : Addr) (fp : List Addr) (B : Box) (l s : Int) : Prop where
  rd : ∃ rx, H r = some (.ins A.c_Reading rx (reF a m))
  bx : BoxAt A K H B a fp
  mt : MeterAt A H m l s
  nr : r ∉ fp
  nm : m ∉ fp
  rm : r ≠ m
  ok : B.Ok
  nk : B.kind ≠ 1
theorem ReadB.kept {H H' : Hp} {r a m : Addr} {fp : List Addr} {B : Box} {l s : Int} {N : Addr → Prop} (R : ReadB A K H r a m fp B l s) (k : ∀ c o, H c = some o → ¬ N c → H' c = some o) (hN : ∀ c o, N c → H c = some o → (∀ ys, o ≠ .tup ys) ∧ ∀ ob u, o ≠ .frz ob u)
    (n1 : ¬ N r) (n2 : ¬ N m) (n3 : ∀ c ∈ fp, ¬ N c) : ReadB A K H' r a m fp B l s := by
  obtain ⟨⟨rx, e⟩, hB, ⟨dm, em⟩, nr, nm, rm, ok, nk⟩ := R
  exact ⟨⟨rx, k _ _ e n1⟩, hB.kept k hN n3, ⟨dm, k _ _ em n2⟩, nr, nm, rm, ok, nk⟩
theorem ReadB.same {H H' : Hp} {r a m : Addr} {fp : List Addr} {B : Box} {l s : Int} (R : ReadB A K H r a m fp B l s) (k : Same H H') : ReadB A K H' r a m fp B l s :=
  R.kept (N := fun _ => False) (fun c o e _ => k c o e) (fun _ _ z => z.elim) (fun z => z) (fun z => z) (fun _ _ z => z)
/-- another list is written -/
theorem ReadB.put {H : Hp} {r a m d : Addr} {fp : List Addr} {B : Box} {l s : Int} {xs ys : List V} (R : ReadB A K H r a m fp B l s) (hd : H d = some (.lst xs)) (nd : d ∉ fp) : ReadB A K (upd H d (.lst ys)) r a m fp B l s := by
  obtain ⟨rx, e⟩ := R.rd
  obtain ⟨dm, em⟩ := R.mt
  refine R.kept (N := fun c => c = d) (fun c o e n => by rw [upd_ne n]; exact e) (fun c o z e => ?_) (fun z => ?_) (fun z => ?_) (fun c hc z => nd (z ▸ hc))
  · subst z
    exact Soft.no (.inr ⟨_, hd⟩) e
  · rw [z, hd] at e; cases e
  · rw [z, hd] at em; cases em
/-- one asking of a reading -/
def sp_partB (A : Ad) (K : PySem.W.Frag) (d : Nat) : Sp := fun vs H Q E => ∃ (r a m : Addr) (fp : List Addr) (B : Box) (l s q : Int) (n : Nat) (o : Option Ans) (B' : Box) (l' : Int), vs = [.ref r, .int q] ∧ ReadB A K H r a m fp B l s ∧ B.wt ≤ d ∧ askF n B q = some (o, B', l') ∧
  ∀ H' fp', ReadB A K H' r a m fp' B' l' (s + (q - l')) → (∀ c z, H c = some z → c ∉ fp → c ≠ m → H' c = some z) → (∀ c ∈ fp', c ∈ fp ∨ H c = none) →
    match o with
    | none => E (.ref A.c_NoValue) none H'
    | some an => ∀ v, an.At A H' v → Q v H'
theorem ok_partB (T : CT K mg A) (D : DT K mg A) (d : Nat) : MOk P w K mg base (L2.CX P w) (6 + d + 1) A.c_Reading "part" ["self", "most"] (sp_partB A K d) := by
  have M_allow := ok_Meter_allow (P := P) (w := w) (base := base) T D
  have M_leaf := ok_ask_leaf (P := P) (w := w) (base := base) T D d
  obtain ⟨M_four, M_eight⟩ := ok_asks (P := P) (w := w) (base := base) T D d
  refine MOk.of T.cl_Reading D.Reading_part fun f fd F => ?_
  refine F.okX (k := 6 + d) sc_Reading_part (fun vs H Q E h => ?_) (fun cdv Ar outer s H vs Q E hr h => ?_)
  · obtain ⟨r, a, m, fp, B, l, s, q, n, o, B', l', rfl, _⟩ := h
    rfl
  · obtain ⟨r, a, m, fp, B, l, sp, q, n, o, B', l', rfl, R, hw, e, k⟩ := h
    refine ⟨_, (pss_cons (ps_expr (pe_m M_allow (hr.mono (by first | decide | omega)) (pe_fld (pv 0) rfl) (pa_cons (pv 1) pa_nil)))
    (pss_one (ps_ret ((pe_alt (pe_m M_leaf (hr.mono (by first | decide | omega)) (pe_fld (pv 0) rfl) (pa_cons (pe_fld (pv 0) rfl) pa_nil)) (pe_alt (pe_mX M_four (hr.mono (by first | decide | omega)) (passes_tk (takes_of rfl rfl rfl rfl)) (pe_fld (pv 0) rfl) (pa_cons (pe_fld (pv 0) rfl) pa_nil)) (pe_mX M_eight (hr.mono (by first | decide | omega)) (passes_tk (takes_of rfl rfl rfl rfl)) (pe_fld (pv 0) rfl) (pa_cons (pe_fld (pv 0) rfl) pa_nil)))))))), ?_⟩
    have cl := T.cl_Reading
    obtain ⟨⟨rx, er⟩, hB, ⟨dm, em⟩, nr, nm, rm, ok, nk⟩ := R
    refine ⟨_, rfl, r, _, rx, _, _, rfl, er, cl, T.n_Reading_meter, rfl, m, dm, _, rfl, em, rfl, _, rfl, m, dm, l, sp, q, rfl, em, ?_⟩
    have fr1 : ∀ c o, H c = some o → ¬ c = m → (upd H m (.ins A.c_Meter dm (meF q sp))) c = some o := fun c o e n => by rw [upd_ne n]; exact e
    have hB1 := hB.kept (N := fun c => c = m) fr1 (fun c o z e => by subst z; rw [em] at e; exact ins_no (Option.some.inj e).symm) (fun c hc z => nm (z ▸ hc))
    have er1 := fr1 _ _ er rm
    refine ask_any (tx := a) (m := m) (fx := fp) (x := B) (l := q) (s := sp) (n := n) (fun R h => ⟨_, rfl, r, _, rx, _, _, rfl, er1, cl, T.n_Reading_box, rfl, h⟩) (fun R h => ⟨_, rfl, r, _, rx, _, _, rfl, er1, cl, T.n_Reading_meter, rfl, h⟩) hB1 ok hw nk ⟨dm, upd_same⟩ nm e fun H4 fp' hB4 hm4 nm4 fr4 sub4 => ?_
    obtain ⟨ok', _, kk'⟩ := askF_ok ok e
    have sub5 : ∀ c ∈ fp', c ∈ fp ∨ H c = none := fun c hc => by
      rcases sub4 c hc with z | z
      · exact .inl z
      · have ncm : c ≠ m := fun q => nm4 (q ▸ hc)
        rw [upd_ne ncm] at z
        exact .inr z
    refine k H4 fp' ⟨⟨rx, fr4 _ _ er1 nr rm⟩, hB4, hm4, fun z => ?_, nm4, rm, ok', by rw [kk']; exact nk⟩ (fun c z e hc hcm => fr4 c z (fr1 c z e hcm) hc hcm) sub5
    rcases sub5 r z with z | z
    · exact nr z
    · rw [er] at z; cases z
theorem ok_tookB (T : CT K mg A) (D : DT K mg A) : MOk P w K mg base CX0 1 A.c_Reading "took" ["self"] (fun vs H Q _ => ∃ r a m fp B l s, vs = [.ref r] ∧ ReadB A K H r a m fp B l s ∧ Q (.int s) H) := by
  obtain ⟨cl, f, fd, F, M, B⟩ := ok_Reading_took (P := P) (w := w) (base := base) T D
  refine ⟨cl, f, fd, F.imp fun vs H Q E h => ?_, M, B⟩
  obtain ⟨r, a, m, fp, B, l, s, rfl, ⟨⟨rx, e⟩, _, ⟨dm, e3⟩, _⟩, q⟩ := h
  exact ⟨r, rx, a, m, dm, l, s, rfl, e, e3, q⟩
end
/-! ### checks of fours, eights and powers -/
section
variable {P : Program} {w : World} {K : PySem.W.Frag} {mg : Str → Option Value} {base : Heap} {A : Ad}
def sp_check_line (K : PySem.W.Frag) : Sp := fun vs H Q _ => ∃ (p : Addr) (ns : List Int), vs = [.ref p] ∧ SqT K H p (ns.map V.int) ∧ (∃ h, ns.length = 2 * h ∧ 0 < h ∧ h ≤ 4) ∧ (∀ z ∈ ns, tame z) ∧ Crossed ns ∧ ∀ H', Same H H' → Q .non H'
theorem ok_check_line (T : CT K mg A) (D : DT K mg A) : COk P w K mg base CX0 2 "check_line" ["numbers"] (sp_check_line K) := by
  have G_require : COk P w K mg base CX0 1 "require" ["holds", "why"] sp_require := ok_require D
  refine COk.by D.check_line fun f fd F => ?_
  refine F.ok sc_check_line (fun vs H Q E h => ?_) (fun cdv Ar outer s H vs Q E hr h => ?_)
  · obtain ⟨p, ns, rfl, _⟩ := h
    rfl
  · obtain ⟨p, ns, rfl, hp, ⟨h, hl, h0, h4⟩, hf, hc, k⟩ := h
    refine ⟨_, (pss_cons (ps_set (i := 1) sc_check_line.nd rfl (Or.inl rfl) (pe_op op_fdiv (pe_callB call_len_seq (by rfl) T.b_len (by decide +kernel) (pa_cons (pv 0) pa_nil)) pe_int))
    (pss_cons (ps_asg (pe_tup (pa_cons (pe_slice sl_tupA (pv 0) po_none (po_some (pv 1))) (pa_cons (pe_slice sl_tupA (pv 0) (po_some (pv 1)) po_none) pa_nil))) (pg_tup rfl (pgs_cons (pg_name (i := 2) sc_check_line.nd rfl (Or.inr rfl)) (pgs_cons (pg_name (i := 3) sc_check_line.nd rfl (Or.inr rfl)) pgs_nil))))
    (pss_cons (ps_setLc2 (i := 4) (own := [("i", 5), ("k", 6)]) (vs1 := [6]) (g := gName 5) (g1 := gName 6) (tt := tYes) (tt1 := tYes) rfl sc_check_line.nd rfl rfl (sw_true rfl rfl rfl (by decide +kernel)) (pi_range1 rfl T.b_range (pa_cons (pv 1) pa_nil)) (blkOk_by (own := [("i", 5), ("k", 6)]) (N := ["numbers", "half", "above", "below", "crossed", "i", "k"]) (sc := defScope s_check_line) (by decide +kernel)) (by decide) (fun _ _ _ _ _ => (pg_name (i := 5) sc_check_line.nd rfl (Or.inl rfl))) (fun _ _ _ _ _ => pts_nil) (fun _ _ _ _ _ => (pi_range1 rfl T.b_range (pa_cons (pv 5) pa_nil))) (fun _ _ _ _ _ => (pg_name (i := 6) sc_check_line.nd rfl (Or.inl rfl))) (fun _ _ _ _ _ => pts_nil) (fun _ _ _ _ _ => (pe_cmpR op_ne (pe_op op_mul (pe_ix (show IxR _ (rIxT K) from ix_tup) (pv 2) (pv 5) (fun _ _ => rfl)) (pe_ix (show IxR _ (rIxT K) from ix_tup) (pv 3) (pv 6) (fun _ _ => rfl))) (pe_op op_mul (pe_ix (show IxR _ (rIxT K) from ix_tup) (pv 2) (pv 6) (fun _ _ => rfl)) (pe_ix (show IxR _ (rIxT K) from ix_tup) (pv 3) (pv 5) (fun _ _ => rfl))) (nomark _))))
    (pss_one (ps_expr (pe_c G_require (hr.mono (by first | decide | omega)) (pa_cons (pe_callB (cr_any rfl) (by rfl) T.b_any (by decide +kernel) (pa_cons (pv 4) pa_nil)) (pa_cons pe_str pa_nil)))))))), ?_⟩
    have e1 : (((ns.map V.int).length : Nat) : Int) / 2 = ((h : Nat) : Int) := by rw [List.length_map, hl]; omega
    have nf : ¬ (HT.sIx (ns.map V.int).length 0 none = 0 ∧ HT.sIx (ns.map V.int).length (ns.map V.int).length (some (h : Int)) = (ns.map V.int).length) := fun z => by
      have := z.2
      rw [HT.sIx_nat, List.length_map] at this
      omega
    have c1 : cutV (ns.map V.int) none (some (h : Int)) = (ns.take h).map V.int := by
      rw [cut_takeB, List.map_take]
    have c2 : cutV (ns.map V.int) (some (h : Int)) none = (ns.drop h).map V.int := by
      rw [cut_dropB, List.map_drop]
    have lt : (ns.take h).length = h := by rw [List.length_take]; omega
    have ld : (ns.drop h).length = h := by rw [List.length_drop]; omega
    refine ⟨_, rfl, p, _, rfl, .inr hp, _, _, rfl, rfl, ⟨by decide, by decide⟩, ?_⟩
    show tSeq _ _ _ [some (V.ref p), some (V.int ((((ns.map V.int).length : Nat) : Int) / 2)), none, none, none, none, none] H
    rw [e1]
    refine ⟨_, rfl, _, rfl, _, rfl, p, _, rfl, hp, fun z => absurd z nf, fun _ u nu => ?_⟩
    have s1 := same_upd (o := .tup (cutV (ns.map V.int) none (some (h : Int)))) nu
    have hu : SqT K (upd H u (.tup (cutV (ns.map V.int) none (some (h : Int))))) u ((ns.take h).map V.int) := by rw [← c1]; exact SqT.of upd_same
    generalize upd H u (.tup (cutV (ns.map V.int) none (some (h : Int)))) = H1 at s1 hu ⊢
    have hp1 := sqT_same hp s1
    refine ⟨_, rfl, _, rfl, _, rfl, p, _, rfl, hp1, fun z => absurd z (not_whole h0 (by rw [List.length_map]; omega)), fun _ v nv => ?_⟩
    have s2 := same_upd (o := .tup (cutV (ns.map V.int) (some (h : Int)) none)) nv
    have hv : SqT K (upd H1 v (.tup (cutV (ns.map V.int) (some (h : Int)) none))) v ((ns.drop h).map V.int) := by rw [← c2]; exact SqT.of upd_same
    generalize upd H1 v (.tup (cutV (ns.map V.int) (some (h : Int)) none)) = H2 at s2 hv ⊢
    have hu2 := sqT_same hu s2
    refine ⟨(by show 2 ≤ sizeLine; decide), fun q3 nq3 => ?_⟩
    have s3 := same_upd (o := .tup [V.ref u, .ref v]) nq3
    refine ⟨q3, _, rfl, SqT.of upd_same, rfl, _, _, rfl, _, _, rfl, rfl, ?_⟩
    have hu3 := sqT_same hu2 s3
    have hv3 := sqT_same hv s3
    generalize upd H2 q3 (.tup [V.ref u, .ref v]) = H3 at s3 hu3 hv3 ⊢
    have gt : ∀ j : Nat, j < h → ((ns.take h).map V.int)[j]? = some (.int (ns.getD j 0)) := fun j hj => by
      rw [List.getElem?_map, List.getElem?_take_of_lt hj, List.getD_eq_getElem?_getD, List.getElem?_eq_getElem (show j < ns.length by omega)]
      rfl
    have gd : ∀ j : Nat, j < h → ((ns.drop h).map V.int)[j]? = some (.int (ns.getD (j + h) 0)) := fun j hj => by
      rw [List.getElem?_map, List.getElem?_drop, List.getD_eq_getElem?_getD, Nat.add_comm h j, List.getElem?_eq_getElem (show j + h < ns.length by omega)]
      rfl
    have tm : ∀ j : Nat, j < ns.length → tame (ns.getD j 0) := fun j hj => hf _ (by
      rw [List.getD_eq_getElem?_getD, List.getElem?_eq_getElem hj]
      exact List.getElem_mem hj)
    have cm : ∀ a b : Int, tame a → CMul a b := fun a b ha => .inl (by
      have : (2 : Int) ^ 64 = 18446744073709551616 := by decide
      obtain ⟨h1, h2⟩ := ha
      omega)
    have hX : ∃ i k : Nat, k < i ∧ i < h ∧ ns.getD i 0 * ns.getD (k + h) 0 ≠ ns.getD k 0 * ns.getD (i + h) 0 := by
      obtain ⟨i, k, h1, h2, h3⟩ := hc
      rw [show ns.length / 2 = h by omega] at h2 h3
      exact ⟨i, k, h1, h2, h3⟩
    have fin : ∀ (D0 : Addr) (bs : List Bool) (H' : Hp), H' D0 = some (.lst (bs.map V.bl)) → Same H3 H' → true ∈ bs → tDrop (tCall sp_require [] E0 (tCons (tCB (rAny K) (tCons (tVar 4) tNil)) (tCons (tC (.str "the numbers above and below the line are told by one another")) tNil))) { nx := fun _ H' => Q .non H', rt := Q } [some (V.ref p), some (V.int h), some (V.ref u), some (V.ref v), some (V.ref D0), none, none] H' := fun D0 bs H' hD s4 hb => by
      refine ⟨_, rfl, D0, bs, rfl, SqL.of hD, _, _, rfl, ?_, k H' (((s1.trans s2).trans s3).trans s4)⟩
      rw [List.any_eq_true]
      exact ⟨true, hb, rfl⟩
    refine ⟨_, rfl, (h : Int), rfl, by omega, by omega, fun D0 nD => ?_⟩
    refine ⟨fun i m H' => m = h - i ∧ i ≤ h ∧ Same H3 H' ∧ ∃ bs : List Bool, H' D0 = some (.lst (bs.map V.bl)) ∧ bs.length ≤ 4 * i ∧ ∀ i' k' : Nat, k' < i' → i' < i → ns.getD i' 0 * ns.getD (k' + h) 0 ≠ ns.getD k' 0 * ns.getD (i' + h) 0 → true ∈ bs,
      ⟨h, by omega, Nat.zero_le _, same_upd nD, [], upd_same, Nat.zero_le _, fun i' k' _ z _ => absurd z (Nat.not_lt_zero _)⟩, ?_⟩
    rintro i m H' ⟨rfl, hi, s4, bs, hD, hb, hall⟩
    by_cases hlt : i < h
    · refine .inr ⟨hlt, fun H'' => i + 1 ≤ h ∧ Same H3 H'' ∧ ∃ bs : List Bool, H'' D0 = some (.lst (bs.map V.bl)) ∧ bs.length ≤ 4 * (i + 1) ∧ ∀ i' k' : Nat, k' < i' → i' < i + 1 → ns.getD i' 0 * ns.getD (k' + h) 0 ≠ ns.getD k' 0 * ns.getD (i' + h) 0 → true ∈ bs,
        fun H'' z => ⟨h - (i + 1), by omega, rfl, z⟩, fun x H'' y => ?_⟩
      obtain ⟨rfl, rfl⟩ := y
      refine ⟨rfl, ?_⟩
      refine ⟨_, rfl, 0 + (i : Int), rfl, by omega, by omega, ?_⟩
      refine ⟨fun j kk H5 => kk = i - j ∧ j ≤ i ∧ Same H3 H5 ∧ ∃ bs : List Bool, H5 D0 = some (.lst (bs.map V.bl)) ∧ bs.length ≤ 4 * i + j ∧ ∀ i' k' : Nat, k' < i' → (i' < i ∨ (i' = i ∧ k' < j)) → ns.getD i' 0 * ns.getD (k' + h) 0 ≠ ns.getD k' 0 * ns.getD (i' + h) 0 → true ∈ bs,
        ⟨i, by omega, Nat.zero_le _, s4, bs, hD, hb, fun i' k' z1 z2 => hall i' k' z1 (by omega)⟩, ?_⟩
      rintro j kk H5 ⟨rfl, hj, s5, bs5, hD5, hb5, hall5⟩
      have hti : (0 + (i : Int)).toNat = i := by omega
      by_cases hjl : j < i
      · refine .inr ⟨(by show j < (0 + (i : Int)).toNat; omega), fun H6 => j + 1 ≤ i ∧ Same H3 H6 ∧ ∃ bs : List Bool, H6 D0 = some (.lst (bs.map V.bl)) ∧ bs.length ≤ 4 * i + (j + 1) ∧ ∀ i' k' : Nat, k' < i' → (i' < i ∨ (i' = i ∧ k' < j + 1)) → ns.getD i' 0 * ns.getD (k' + h) 0 ≠ ns.getD k' 0 * ns.getD (i' + h) 0 → true ∈ bs,
          fun H6 z => ⟨i - (j + 1), by omega, rfl, z⟩, fun x H6 y => ?_⟩
        obtain ⟨rfl, rfl⟩ := y
        refine ⟨rfl, ?_⟩
        have hu5 := sqT_same hu3 s5
        have hv5 := sqT_same hv3 s5
        have zi : ∀ {xs : List V} {n : Nat} {z : V}, xs[n]? = some z → atI xs (0 + (n : Int)) = some z := fun {xs n z} e => by rw [Int.zero_add]; exact atI_nat e
        refine ⟨_, rfl, _, rfl, u, _, _, _, rfl, rfl, hu5, zi (gt i hlt), _, rfl, _, rfl, v, _, _, _, rfl, rfl, hv5, zi (gd j (by omega)), _, _, rfl, rfl, cm _ _ (tm i (by omega)), ?_⟩
        refine ⟨_, rfl, _, rfl, u, _, _, _, rfl, rfl, hu5, zi (gt j (by omega)), _, rfl, _, rfl, v, _, _, _, rfl, rfl, hv5, zi (gd i hlt), _, _, rfl, rfl, cm _ _ (tm j (by omega)), ?_⟩
        refine ⟨rfl, _, hD5, ?_, by omega, ?_, bs5 ++ [!decide (V.int (ns.getD i 0 * ns.getD (j + h) 0) = V.int (ns.getD j 0 * ns.getD (i + h) 0))], ?_, ?_, ?_⟩
        · rw [List.length_map]
          exact Nat.lt_of_le_of_lt hb5 (Nat.lt_of_lt_of_le (show 4 * i + j < 64 by omega) (by decide))
        · intro c o z
          rw [upd_ne (ne_of_none z nD)]
          exact s5 _ _ z
        · rw [upd_same, List.map_append]
          rfl
        · rw [List.length_append]
          show _ + 1 ≤ _
          omega
        · intro i' k' z1 z2 z3
          rw [List.mem_append]
          rcases z2 with z2 | ⟨rfl, z2⟩
          · exact .inl (hall5 i' k' z1 (.inl z2) z3)
          · by_cases hk : k' < j
            · exact .inl (hall5 i' k' z1 (.inr ⟨rfl, hk⟩) z3)
            · have ek : k' = j := by omega
              subst ek
              right
              rw [List.mem_singleton, decide_eq_false (fun q => z3 (V.int.inj q))]
              rfl
      · refine .inl ⟨(by show (0 + (i : Int)).toNat ≤ j; omega), by omega, s5, bs5, hD5, by omega, fun i' k' z1 z2 z3 => hall5 i' k' z1 ?_ z3⟩
        rcases Nat.lt_or_ge i' i with q | q
        · exact .inl q
        · exact .inr ⟨by omega, by omega⟩
    · have ei : i = h := by omega
      obtain ⟨i0, k0, z1, z2, z3⟩ := hX
      exact .inl ⟨(by show ((h : Int)).toNat ≤ i; omega), fin D0 bs H' hD s4 (hall i0 k0 z1 (by omega) z3)⟩
/-- a good tree, not too deep -/
def sp_chk (K : PySem.W.Frag) (N : Nat) : Sp := fun vs H Q _ => ∃ (v : Addr) (t : Tree) (d : Int), vs = [.ref v, .int d] ∧ t.At K H v ∧ t.Good ∧ d + t.ht ≤ 5 ∧ t.ht ≤ N ∧ ∀ H', Same H H' → Q .non H'
def sp_check_four (K : PySem.W.Frag) (N : Nat) : Sp := fun vs H Q _ => ∃ (a p tx : Addr) (ns : List Int) (x : Tree) (d : Int), vs = [.ref a, .int d] ∧ SqT K H a [.str "four", .ref p, .ref tx] ∧ SqT K H p (ns.map V.int) ∧ ns.length = 4 ∧ (∀ z ∈ ns, tame z) ∧ Crossed ns ∧ x.At K H tx ∧ x.Good ∧ d + 1 + x.ht ≤ 5 ∧ x.ht ≤ N ∧ ∀ H', Same H H' → Q .non H'
theorem ok_check_four {k N : Nat} (T : CT K mg A) (D : DT K mg A) (hk : 2 ≤ k) (G_check_at_depth : COk P w K mg base CX0 k "check_at_depth" ["tree", "depth"] (sp_chk K N)) : COk P w K mg base CX0 (k + 1) "check_four" ["tree", "depth"] (sp_check_four K N) := by
  have G_check_row := ok_check_row (P := P) (w := w) (base := base) T D
  have G_check_line := ok_check_line (P := P) (w := w) (base := base) T D
  refine COk.by D.check_four fun f fd F => ?_
  refine F.ok (k := k) sc_check_four (fun vs H Q E h => ?_) (fun cdv Ar outer s H vs Q E hr h => ?_)
  · obtain ⟨a, p, tx, ns, x, d, rfl, _⟩ := h
    rfl
  · obtain ⟨a, p, tx, ns, x, d, rfl, ha, hp, hl, ht, hc, hx, gx, hd, hn, q⟩ := h
    refine ⟨_, (pss_cons (ps_expr (pe_c G_check_row (hr.mono (by first | decide | omega)) (pa_cons (pe_ix ix_tup (pv 0) pe_int (fun _ _ => rfl)) (pa_cons pe_int (pa_cons pe_int pa_nil)))))
    (pss_cons (ps_expr (pe_c G_check_line (hr.mono (by first | decide | omega)) (pa_cons (pe_ix ix_tup (pv 0) pe_int (fun _ _ => rfl)) pa_nil)))
    (pss_one (ps_expr (pe_c G_check_at_depth (hr.mono (by first | decide | omega)) (pa_cons (pe_ix ix_tup (pv 0) pe_int (fun _ _ => rfl)) (pa_cons (pe_op op_add (pv 1) pe_int) pa_nil))))))), ?_⟩
    refine ⟨_, rfl, a, _, 1, _, rfl, rfl, ha, atI_nat (j := 1) rfl, p, ns, 4, 4, rfl, hp, by omega, by omega, ht, ?_⟩
    refine ⟨_, rfl, a, _, 1, _, rfl, rfl, ha, atI_nat (j := 1) rfl, p, ns, rfl, hp, ⟨2, hl, by decide, by decide⟩, ht, hc, fun H1 s1 => ?_⟩
    exact ⟨_, rfl, a, _, 2, _, rfl, rfl, sqT_same ha s1, atI_nat (j := 2) rfl, _, rfl, _, _, rfl, rfl, tx, x, d + 1, rfl, hx.same s1, gx, hd, hn, fun H2 s2 => q H2 (s1.trans s2)⟩
def sp_check_eight (K : PySem.W.Frag) (N : Nat) : Sp := fun vs H Q _ => ∃ (a p tx ty : Addr) (ns : List Int) (x y : Tree) (d : Int), vs = [.ref a, .int d] ∧ SqT K H a [.str "eight", .ref p, .ref tx, .ref ty] ∧ SqT K H p (ns.map V.int) ∧ ns.length = 8 ∧ (∀ z ∈ ns, tame z) ∧ Crossed ns ∧ x.At K H tx ∧ y.At K H ty ∧ x.Good ∧ y.Good ∧ d + 1 + x.ht ≤ 5 ∧ d + 1 + y.ht ≤ 5 ∧ x.ht ≤ N ∧ y.ht ≤ N ∧ ∀ H', Same H H' → Q .non H'
theorem ok_check_eight {k N : Nat} (T : CT K mg A) (D : DT K mg A) (hk : 2 ≤ k) (G_check_at_depth : COk P w K mg base CX0 k "check_at_depth" ["tree", "depth"] (sp_chk K N)) : COk P w K mg base CX0 (k + 1) "check_eight" ["tree", "depth"] (sp_check_eight K N) := by
  have G_check_row := ok_check_row (P := P) (w := w) (base := base) T D
  have G_check_line := ok_check_line (P := P) (w := w) (base := base) T D
  refine COk.by D.check_eight fun f fd F => ?_
  refine F.ok (k := k) sc_check_eight (fun vs H Q E h => ?_) (fun cdv Ar outer s H vs Q E hr h => ?_)
  · obtain ⟨a, p, tx, ty, ns, x, y, d, rfl, _⟩ := h
    rfl
  · obtain ⟨a, p, tx, ty, ns, x, y, d, rfl, ha, hp, hl, ht, hc, hx, hy, gx, gy, hd, hd2, hn, hn2, q⟩ := h
    refine ⟨_, (pss_cons (ps_expr (pe_c G_check_row (hr.mono (by first | decide | omega)) (pa_cons (pe_ix ix_tup (pv 0) pe_int (fun _ _ => rfl)) (pa_cons pe_int (pa_cons pe_int pa_nil)))))
    (pss_cons (ps_expr (pe_c G_check_line (hr.mono (by first | decide | omega)) (pa_cons (pe_ix ix_tup (pv 0) pe_int (fun _ _ => rfl)) pa_nil)))
    (pss_cons (ps_expr (pe_c G_check_at_depth (hr.mono (by first | decide | omega)) (pa_cons (pe_ix ix_tup (pv 0) pe_int (fun _ _ => rfl)) (pa_cons (pe_op op_add (pv 1) pe_int) pa_nil))))
    (pss_one (ps_expr (pe_c G_check_at_depth (hr.mono (by first | decide | omega)) (pa_cons (pe_ix ix_tup (pv 0) pe_int (fun _ _ => rfl)) (pa_cons (pe_op op_add (pv 1) pe_int) pa_nil)))))))), ?_⟩
    refine ⟨_, rfl, a, _, 1, _, rfl, rfl, ha, atI_nat (j := 1) rfl, p, ns, 8, 8, rfl, hp, by omega, by omega, ht, ?_⟩
    refine ⟨_, rfl, a, _, 1, _, rfl, rfl, ha, atI_nat (j := 1) rfl, p, ns, rfl, hp, ⟨4, hl, by decide, by decide⟩, ht, hc, fun H1 s1 => ?_⟩
    refine ⟨_, rfl, a, _, 2, _, rfl, rfl, sqT_same ha s1, atI_nat (j := 2) rfl, _, rfl, _, _, rfl, rfl, tx, x, d + 1, rfl, hx.same s1, gx, hd, hn, fun H2 s2 => ?_⟩
    exact ⟨_, rfl, a, _, 3, _, rfl, rfl, sqT_same ha (s1.trans s2), atI_nat (j := 3) rfl, _, rfl, _, _, rfl, rfl, ty, y, d + 1, rfl, hy.same (s1.trans s2), gy, hd2, hn2, fun H3 s3 => q H3 ((s1.trans s2).trans s3)⟩
def sp_check_power (K : PySem.W.Frag) (N : Nat) : Sp := fun vs H Q _ => ∃ (a tx : Addr) (x : Tree) (n : Nat) (d : Int), vs = [.ref a, .int d] ∧ SqT K H a [.str "power", .ref tx, .int n] ∧ 1 ≤ n ∧ n ≤ 4 ∧ x.At K H tx ∧ x.Good ∧ d + 1 + x.ht ≤ 5 ∧ x.ht ≤ N ∧ ∀ H', Same H H' → Q .non H'
theorem ok_check_power {k N : Nat} (T : CT K mg A) (D : DT K mg A) (hk : 2 ≤ k) (G_check_at_depth : COk P w K mg base CX0 k "check_at_depth" ["tree", "depth"] (sp_chk K N)) : COk P w K mg base CX0 (k + 1) "check_power" ["tree", "depth"] (sp_check_power K N) := by
  have G_check_row := ok_check_row (P := P) (w := w) (base := base) T D
  have G_require : COk P w K mg base CX0 1 "require" ["holds", "why"] sp_require := ok_require D
  obtain ⟨tP, gi_MOST_POWER⟩ := T.i_MOST_POWER
  refine COk.by D.check_power fun f fd F => ?_
  refine F.ok (k := k) sc_check_power (fun vs H Q E h => ?_) (fun cdv Ar outer s H vs Q E hr h => ?_)
  · obtain ⟨a, tx, x, n, d, rfl, _⟩ := h
    rfl
  · obtain ⟨a, tx, x, n, d, rfl, ha, h1, h4, hx, gx, hd, hn, q⟩ := h
    refine ⟨_, (pss_cons (ps_expr (pe_c G_check_row (hr.mono (by first | decide | omega)) (pa_cons (pe_slice sl_tup (pv 0) (po_some pe_int) po_none) (pa_cons pe_int (pa_cons pe_int pa_nil)))))
    (pss_cons (ps_expr (pe_c G_require (hr.mono (by first | decide | omega)) (pa_cons (pe_chain op_le op_le pe_int (pe_ix ix_tup (pv 0) pe_int (fun _ _ => rfl)) (pe_glob (v := .int 4) (by rfl) gi_MOST_POWER ⟨_, rfl⟩)) (pa_cons pe_str pa_nil))))
    (pss_one (ps_expr (pe_c G_check_at_depth (hr.mono (by first | decide | omega)) (pa_cons (pe_ix ix_tup (pv 0) pe_int (fun _ _ => rfl)) (pa_cons (pe_op op_add (pv 1) pe_int) pa_nil))))))), ?_⟩
    refine ⟨_, rfl, _, rfl, a, _, rfl, ha, not_whole (k := 2) (by decide) (by show 2 ≤ 3; decide), fun u nu => ?_⟩
    have s1 := same_upd (o := .tup (cutV [.str "power", .ref tx, .int n] (some 2) none)) nu
    have hu : SqT K (upd H u (.tup (cutV [.str "power", .ref tx, .int n] (some 2) none))) u ([(n : Int)].map V.int) := by
      rw [cutV2]
      exact SqT.of upd_same
    refine ⟨u, [(n : Int)], 1, 1, rfl, hu, Int.le_refl _, Int.le_refl _, fun z hz => ?_, ?_⟩
    · rw [List.mem_singleton] at hz
      subst hz
      exact ⟨by omega, by omega⟩
    have ha1 := sqT_same ha s1
    refine ⟨_, rfl, a, _, 2, _, rfl, rfl, ha1, atI_nat (j := 2) rfl, _, _, rfl, rfl, true, (congrArg V.bl (decide_eq_true (show (1 : Int) ≤ (n : Int) by omega))), iteT ⟨_, _, rfl, rfl, _, _, rfl, decide_eq_true (by omega), ?_⟩⟩
    exact ⟨_, rfl, a, _, 1, _, rfl, rfl, ha1, atI_nat (j := 1) rfl, _, rfl, _, _, rfl, rfl, tx, x, d + 1, rfl, hx.same s1, gx, hd, hn, fun H2 s2 => q H2 (s1.trans s2)⟩
theorem chk_leaf {H : Hp} {Q : VK} {v : Addr} {f : Leaf} {d : Int} {sO sE sP : Sp} (ht : f.At K H v) (hg : f.Good) (hd : d ≤ 5) (q : ∀ H', Same H H' → Q .non H') : sp_check_at K (sp_check_fraction K) (sp_check_root K) (sp_check_ruled K) sO sE sP [.ref v, .int d] H Q E0 := by
  cases f with
  | frac t b => exact ⟨v, "fraction", [.int t, .int b], d, rfl, hd, ht, .inl ⟨rfl, rfl, v, t, b, d, rfl, ht, hg.1, hg.2.1, hg.2.2, fun H' s' => q H' s'⟩⟩
  | root t s b => exact ⟨v, "root", [.int t, .int s, .int b], d, rfl, hd, ht, .inr (.inl ⟨rfl, rfl, v, t, s, b, d, rfl, ht, hg.1, hg.2.1, hg.2.2.1, hg.2.2.2.1, hg.2.2.2.2, fun H' s' => q H' s'⟩)⟩
  | ruled ps ring steps =>
    obtain ⟨p, q', u, hv, hp, hq, hu⟩ := id ht
    exact ⟨v, "ruled", [.ref p, .ref q', .ref u], d, rfl, hd, hv, .inr (.inr (.inl ⟨rfl, rfl, v, p, q', u, ps, ring, steps, d, rfl, hv, hp, hq, hu, hg, fun H' s' => q H' s'⟩))⟩
theorem COk.imp {k : Nat} {x : Str} {ps : List Str} {sp sp' : Sp} (h : COk P w K mg base CX0 k x ps sp) (i : ∀ vs H Q E, sp' vs H Q E → sp vs H Q E) : COk P w K mg base CX0 k x ps sp' := by
  obtain ⟨f, fd, F, a, b, c⟩ := h
  exact ⟨f, fd, F.imp i, a, b, c⟩
theorem ok_chk (T : CT K mg A) (TT : TB K w mg A) (D : DT K mg A) : ∀ N : Nat, COk P w K mg base CX0 (4 + 2 * N) "check_at_depth" ["tree", "depth"] (sp_chk K N)
  | 0 => by
    refine (ok_check_at_depth (P := P) (w := w) (base := base) (k := 3) T TT D (by decide) (ok_check_fraction T D) (ok_check_root T D) (ok_check_ruled T D) (ok_no D.check_four) (ok_no D.check_eight) (ok_no D.check_power)).imp fun vs H Q E h => ?_
    obtain ⟨v, t, d, rfl, ht, hg, hd, hn, q⟩ := h
    cases t with
    | leaf f => exact chk_leaf ht hg (by have : d + 0 ≤ 5 := hd; omega) q
    | four ns x => exact absurd hn (by show ¬ x.ht + 1 ≤ 0; omega)
    | eight ns x y => exact absurd hn (by show ¬ max x.ht y.ht + 1 ≤ 0; omega)
    | power x n => exact absurd hn (by show ¬ x.ht + 1 ≤ 0; omega)
  | N + 1 => by
    have G := ok_chk T TT D N
    refine ((ok_check_at_depth (P := P) (w := w) (base := base) (k := 4 + 2 * N + 1) T TT D (by omega) ((ok_check_fraction T D).mono (by omega)) ((ok_check_root T D).mono (by omega)) ((ok_check_ruled T D).mono (by omega)) (ok_check_four T D (by omega) G) (ok_check_eight T D (by omega) G) (ok_check_power T D (by omega) G)).mono (by omega)).imp fun vs H Q E h => ?_
    obtain ⟨v, t, d, rfl, ht, hg, hd, hn, q⟩ := h
    cases t with
    | leaf f => exact chk_leaf ht hg (by have : d + 0 ≤ 5 := hd; omega) q
    | four ns x =>
      obtain ⟨p, tx, hv, hp, hx⟩ := ht
      obtain ⟨hl, ht', hc, gx⟩ := hg
      have h1 : d + ((x.ht + 1 : Nat) : Int) ≤ 5 := hd
      exact ⟨v, "four", [.ref p, .ref tx], d, rfl, by omega, hv, .inr (.inr (.inr (.inl ⟨rfl, rfl, v, p, tx, ns, x, d, rfl, hv, hp, hl, ht', hc, hx, gx, by omega, Nat.le_of_succ_le_succ hn, q⟩)))⟩
    | eight ns x y =>
      obtain ⟨p, tx, ty, hv, hp, hx, hy⟩ := ht
      obtain ⟨hl, ht', hc, gx, gy⟩ := hg
      have h1 : d + ((max x.ht y.ht + 1 : Nat) : Int) ≤ 5 := hd
      have h2 : max x.ht y.ht + 1 ≤ N + 1 := hn
      exact ⟨v, "eight", [.ref p, .ref tx, .ref ty], d, rfl, by omega, hv, .inr (.inr (.inr (.inr (.inl ⟨rfl, rfl, v, p, tx, ty, ns, x, y, d, rfl, hv, hp, hl, ht', hc, hx, hy, gx, gy, by omega, by omega, by omega, by omega, q⟩))))⟩
    | power x n =>
      obtain ⟨tx, hv, hx⟩ := ht
      obtain ⟨g1, g4, gx⟩ := hg
      have h1 : d + ((x.ht + 1 : Nat) : Int) ≤ 5 := hd
      exact ⟨v, "power", [.ref tx, .int n], d, rfl, by omega, hv, .inr (.inr (.inr (.inr (.inr ⟨rfl, rfl, v, tx, x, n, d, rfl, hv, g1, g4, hx, gx, by omega, Nat.le_of_succ_le_succ hn, q⟩))))⟩
/-- a reader of any good tree, up to five deep -/
def sp_readerB (A : Ad) (K : PySem.W.Frag) : Sp := fun vs H Q _ => ∃ (v : Addr) (t : Tree), vs = [.ref v] ∧ t.At K H v ∧ t.Good ∧ t.ht ≤ 4 ∧
  ∀ r a m fp B H', ReadB A K H' r a m fp B 0 0 → t.Starts B → Same H H' → H r = none → H m = none → (∀ c ∈ fp, H c = none) → Q (.ref r) H'
theorem ok_readerB (T : CT K mg A) (TT : TB K w mg A) (D : DT K mg A) : COk P w K mg base CX0 27 "reader" ["tree"] (sp_readerB A K) := by
  have G_box_of := ok_box_of_all (P := P) (w := w) (base := base) T D 4
  have I_Reading := ok_Reading_init (P := P) (w := w) (base := base) T D
  have G_check_tree := ok_check_tree D (ok_chk (P := P) (w := w) (base := base) T TT D 4)
  refine COk.by D.reader fun f fd F => ?_
  refine F.ok (k := 26) sc_reader (fun vs H Q E h => ?_) (fun cdv Ar outer s H vs Q E hr h => ?_)
  · obtain ⟨v, t, rfl, _⟩ := h
    rfl
  · obtain ⟨v, t, rfl, ht, hg, hh, k⟩ := h
    refine ⟨_, (pss_cons (ps_expr (pe_c G_check_tree (hr.mono (by first | decide | omega)) (pa_cons (pv 0) pa_nil)))
    (pss_one (ps_ret (pe_mk I_Reading (hr.mono (by first | decide | omega)) (pa_cons (pe_c G_box_of (hr.mono (by first | decide | omega)) (pa_cons (pv 0) pa_nil)) pa_nil))))), ?_⟩
    refine ⟨_, rfl, _, rfl, v, t, 1, rfl, ht, hg, by omega, hh, fun H1 s1 => ?_⟩
    refine ⟨_, rfl, v, t, rfl, ht.same s1, hg, hh, fun a fp B H2 hB sB ok s2 nf => ?_⟩
    intro x dx nx nd ne
    refine ⟨x, dx, a, rfl, upd_same, fun m H3 nm hx hm kp => ⟨rfl, ?_⟩⟩
    have s3 : Same H2 H3 := fun b o e => kp b o (by rw [upd_ne (ne_of_none e nx), upd_ne (ne_of_none e nd)]; exact e) (ne_of_none e nx)
    have nm2 : H2 m = none := by
      cases q : H2 m with
      | none => rfl
      | some o =>
        have hmx : m ≠ x := fun z => by rw [z, upd_same] at nm; cases nm
        have hmd : m ≠ dx := fun z => by rw [z, upd_ne ne, upd_same] at nm; cases nm
        rw [upd_ne hmx, upd_ne hmd, q] at nm
        cases nm
    have hxm : x ≠ m := fun z => by rw [← z, upd_same] at nm; cases nm
    have out : ∀ c, H2 c = none → c ∉ fp := fun c e hc => by
      rcases hB.soft c hc with ⟨_, _, _, q⟩ | ⟨_, q⟩
      · rw [e] at q; cases q
      · rw [e] at q; cases q
    exact k x a m fp B H3 ⟨⟨dx, hx⟩, hB.same s3, hm, out x nx, out m nm2, hxm, ok, sB.kind⟩ sB ((s1.trans s2).trans s3) ((s1.trans s2).free nx) ((s1.trans s2).free nm2) (fun c hc => s1.free (nf c hc))
end
/-! ### the sure part, told otherwise -/
theorem fdiv_negs (x y : Int) : (-x).fdiv (-y) = x.fdiv y := Int.neg_fdiv_neg x y
theorem fdiv_bounds {a b : Int} (hb : 0 < b) : a.fdiv b * b ≤ a ∧ a < (a.fdiv b + 1) * b := by
  have h1 := fmod_eq a b
  have h2 := fmod_pos (a := a) hb
  have e : (a.fdiv b + 1) * b = a.fdiv b * b + b := by rw [Int.add_mul, Int.one_mul]
  rw [e]
  generalize a.fdiv b * b = z at *
  omega
theorem fdiv_is {a b q : Int} (hb : 0 < b) (h0 : q * b ≤ a) (h1 : a < (q + 1) * b) : a.fdiv b = q := by
  have e : (q + 1) * b = q * b + b := by rw [Int.add_mul, Int.one_mul]
  rw [e] at h1
  exact (fdiv_unique (q := q) (r := a - q * b) hb (by omega) (by omega) (by omega)).1
/-- all lie from q to q + 1, the first one below q + 1 -/
def Lies (ds : List (Int × Int)) (q : Int) : Prop := (∀ d ∈ ds, 0 < d.2 ∧ q * d.2 ≤ d.1 ∧ d.1 ≤ (q + 1) * d.2) ∧ ∀ d, ds.head? = some d → d.1 < (q + 1) * d.2
def negs (cs : List (Int × Int)) : List (Int × Int) := cs.map fun c => (-c.1, -c.2)
def Sure (cs : List (Int × Int)) (q : Int) : Prop := Lies cs q ∨ Lies (negs cs) q
def coreS (ds : List (Int × Int)) : Option Int :=
  if ds.all (fun d => decide (0 < d.2)) then
    let q := (ds.getD 0 (0, 0)).1.fdiv (ds.getD 0 (0, 0)).2
    if ds.all (fun d => decide (q * d.2 ≤ d.1) && decide (d.1 ≤ (q + 1) * d.2)) then some q else none
  else none
theorem coreS_iff {d0 : Int × Int} {dr : List (Int × Int)} {q : Int} : coreS (d0 :: dr) = some q ↔ Lies (d0 :: dr) q := by
  unfold coreS
  simp only [List.getD_cons_zero]
  constructor
  · intro h
    split at h
    · rename_i hp
      split at h
      · rename_i hq
        cases h
        have p : ∀ d ∈ d0 :: dr, 0 < d.2 := fun d hd => of_decide_eq_true (List.all_eq_true.mp hp d hd)
        refine ⟨fun d hd => ⟨p d hd, ?_⟩, fun d hd => ?_⟩
        · have := List.all_eq_true.mp hq d hd
          rw [Bool.and_eq_true] at this
          exact ⟨of_decide_eq_true this.1, of_decide_eq_true this.2⟩
        · cases hd
          exact (fdiv_bounds (p d0 List.mem_cons_self)).2
      · cases h
    · cases h
  · rintro ⟨h1, h2⟩
    have h0 := h1 d0 List.mem_cons_self
    have e : d0.1.fdiv d0.2 = q := fdiv_is h0.1 h0.2.1 (h2 d0 rfl)
    rw [if_pos (List.all_eq_true.mpr fun d hd => decide_eq_true (h1 d hd).1), e]
    rw [if_pos (List.all_eq_true.mpr fun d hd => by rw [Bool.and_eq_true]; exact ⟨decide_eq_true (h1 d hd).2.1, decide_eq_true (h1 d hd).2.2⟩)]
theorem surePart_core (cs : List (Int × Int)) : surePart cs = coreS (flipped cs) := rfl
theorem sure_iff {cs : List (Int × Int)} {q : Int} (hc : cs ≠ []) : surePart cs = some q ↔ Sure cs q := by
  match cs, hc with
  | c0 :: cr, _ =>
    rw [surePart_core]
    unfold flipped
    rw [List.getD_cons_zero]
    by_cases h : c0.2 < 0
    · rw [if_pos h]
      show coreS ((-c0.1, -c0.2) :: negs cr) = some q ↔ _
      rw [coreS_iff]
      constructor
      · exact fun z => .inr z
      · rintro (z | z)
        · have := (z.1 c0 List.mem_cons_self).1
          omega
        · exact z
    · rw [if_neg h, coreS_iff]
      constructor
      · exact fun z => .inl z
      · rintro (z | z)
        · exact z
        · have := (z.1 (-c0.1, -c0.2) List.mem_cons_self).1
          dsimp only at this
          omega
theorem sure_none {cs : List (Int × Int)} (hc : cs ≠ []) : surePart cs = none ↔ ∀ q, ¬ Sure cs q := by
  constructor
  · intro h q z
    rw [(sure_iff hc).mpr z] at h
    cases h
  · intro h
    cases e : surePart cs with
    | none => rfl
    | some q => exact absurd ((sure_iff hc).mp e) (h q)
theorem chain_scale : ∀ (n : Nat) {k x y : Int}, y.natAbs ≤ n → k ≠ 0 → chain (x * k) (y * k) = chain x y
  | 0, k, x, y, hn, hk => by
    have : y = 0 := by omega
    subst this
    rw [Int.zero_mul, chain_zero, chain_zero]
  | n + 1, k, x, y, hn, hk => by
    by_cases hy : y = 0
    · subst hy
      rw [Int.zero_mul, chain_zero, chain_zero]
    · have hyk : y * k ≠ 0 := Int.mul_ne_zero hy hk
      have ef : (x * k).fdiv (y * k) = x.fdiv y := by
        rcases Int.lt_or_gt_of_ne hk with h | h
        · have z := Int.mul_fdiv_mul_of_pos_left x y (b := -k) (by omega)
          rw [Int.mul_neg, Int.mul_neg, fdiv_negs] at z
          exact z
        · exact Int.mul_fdiv_mul_of_pos_left x y h
      have em : (x * k).fmod (y * k) = x.fmod y * k := by
        rw [← fmod_eq, ef, ← fmod_eq, Int.sub_mul, Int.mul_assoc]
      rw [chain_cons hyk, chain_cons hy, ef, em, chain_scale n (by have := fmod_abs (a := x) hy; omega) hk]
/-! ### how great the numbers of a four and of an eight grow -/
def Bd (k : Nat) (z : Int) : Prop := z.natAbs ≤ 2 ^ k
theorem Bd.mono {k j : Nat} {z : Int} (h : Bd k z) (hk : k ≤ j) : Bd j z := Nat.le_trans h (Nat.pow_le_pow_right (by decide) hk)
theorem Bd.fits {k : Nat} {z : Int} (h : Bd k z) (hk : k < 13000) : fits z := Nat.lt_of_le_of_lt h (Nat.pow_lt_pow_right (by decide) hk)
theorem Bd.sub {k : Nat} {x y : Int} (h : Bd k x) (h' : Bd k y) : Bd (k + 1) (x - y) := by
  unfold Bd at *
  rw [Nat.pow_succ]
  generalize 2 ^ k = z at *
  omega
theorem Bd.add {k : Nat} {x y : Int} (h : Bd k x) (h' : Bd k y) : Bd (k + 1) (x + y) := by
  unfold Bd at *
  rw [Nat.pow_succ]
  generalize 2 ^ k = z at *
  omega
/-- x p + y, where x + ... are bounded: one part taken -/
theorem Bd.take {k e : Nat} {x y p : Int} (hx : Bd k x) (hy : Bd k y) (hp : p.natAbs + 2 ≤ 2 ^ e) : Bd (k + e) (x * (p - 1) + y) ∧ Bd (k + e) (x * p + y) := by
  unfold Bd at *
  have key : ∀ r : Int, r.natAbs + 1 ≤ 2 ^ e → (x * r + y).natAbs ≤ 2 ^ (k + e) := fun r hr => by
    have h1 : (x * r + y).natAbs ≤ (x * r).natAbs + y.natAbs := Int.natAbs_add_le _ _
    rw [Int.natAbs_mul] at h1
    have h2 : x.natAbs * r.natAbs ≤ 2 ^ k * r.natAbs := Nat.mul_le_mul_right _ hx
    have h3 : 2 ^ k * (r.natAbs + 1) ≤ 2 ^ k * 2 ^ e := Nat.mul_le_mul_left _ hr
    rw [Nat.mul_add, Nat.mul_one] at h3
    rw [Nat.pow_add]
    omega
  exact ⟨key _ (by omega), key _ (by omega)⟩
/-- the corners of a four -/
structure Cor (k : Nat) (a b c d : Int) : Prop where
  ha : Bd k a
  hab : Bd k (a + b)
  hc : Bd k c
  hcd : Bd k (c + d)
theorem Cor.fit {k : Nat} {a b c d : Int} (h : Cor k a b c d) (hk : k + 1 < 13000) : allFit [a, b, c, d] (fourCorners [a, b, c, d]) = true := by
  have f : ∀ {z}, Bd k z → decide (Cp.fits z) = true := fun z => decide_eq_true (z.fits (by omega))
  have g : ∀ {z}, Bd (k + 1) z → decide (Cp.fits z) = true := fun z => decide_eq_true (z.fits (by omega))
  have eb : b = a + b - a := by omega
  have ed : d = c + d - c := by omega
  have hb : Bd (k + 1) b := by rw [eb]; exact h.hab.sub h.ha
  have hd : Bd (k + 1) d := by rw [ed]; exact h.hcd.sub h.hc
  show ([a, b, c, d].all (fun z => decide (Cp.fits z)) && [(a, c), (a + b, c + d)].all fun c => decide (Cp.fits c.1) && decide (Cp.fits c.2)) = true
  simp only [List.all_cons, List.all_nil, Bool.and_true, f h.ha, g hb, f h.hc, g hd, f h.hab, f h.hcd]
theorem Cor.take {k e : Nat} {a b c d p : Int} (h : Cor k a b c d) (hp : p.natAbs + 2 ≤ 2 ^ e) : Cor (k + e) (a * p + b) a (c * p + d) c := by
  have e1 : a * p + b = a * (p - 1) + (a + b) := by rw [Int.mul_sub, Int.mul_one]; omega
  have e2 : a * p + b + a = a * p + (a + b) := by omega
  have e3 : c * p + d = c * (p - 1) + (c + d) := by rw [Int.mul_sub, Int.mul_one]; omega
  have e4 : c * p + d + c = c * p + (c + d) := by omega
  exact ⟨e1 ▸ (h.ha.take h.hab hp).1, e2 ▸ (h.ha.take h.hab hp).2, e3 ▸ (h.hc.take h.hcd hp).1, e4 ▸ (h.hc.take h.hcd hp).2⟩
/-- what is left lies from nought to the number below -/
theorem left_abs {x y q : Int} (h : (0 < y ∧ q * y ≤ x ∧ x ≤ (q + 1) * y) ∨ (0 < -y ∧ q * -y ≤ -x ∧ -x ≤ (q + 1) * -y)) : (x - q * y).natAbs ≤ y.natAbs := by
  rcases h with ⟨h0, h1, h2⟩ | ⟨h0, h1, h2⟩
  · rw [Int.add_mul, Int.one_mul] at h2
    generalize q * y = z at *
    omega
  · rw [Int.mul_neg] at h1
    rw [Int.mul_neg, Int.add_mul, Int.one_mul] at h2
    generalize q * y = z at *
    omega
theorem Sure.each {cs : List (Int × Int)} {q : Int} (h : Sure cs q) {x y : Int} (hm : (x, y) ∈ cs) : (0 < y ∧ q * y ≤ x ∧ x ≤ (q + 1) * y) ∨ (0 < -y ∧ q * -y ≤ -x ∧ -x ≤ (q + 1) * -y) := by
  rcases h with h | h
  · exact .inl (h.1 _ hm)
  · exact .inr (h.1 (-x, -y) (List.mem_map.mpr ⟨_, hm, rfl⟩))
theorem Cor.turn {k : Nat} {a b c d q : Int} (h : Cor k a b c d) (hs : Sure [(a, c), (a + b, c + d)] q) : Cor k c d (a - q * c) (b - q * d) := by
  have e1 := left_abs (hs.each (x := a) (y := c) (by simp))
  have e2 := left_abs (hs.each (x := a + b) (y := c + d) (by simp))
  have e3 : a - q * c + (b - q * d) = a + b - q * (c + d) := by rw [Int.mul_add]; omega
  exact ⟨h.hc, h.hcd, Nat.le_trans e1 h.hc, e3 ▸ Nat.le_trans e2 h.hcd⟩
/-- the corners of an eight -/
structure Cor8 (k : Nat) (a b c d e f g h : Int) : Prop where
  ha : Bd k a
  hab : Bd k (a + b)
  hac : Bd k (a + c)
  had : Bd k (a + b + c + d)
  he : Bd k e
  hef : Bd k (e + f)
  heg : Bd k (e + g)
  heh : Bd k (e + f + g + h)
theorem bd_last {k : Nat} {a b c d : Int} (h1 : Bd k a) (h2 : Bd k (a + b)) (h3 : Bd k (a + c)) (h4 : Bd k (a + b + c + d)) : Bd (k + 2) b ∧ Bd (k + 2) c ∧ Bd (k + 2) d := by
  unfold Bd at *
  have e : 2 ^ (k + 2) = 2 ^ k * 4 := by rw [Nat.pow_add]
  rw [e]
  generalize 2 ^ k = z at *
  omega
theorem Cor8.fit {k : Nat} {a b c d e f g h : Int} (H : Cor8 k a b c d e f g h) (hk : k + 2 < 13000) : allFit [a, b, c, d, e, f, g, h] (eightCorners [a, b, c, d, e, f, g, h]) = true := by
  have F : ∀ {z}, Bd k z → decide (Cp.fits z) = true := fun z => decide_eq_true (z.fits (by omega))
  have G : ∀ {z}, Bd (k + 2) z → decide (Cp.fits z) = true := fun z => decide_eq_true (z.fits (by omega))
  obtain ⟨b1, b2, b3⟩ := bd_last H.ha H.hab H.hac H.had
  obtain ⟨b4, b5, b6⟩ := bd_last H.he H.hef H.heg H.heh
  show ([a, b, c, d, e, f, g, h].all (fun z => decide (Cp.fits z)) && [(a, e), (a + b, e + f), (a + c, e + g), (a + b + c + d, e + f + g + h)].all fun c => decide (Cp.fits c.1) && decide (Cp.fits c.2)) = true
  simp only [List.all_cons, List.all_nil, Bool.and_true, F H.ha, F H.he, G b1, G b2, G b3, G b4, G b5, G b6, F H.hab, F H.hac, F H.had, F H.hef, F H.heg, F H.heh]
theorem Cor8.first {k n : Nat} {a b c d e f g h p : Int} (H : Cor8 k a b c d e f g h) (hp : p.natAbs + 2 ≤ 2 ^ n) : Cor8 (k + n) (a * p + c) (b * p + d) a b (e * p + g) (f * p + h) e f := by
  have e1 : ∀ a c : Int, a * p + c = a * (p - 1) + (a + c) := fun a c => by rw [Int.mul_sub, Int.mul_one]; omega
  have e2 : ∀ a b c d : Int, a * p + c + (b * p + d) = (a + b) * (p - 1) + (a + b + c + d) := fun a b c d => by rw [Int.mul_sub, Int.mul_one, Int.add_mul]; omega
  have e3 : ∀ a c : Int, a * p + c + a = a * p + (a + c) := fun a c => by omega
  have e4 : ∀ a b c d : Int, a * p + c + (b * p + d) + a + b = (a + b) * p + (a + b + c + d) := fun a b c d => by rw [Int.add_mul]; omega
  exact ⟨e1 a c ▸ (H.ha.take H.hac hp).1, e2 a b c d ▸ (H.hab.take H.had hp).1, e3 a c ▸ (H.ha.take H.hac hp).2, e4 a b c d ▸ (H.hab.take H.had hp).2,
    e1 e g ▸ (H.he.take H.heg hp).1, e2 e f g h ▸ (H.hef.take H.heh hp).1, e3 e g ▸ (H.he.take H.heg hp).2, e4 e f g h ▸ (H.hef.take H.heh hp).2⟩
theorem Cor8.second {k n : Nat} {a b c d e f g h p : Int} (H : Cor8 k a b c d e f g h) (hp : p.natAbs + 2 ≤ 2 ^ n) : Cor8 (k + n) (a * p + b) a (c * p + d) c (e * p + f) e (g * p + h) g := by
  have e1 : ∀ a c : Int, a * p + c = a * (p - 1) + (a + c) := fun a c => by rw [Int.mul_sub, Int.mul_one]; omega
  have e2 : ∀ a b c d : Int, a * p + b + (c * p + d) = (a + c) * (p - 1) + (a + b + c + d) := fun a b c d => by rw [Int.mul_sub, Int.mul_one, Int.add_mul]; omega
  have e3 : ∀ a c : Int, a * p + c + a = a * p + (a + c) := fun a c => by omega
  have e4 : ∀ a b c d : Int, a * p + b + a + (c * p + d) + c = (a + c) * p + (a + b + c + d) := fun a b c d => by rw [Int.add_mul]; omega
  exact ⟨e1 a b ▸ (H.ha.take H.hab hp).1, e3 a b ▸ (H.ha.take H.hab hp).2, e2 a b c d ▸ (H.hac.take H.had hp).1, e4 a b c d ▸ (H.hac.take H.had hp).2,
    e1 e f ▸ (H.he.take H.hef hp).1, e3 e f ▸ (H.he.take H.hef hp).2, e2 e f g h ▸ (H.heg.take H.heh hp).1, e4 e f g h ▸ (H.heg.take H.heh hp).2⟩
theorem Cor8.turn {k : Nat} {a b c d e f g h q : Int} (H : Cor8 k a b c d e f g h) (hs : Sure [(a, e), (a + b, e + f), (a + c, e + g), (a + b + c + d, e + f + g + h)] q) : Cor8 k e f g h (a - q * e) (b - q * f) (c - q * g) (d - q * h) := by
  have e1 := left_abs (hs.each (x := a) (y := e) (by simp))
  have e2 := left_abs (hs.each (x := a + b) (y := e + f) (by simp))
  have e3 := left_abs (hs.each (x := a + c) (y := e + g) (by simp))
  have e4 := left_abs (hs.each (x := a + b + c + d) (y := e + f + g + h) (by simp))
  have m2 : a - q * e + (b - q * f) = a + b - q * (e + f) := by rw [Int.mul_add]; omega
  have m3 : a - q * e + (c - q * g) = a + c - q * (e + g) := by rw [Int.mul_add]; omega
  have m4 : a - q * e + (b - q * f) + (c - q * g) + (d - q * h) = a + b + c + d - q * (e + f + g + h) := by rw [Int.mul_add, Int.mul_add, Int.mul_add]; omega
  exact ⟨H.he, H.hef, H.heg, H.heh, Nat.le_trans e1 H.he, m2 ▸ Nat.le_trans e2 H.hef, m3 ▸ Nat.le_trans e3 H.heg, m4 ▸ Nat.le_trans e4 H.heh⟩
/-! ### askings, one step at a time -/
theorem upd_at {H : Hp} {p : Addr} {o : HO} (_ : Same H (upd H p o)) : (upd H p o) p = some o := upd_same
theorem turned4 (a b c d q : Int) : turnedOver [a, b, c, d] q = [c, d, a - q * c, b - q * d] := by simp [turnedOver]
theorem turned8 (a b c d e f g h q : Int) : turnedOver [a, b, c, d, e, f, g, h] q = [e, f, g, h, a - q * e, b - q * f, c - q * g, d - q * h] := by simp [turnedOver]
theorem askF_pos {n : Nat} {B : Box} {l : Int} {r : Option Ans × Box × Int} (e : askF n B l = some r) : ∃ m, n = m + 1 := by
  cases n with
  | zero => cases B <;> cases e
  | succ m => exact ⟨m, rfl⟩
theorem askF_leaf (n : Nat) (c : Chain) (l : Int) : askF (n + 1) (.leaf c) l = some (some (c.ans l), .leaf (c.then_ l), l - c.took l) := rfl
/-- what stands ahead of taking -/
abbrev sureF (ns : List Int) (st : Bool) : Option Int := if st = true then surePart (fourCorners ns) else none
section
variable {n : Nat} {ns : List Int} {st told : Bool} {x x' : Box} {l l' q : Int}
theorem askF_four_tell (hf : allFit ns (fourCorners ns) = true) (hs : sureF ns st = some q) : askF (n + 1) (.four ns st told x) l = some (some (.part q), .four (turnedOver ns q) st true x, l) := by
  simp only [askF, if_pos hf, hs]
theorem askF_four_none (hf : allFit ns (fourCorners ns) = true) (hs : sureF ns st = none) (e : askF n x l = some (none, x', l')) : askF (n + 1) (.four ns st told x) l = some (none, .four ns st told x', l') := by
  simp only [askF, if_pos hf, hs, e]
theorem askF_four_waits (hf : allFit ns (fourCorners ns) = true) (hs : sureF ns st = none) (e : askF n x l = some (some .waits, x', l')) : askF (n + 1) (.four ns st told x) l = some (some .waits, .four ns st told x', l') := by
  simp only [askF, if_pos hf, hs, e]
theorem askF_four_fin (hf : allFit ns (fourCorners ns) = true) (hs : sureF ns st = none) (e : askF n x l = some (some .fin, x', l')) : askF (n + 1) (.four ns st told x) l = askF n (.fourR (ns.getD 0 0) (ns.getD 2 0) told) l' := by
  simp only [askF, if_pos hf, hs, e]
theorem askF_four_part (hf : allFit ns (fourCorners ns) = true) (hs : sureF ns st = none) (e : askF n x l = some (some (.part q), x', l')) (hq : fits q) : askF (n + 1) (.four ns st told x) l = askF n (.four (withOne ns q) true told x') l' := by
  simp only [askF, if_pos hf, hs, e, if_pos hq]
end
abbrev sureE (ns : List Int) (i j : Int) : Option Int := if 0 < i ∧ 0 < j then surePart (eightCorners ns) else none
section
variable {n : Nat} {ns : List Int} {i j : Int} {told : Bool} {x x' y y' : Box} {l l' q : Int}
theorem askF_eight_tell (hf : allFit ns (eightCorners ns) = true) (hs : sureE ns i j = some q) : askF (n + 1) (.eight ns i j told x y) l = some (some (.part q), .eight (turnedOver ns q) i j true x y, l) := by
  simp only [askF, if_pos hf, hs]
theorem askF_eight_none0 (hf : allFit ns (eightCorners ns) = true) (hs : sureE ns i j = none) (h : i ≤ j) (e : askF n x l = some (none, x', l')) : askF (n + 1) (.eight ns i j told x y) l = some (none, .eight ns i j told x' y, l') := by
  simp only [askF, if_pos hf, hs, if_pos h, e]
theorem askF_eight_waits0 (hf : allFit ns (eightCorners ns) = true) (hs : sureE ns i j = none) (h : i ≤ j) (e : askF n x l = some (some .waits, x', l')) : askF (n + 1) (.eight ns i j told x y) l = some (some .waits, .eight ns i j told x' y, l') := by
  simp only [askF, if_pos hf, hs, if_pos h, e]
theorem askF_eight_fin0 (hf : allFit ns (eightCorners ns) = true) (hs : sureE ns i j = none) (h : i ≤ j) (e : askF n x l = some (some .fin, x', l')) : askF (n + 1) (.eight ns i j told x y) l = askF n (.eightR (oneBox (leftOf ns 0) told y)) l' := by
  simp only [askF, if_pos hf, hs, if_pos h, e]
theorem askF_eight_part0 (hf : allFit ns (eightCorners ns) = true) (hs : sureE ns i j = none) (h : i ≤ j) (e : askF n x l = some (some (.part q), x', l')) (hq : fits q) : askF (n + 1) (.eight ns i j told x y) l = askF n (.eight (withFirst ns q) (i + 1) j told x' y) l' := by
  simp only [askF, if_pos hf, hs, if_pos h, e, if_pos hq]
theorem askF_eight_none1 (hf : allFit ns (eightCorners ns) = true) (hs : sureE ns i j = none) (h : ¬ i ≤ j) (e : askF n y l = some (none, y', l')) : askF (n + 1) (.eight ns i j told x y) l = some (none, .eight ns i j told x y', l') := by
  simp only [askF, if_pos hf, hs, if_neg h, e]
theorem askF_eight_waits1 (hf : allFit ns (eightCorners ns) = true) (hs : sureE ns i j = none) (h : ¬ i ≤ j) (e : askF n y l = some (some .waits, y', l')) : askF (n + 1) (.eight ns i j told x y) l = some (some .waits, .eight ns i j told x y', l') := by
  simp only [askF, if_pos hf, hs, if_neg h, e]
theorem askF_eight_fin1 (hf : allFit ns (eightCorners ns) = true) (hs : sureE ns i j = none) (h : ¬ i ≤ j) (e : askF n y l = some (some .fin, y', l')) : askF (n + 1) (.eight ns i j told x y) l = askF n (.eightR (oneBox (leftOf ns 1) told x)) l' := by
  simp only [askF, if_pos hf, hs, if_neg h, e]
theorem askF_eight_part1 (hf : allFit ns (eightCorners ns) = true) (hs : sureE ns i j = none) (h : ¬ i ≤ j) (e : askF n y l = some (some (.part q), y', l')) (hq : fits q) : askF (n + 1) (.eight ns i j told x y) l = askF n (.eight (withSecond ns q) i (j + 1) told x y') l' := by
  simp only [askF, if_pos hf, hs, if_neg h, e, if_pos hq]
end
theorem askF_rest {n : Nat} {r r' : Box} {l l' : Int} {o : Option Ans} (e : askF n r l = some (o, r', l')) : askF (n + 1) (.eightR r) l = some (o, .eightR r', l') := by
  simp only [askF, e, Option.map_some]
theorem ans_end {n : Nat} {c : Chain} (h : c.ended = true) (l : Int) : askF (n + 1) (.leaf c) l = some (some .fin, .leaf c, l) := by
  have e1 : c.ans l = .fin := by unfold Chain.ans; rw [if_pos h]
  have e2 : c.then_ l = c := by unfold Chain.then_; rw [if_pos h]
  have e3 : c.took l = 0 := by unfold Chain.took; rw [if_pos h]
  rw [askF_leaf, e1, e2, e3, Int.sub_zero]
theorem ans_waits {n : Nat} {c : Chain} (h : c.ended = false) {l : Int} (hl : l < 1) : askF (n + 1) (.leaf c) l = some (some .waits, .leaf c, l) := by
  have e1 : c.ans l = .waits := by unfold Chain.ans; rw [h, if_neg (by decide), if_pos hl]
  have e2 : c.then_ l = c := by unfold Chain.then_; rw [h, if_neg (by decide), if_pos hl]
  have e3 : c.took l = 0 := by unfold Chain.took; rw [h, if_neg (by decide), if_pos hl]
  rw [askF_leaf, e1, e2, e3, Int.sub_zero]
theorem ans_part {n : Nat} {c : Chain} (h : c.ended = false) {l : Int} (hl : ¬ l < 1) : askF (n + 1) (.leaf c) l = some (some (.part c.part), .leaf c.next, l - 1) := by
  have e1 : c.ans l = .part c.part := by unfold Chain.ans; rw [h, if_neg (by decide), if_neg hl]
  have e2 : c.then_ l = c.next := by unfold Chain.then_; rw [h, if_neg (by decide), if_neg hl]
  have e3 : c.took l = 1 := by unfold Chain.took; rw [h, if_neg (by decide), if_neg hl]
  rw [askF_leaf, e1, e2, e3]
/-! ### the sure part as the laws reckon it -/
theorem lies_of {cs : List (Int × Int)} {m : Int} (hp : ∀ c ∈ cs, 0 < c.2) (hall : ∀ c ∈ cs, m ≤ c.1.fdiv c.2) (h1 : ∀ c ∈ cs, (c.1 - m * c.2).natAbs ≤ c.2.natAbs) (h2 : ∀ c, cs.head? = some c → c.1 ≠ (m + 1) * c.2) : Lies cs m := by
  have key : ∀ c ∈ cs, m * c.2 ≤ c.1 ∧ c.1 ≤ (m + 1) * c.2 := fun c hc => by
    have p := hp c hc
    have b := (fdiv_bounds (a := c.1) p).1
    have a := Int.mul_le_mul_of_nonneg_right (hall c hc) (Int.le_of_lt p)
    have z := h1 c hc
    rw [Int.add_mul, Int.one_mul]
    generalize m * c.2 = y at *
    omega
  refine ⟨fun c hc => ⟨hp c hc, key c hc⟩, fun c hc => ?_⟩
  have hm : c ∈ cs := List.mem_of_mem_head? hc
  have := (key c hm).2
  have := h2 c hc
  omega
theorem lies_is {cs : List (Int × Int)} {m q : Int} (hL : Lies cs q) (hc : cs ≠ []) (hm : ∃ c ∈ cs, c.1.fdiv c.2 = m) (hall : ∀ c ∈ cs, m ≤ c.1.fdiv c.2) : q = m := by
  match cs, hc with
  | c0 :: cr, _ =>
    have h0 := hL.1 c0 List.mem_cons_self
    have e0 : c0.1.fdiv c0.2 = q := fdiv_is h0.1 h0.2.1 (hL.2 c0 rfl)
    have a := hall c0 List.mem_cons_self
    obtain ⟨c, hc, e⟩ := hm
    have h1 := hL.1 c hc
    have b := fdiv_bounds (a := c.1) h1.1
    have : q ≤ c.1.fdiv c.2 := by
      rcases Int.lt_or_le (c.1.fdiv c.2) q with z | z
      · have y : (c.1.fdiv c.2 + 1) * c.2 ≤ q * c.2 := Int.mul_le_mul_of_nonneg_right (by omega) (Int.le_of_lt h1.1)
        have := h1.2.1
        omega
      · exact z
    omega
theorem negs_all {cs : List (Int × Int)} {p : Int × Int → Prop} (h : ∀ c ∈ cs, p (-c.1, -c.2)) : ∀ c ∈ negs cs, p c := fun c hc => by
  obtain ⟨d, hd, rfl⟩ := List.mem_map.mp hc
  exact h d hd
theorem sure_law {cs : List (Int × Int)} {m : Int} (hc : cs ≠ []) (hs : (∀ c ∈ cs, 0 < c.2) ∨ ∀ c ∈ cs, c.2 < 0) (hm : ∃ c ∈ cs, c.1.fdiv c.2 = m) (hall : ∀ c ∈ cs, m ≤ c.1.fdiv c.2) :
    (((∀ c ∈ cs, (c.1 - m * c.2).natAbs ≤ c.2.natAbs) ∧ (∀ c, cs.head? = some c → c.1 ≠ (m + 1) * c.2)) → surePart cs = some m) ∧
    (((∃ c ∈ cs, ¬ (c.1 - m * c.2).natAbs ≤ c.2.natAbs) ∨ (∃ c, cs.head? = some c ∧ c.1 = (m + 1) * c.2)) → surePart cs = none) := by
  have hn : negs cs ≠ [] := by cases cs with
    | nil => exact absurd rfl hc
    | cons c r => intro z; cases z
  have nm : ∃ c ∈ negs cs, c.1.fdiv c.2 = m := by
    obtain ⟨c, h, e⟩ := hm
    exact ⟨(-c.1, -c.2), List.mem_map.mpr ⟨c, h, rfl⟩, by rw [fdiv_negs]; exact e⟩
  have nall : ∀ c ∈ negs cs, m ≤ c.1.fdiv c.2 := negs_all fun c h => by rw [fdiv_negs]; exact hall c h
  refine ⟨fun ⟨h1, h2⟩ => ?_, fun h => (sure_none hc).mpr fun q hq => ?_⟩
  · refine (sure_iff hc).mpr ?_
    rcases hs with hs | hs
    · exact .inl (lies_of hs hall h1 h2)
    · refine .inr (lies_of (negs_all fun c h => by have := hs c h; omega) nall (negs_all fun c h => ?_) fun c h => ?_)
      · have := h1 c h
        show (-c.1 - m * -c.2).natAbs ≤ (-c.2).natAbs
        rw [Int.mul_neg]
        generalize m * c.2 = y at *
        omega
      · unfold negs at h
        rw [List.head?_map] at h
        obtain ⟨d, hd, rfl⟩ := Option.map_eq_some_iff.mp h
        have := h2 d hd
        show -d.1 ≠ (m + 1) * -d.2
        rw [Int.mul_neg]
        omega
  · rcases hq with hL | hL
    · have e := lies_is hL hc hm hall
      subst e
      rcases h with ⟨c, h, z⟩ | ⟨c, h, z⟩
      · exact z (left_abs (.inl (hL.1 c h)))
      · have := hL.2 c h
        omega
    · have e := lies_is hL hn nm nall
      subst e
      rcases h with ⟨c, h, z⟩ | ⟨c, h, z⟩
      · exact z (left_abs (.inr (hL.1 (-c.1, -c.2) (List.mem_map.mpr ⟨c, h, rfl⟩))))
      · have := hL.2 (-c.1, -c.2) (by unfold negs; rw [List.head?_map, h]; rfl)
        dsimp only at this
        rw [Int.mul_neg] at this
        omega
theorem sure_mixed {cs : List (Int × Int)} (hc : cs ≠ []) (h1 : ∃ c ∈ cs, c.2 ≤ 0) (h2 : ∃ c ∈ cs, 0 ≤ c.2) : surePart cs = none := by
  refine (sure_none hc).mpr fun q hq => ?_
  obtain ⟨c, hc1, z1⟩ := h1
  obtain ⟨d, hd1, z2⟩ := h2
  rcases hq with h | h
  · have := (h.1 c hc1).1
    omega
  · have := (h.1 (-d.1, -d.2) (List.mem_map.mpr ⟨d, hd1, rfl⟩)).1
    dsimp only at this
    omega
/-! ### telling on and on ends -/
/-- a measure of what is left of the first corner -/
def leftM (a e : Int) : Nat := if (0 < e ∧ e ≤ a) ∨ (e < 0 ∧ a ≤ e) then a.natAbs + e.natAbs else 2 * e.natAbs + a.natAbs + 1
theorem leftM_tell {a e q : Int} (h : (0 < e ∧ q * e ≤ a ∧ a < (q + 1) * e) ∨ (0 < -e ∧ q * -e ≤ -a ∧ -a < (q + 1) * -e)) {q2 : Int} (h2 : (0 < a - q * e ∧ q2 * (a - q * e) ≤ e) ∨ (0 < -(a - q * e) ∧ q2 * -(a - q * e) ≤ -e)) : leftM e (a - q * e) < leftM a e := by
  have hr : (0 < e ∧ 0 ≤ a - q * e ∧ a - q * e < e) ∨ (e < 0 ∧ a - q * e ≤ 0 ∧ e < a - q * e) := by
    rcases h with ⟨p, h1, h2⟩ | ⟨p, h1, h2⟩
    · rw [Int.add_mul, Int.one_mul] at h2
      exact .inl ⟨p, by omega, by omega⟩
    · rw [Int.mul_neg] at h1 h2
      rw [Int.add_mul, Int.one_mul] at h2
      exact .inr ⟨by omega, by omega, by omega⟩
  have hnz : a - q * e ≠ 0 := by rcases h2 with h2 | h2 <;> omega
  have e1 : leftM e (a - q * e) = e.natAbs + (a - q * e).natAbs := by
    unfold leftM
    rw [if_pos (by omega)]
  rw [e1]
  unfold leftM
  split
  · rename_i hc
    have hq : 1 ≤ q := by
      rcases Int.lt_or_le q 1 with z | z
      · exfalso
        rcases h with ⟨p, h1, h2⟩ | ⟨p, h1, h2⟩
        · have y : (q + 1) * e ≤ 1 * e := Int.mul_le_mul_of_nonneg_right (by omega) (Int.le_of_lt p)
          omega
        · have y : (q + 1) * -e ≤ 1 * -e := Int.mul_le_mul_of_nonneg_right (by omega) (Int.le_of_lt p)
          omega
      · exact z
    have y : ∀ {x : Int}, 0 < x → x ≤ q * x := fun {x} hx => by
      have := Int.mul_le_mul_of_nonneg_right hq (Int.le_of_lt hx)
      omega
    rcases h with ⟨p, h1, h2⟩ | ⟨p, h1, h2⟩
    · have := y p
      generalize q * e = z at *
      omega
    · have := y p
      rw [Int.mul_neg] at this h1
      generalize q * e = z at *
      omega
  · generalize q * e = z at *
    omega
/-! ### what a box's reading tells is what is due -/
theorem passX0 {X : Cx} : Passes (L2.CX X.prog X.w) X E0 := fun _ _ _ _ _ _ _ h => by
  obtain ⟨_, _, _, _, _, _, _, _, _, _, _, _, hE⟩ := h
  exact hE.elim
theorem while_nat {c : TT} {tb : TS} {D : Ends} {σ : St} {H : Hp} (Pv : Nat → St → Hp → Prop) {m0 : Nat} (h0 : Pv m0 σ H)
    (hs : ∀ m σ H, Pv m σ H → c σ H fun b H1 => if b = true then tb { D with nx := fun σ' H' => ∃ m', m' < m ∧ Pv m' σ' H', ct := fun σ' H' => ∃ m', m' < m ∧ Pv m' σ' H', bk := D.nx } σ H1 else D.nx σ H1)
    (mono : ∀ σ H Q Q', (∀ b H1, Q b H1 → Q' b H1) → c σ H Q → c σ H Q') : tWhile c tb D σ H := by
  refine ⟨Pv, ⟨_, h0⟩, ?_⟩
  intro m σ H p
  refine mono σ H _ _ (fun b H1 q => ?_) (hs m σ H p)
  cases b with
  | true => exact ⟨_, fun σ' H' z => z, q⟩
  | false => exact q
section
variable {P : Program} {w : World} {K : PySem.W.Frag} {mg : Str → Option Value} {base : Heap} {A : Ad}
/-- what a reading changes is no tuple -/
theorem sqT_frame {H H' : Hp} {b m : Addr} {fp : List Addr} {xs : List V} (h : SqT K H b xs) (hf : ∀ c ∈ fp, Soft H c) (hm : ∃ C dx fs, H m = some (.ins C dx fs)) (k : ∀ c z, H c = some z → c ∉ fp → c ≠ m → H' c = some z) : SqT K H' b xs :=
  sqT_but (N := fun z => z ∈ fp ∨ z = m) h (fun b o e n => k b o e (fun z => n (.inl z)) fun z => n (.inr z)) fun b o e z => by
    rcases e with e | rfl
    · exact (hf b e).no z
    · obtain ⟨C, dx, fs, e⟩ := hm; rw [e] at z; exact ins_no (Option.some.inj z).symm
end
/-! ### drawn ruled chains, and their parts turn by turn -/
/-- all but the object at r stays -/
def Kp (r : Addr) (H H' : Hp) : Prop := ∀ b o, H b = some o → b ≠ r → H' b = some o
theorem Kp.trans {r : Addr} {H H1 H2 : Hp} (a : Kp r H H1) (b : Kp r H1 H2) : Kp r H H2 := fun c o e n => b c o (a c o e n) n
theorem Kp.same {r : Addr} {H H' : Hp} (s : Same H H') : Kp r H H' := fun c o e _ => s c o e
/-- a list that grows in a comprehension, new over H0 -/
theorem Kp.put {r d : Addr} {H0 H H' : Hp} {o : HO} (k : Kp r H0 H) (nd : H0 d = none) (e : H' = upd H d o) : Kp r H0 H' := fun c u z n => by
  rw [e, upd_ne (ne_of_none z nd)]
  exact k c u z n
theorem ixN_last' {n : Nat} (h : 0 < n) : ixN n (-1) = some (n - 1) := by
  unfold ixN
  rw [if_neg (by decide), if_pos (by omega)]
  congr 1
  omega
theorem menu36 {v : Int} (h0 : 0 ≤ v) (h1 : v < 2) : ∃ m : Int, atI [V.int 3, .int 60] v = some (.int m) ∧ 0 < m ∧ m ≤ 60 := by
  obtain e | e : v = 0 ∨ v = 1 := by omega
  all_goals subst e
  · exact ⟨3, rfl, by decide, by decide⟩
  · exact ⟨60, rfl, by decide, by decide⟩
section
variable {P : Program} {w : World} {K : PySem.W.Frag} {mg : Str → Option Value} {base : Heap} {A : Ad}
/-- a drawn ruled chain: all that the laws need of it -/
structure DrawnR (ps ring steps : List Int) : Prop extends RuledGood ps ring steps where
  f9 : ∀ z ∈ ps, -9 ≤ z ∧ z ≤ 60
  r5 : ∀ z ∈ ring, 1 ≤ z ∧ z ≤ 5
  s4 : ∀ z ∈ steps, 0 ≤ z ∧ z ≤ 4
def sp_law_ruled (K : PySem.W.Frag) : Sp := fun vs H Q _ => ∃ (r a : Addr) (ns : List Int), vs = [.ref r] ∧ RowAt K H r a ns ∧
  ∀ v ps ring steps H', Leaf.At K H' v (.ruled ps ring steps) → DrawnR ps ring steps → RowAt K H' r a ns → Kp r H H' → Q (.ref v) H'
theorem ok_law_ruled (T : CT K mg A) (D : DT K mg A) (G_law_taken : COk P w K mg base CX0 1 "_law_taken" ["_law_row_here", "_law_many"] (sp_law_taken K)) (G_law_signed : COk P w K mg base CX0 2 "_law_signed" ["_law_row_here", "_law_most"] (sp_law_signed K)) :
    COk P w K mg base CX0 3 "_law_ruled" ["_law_row_here"] (sp_law_ruled K) := by
  refine COk.by D.law_ruled fun f fd F => ?_
  refine F.ok sc_law_ruled (fun vs H Q E h => ?_) (fun cdv Ar outer s H vs Q E hr h => ?_)
  · obtain ⟨r, a, ns, rfl, _⟩ := h
    rfl
  · obtain ⟨r, a, ns, rfl, R, k⟩ := h
    refine ⟨_, (pss_cons (ps_set (i := 1) sc_law_ruled.nd rfl (Or.inl rfl) (pe_c G_law_taken (hr.mono (by first | decide | omega)) (pa_cons (pv 0) (pa_cons pe_int pa_nil))))
    (C8.pss_cut (ps_set (i := 1) sc_law_ruled.nd rfl (Or.inl rfl) (pe_ifExp (pt_cmpR op_lt (pv 1) pe_int (nomark _)) (pe_op op_add pe_int (pe_op op_mod (pv 1) pe_int)) (pe_op op_sub (pv 1) pe_int)))
    (pss_cons (ps_set (i := 2) sc_law_ruled.nd rfl (Or.inl rfl) (pe_op op_cat (pe_lst (pa_cons (pe_c G_law_signed (hr.mono (by first | decide | omega)) (pa_cons (pv 0) (pa_cons pe_int pa_nil))) pa_nil)) (pe_lc (own := [("_law_k", 3)]) (g := gName 3) (tt := tYes) rfl sc_law_ruled.nd (pi_range1 rfl T.b_range (pa_cons (pe_op op_sub (pv 1) pe_int) pa_nil)) (blkOk_by (own := [("_law_k", 3)]) (N := ["_law_row_here", "_law_many", "_law_parts", "_law_k", "_law_size", "_law_ring", "_law_steps"]) (sc := defScope s_law_ruled) (by decide +kernel)) (fun _ _ _ _ _ => (pg_name (i := 3) sc_law_ruled.nd rfl (Or.inl rfl))) (fun _ _ _ _ _ => pts_nil) (fun _ _ _ _ _ => (pe_op op_add pe_int (pe_c G_law_taken (hr.mono (by first | decide | omega)) (pa_cons (pv 0) (pa_cons (pe_ix (show IxR _ (rIxL K) from ix_list) (pe_lst (pa_cons pe_int (pa_cons pe_int pa_nil))) (pe_op op_mod (pv 3) pe_int) (fun _ _ => rfl)) pa_nil))))))))
    (pss_cons (ps_set (i := 4) sc_law_ruled.nd rfl (Or.inl rfl) (pe_c G_law_taken (hr.mono (by first | decide | omega)) (pa_cons (pv 0) (pa_cons pe_int pa_nil))))
    (C8.pss_cut (ps_set (i := 4) sc_law_ruled.nd rfl (Or.inl rfl) (pe_ifExp (pt_cmpR op_lt (pv 4) pe_int (nomark _)) (pe_op op_mod (pv 4) pe_int) (pe_op op_sub (pv 4) pe_int)))
    (pss_cons (ps_setLc (i := 5) (own := [("_law_k", 3)]) (g := gName 3) (tt := tYes) rfl sc_law_ruled.nd rfl rfl (sw_true rfl rfl rfl (by decide +kernel)) (pi_range1 rfl T.b_range (pa_cons (pv 4) pa_nil)) (blkOk_by (own := [("_law_k", 3)]) (N := ["_law_row_here", "_law_many", "_law_parts", "_law_k", "_law_size", "_law_ring", "_law_steps"]) (sc := defScope s_law_ruled) (by decide +kernel)) (fun _ _ _ _ _ => (pg_name (i := 3) sc_law_ruled.nd rfl (Or.inl rfl))) (fun _ _ _ _ _ => pts_nil) (fun _ _ _ _ _ => (pe_op op_add pe_int (pe_c G_law_taken (hr.mono (by first | decide | omega)) (pa_cons (pv 0) (pa_cons pe_int pa_nil))))))
    (pss_cons (ps_setLc (i := 6) (own := [("_law_k", 3)]) (g := gName 3) (tt := tYes) rfl sc_law_ruled.nd rfl rfl (sw_true rfl rfl rfl (by decide +kernel)) (pi_range1 rfl T.b_range (pa_cons (pv 4) pa_nil)) (blkOk_by (own := [("_law_k", 3)]) (N := ["_law_row_here", "_law_many", "_law_parts", "_law_k", "_law_size", "_law_ring", "_law_steps"]) (sc := defScope s_law_ruled) (by decide +kernel)) (fun _ _ _ _ _ => (pg_name (i := 3) sc_law_ruled.nd rfl (Or.inl rfl))) (fun _ _ _ _ _ => pts_nil) (fun _ _ _ _ _ => (pe_op op_mul (pe_c G_law_taken (hr.mono (by first | decide | omega)) (pa_cons (pv 0) (pa_cons pe_int pa_nil))) (pe_c G_law_taken (hr.mono (by first | decide | omega)) (pa_cons (pv 0) (pa_cons pe_int pa_nil))))))
    (C8.pss_cut (ps_if (PW.pt (pw_and (pt_cmpR op_eq (pv 4) pe_int (nomark _)) (pw_and (pt_cmpR op_gt (pv 1) pe_int (nomark _)) (pw_and1 (pt_cmpR op_eq (pe_ix ix_list (pv 2) (pe_un un_neg pe_int) (fun _ _ => rfl)) pe_int (nomark _))))))
      (pss_one (ps_asg pe_int (pg_sub (pv 2) (pe_un un_neg pe_int) set_list))) pss_nil)
    (pss_one (ps_ret (pe_tup (pa_cons pe_str (pa_cons (pe_callTy call_tuple_of (by rfl) T.b_tuple (by decide +kernel) (pa_cons (pv 2) pa_nil)) (pa_cons (pe_callTy call_tuple_of (by rfl) T.b_tuple (by decide +kernel) (pa_cons (pv 5) pa_nil)) (pa_cons (pe_callTy call_tuple_of (by rfl) T.b_tuple (by decide +kernel) (pa_cons (pv 6) pa_nil)) pa_nil))))))))))))))), ?_⟩
    have wd : ∀ z : Int, z ≤ 1000 → z < 2 ^ 8000 := fun z hz => Int.lt_of_le_of_lt hz (by decide +kernel)
    refine ⟨_, rfl, r, a, ns, _, rfl, R, by decide, wd _ (by decide), fun m0 H1 m1 m2 R1 kp1 => ?_⟩
    -- how many
    refine ⟨fun σ H' => ∃ many : Int, 1 ≤ many ∧ many ≤ 12 ∧ σ = [some (V.ref r), some (V.int many), none, none, none, none, none] ∧ H' = H1, ?_, ?_⟩
    · refine ⟨_, rfl, _, _, rfl, rfl, _, rfl, ite2 (fun c => ?_) (fun c => ?_)⟩
      · have c' : m0 < 50 := of_decide_eq_true c
        exact ⟨_, rfl, _, _, rfl, rfl, (by show (0 : Int) < 5; decide), _, _, rfl, rfl, _, (by omega), (by omega), rfl, rfl⟩
      · have c' : ¬ m0 < 50 := fun z => c (decide_eq_true z)
        exact ⟨_, rfl, _, _, rfl, rfl, _, (by omega), (by omega), rfl, rfl⟩
    rintro σ H1' ⟨many, hm1, hm2, rfl, rfl⟩
    -- the first parts
    refine ⟨_, rfl, r, a, ns, _, rfl, R1, by decide, by decide, fun first H2 f0 f1 R2 kp2 => ?_⟩
    refine ⟨(by show 1 ≤ sizeLine; decide), fun l nl => ?_⟩
    have R3 := R2.same (same_upd (o := .lst [V.int first]) nl)
    have kp3 : Kp r H2 (upd H2 l (.lst [V.int first])) := .same (same_upd nl)
    have hl3 : (upd H2 l (.lst [V.int first])) l = some (.lst [V.int first]) := upd_same
    have nlr : l ≠ r := by
      obtain ⟨x, xs, e⟩ := R2.at_
      exact (ne_of_none e nl).symm
    have kp13 : Kp r H (upd H2 l (.lst [V.int first])) := (show Kp r H H1' from kp1).trans ((show Kp r H1' H2 from kp2).trans kp3)
    generalize upd H2 l (.lst [V.int first]) = H3 at *
    refine ⟨_, rfl, _, _, rfl, rfl, many - 1, rfl, by omega, by omega, fun D0 nD => lc_range (lo := 0) (n := (many - 1).toNat) (fun i H' => ∃ zs : List Int, H' D0 = some (.lst (zs.map V.int)) ∧ zs.length = i ∧ (∀ z ∈ zs, 1 ≤ z ∧ z ≤ 60) ∧ RowAt K H' r a ns ∧ Kp r H3 H') ?_ ?_ ?_⟩
    · exact ⟨[], upd_same, rfl, (fun z hz => by cases hz), R3.same (same_upd nD), .same (same_upd nD)⟩
    · rintro i H' hi ⟨zs, hD, hz1, hz2, R', k'⟩
      have nDr : D0 ≠ r := by
        obtain ⟨x, xs, e⟩ := R'.at_
        exact ne_of hD e (by intro z; exact ref_ne zs (HO.lst.inj z).symm)
      refine ⟨rfl, _, rfl, (by show 2 ≤ sizeLine; decide), fun q nq => ?_⟩
      have m0' : 0 ≤ (0 + (i : Int)) % 2 := Int.emod_nonneg _ (by decide)
      have m1' : (0 + (i : Int)) % 2 < 2 := Int.emod_lt_of_pos _ (by decide)
      obtain ⟨mm, em, mm0, mm1⟩ := menu36 m0' m1'
      refine ⟨_, rfl, _, _, rfl, rfl, (by show (0 : Int) < 2; decide), q, _, _, _, rfl, rfl, SqL.of upd_same, em, ?_⟩
      have s4 := same_upd (o := .lst [V.int 3, .int 60]) nq
      refine ⟨r, a, ns, mm, rfl, R'.same s4, mm0, wd _ (by omega), fun t H'' t0 t1 R'' kp'' => ?_⟩
      have hD2 := kp'' D0 _ (s4 _ _ hD) nDr
      refine ⟨_, _, rfl, rfl, _, hD2, ?_, zs ++ [1 + t], ?_, ?_, ?_, R''.put hD2 nDr, ?_⟩
      · rw [List.length_map]
        exact Nat.lt_of_lt_of_le (show zs.length < 20 by omega) (by decide)
      · rw [upd_same, List.map_append]
        rfl
      · rw [List.length_append, hz1]
        rfl
      · intro z hz
        rcases List.mem_append.mp hz with hz | hz
        · exact hz2 z hz
        · have e := List.mem_singleton.mp hz
          omega
      · exact Kp.put ((k'.trans (.same s4)).trans kp'') nD rfl
    rintro H4 ⟨zs, hD4, hz1, hz2, R4, k4⟩
    have hl4 := k4 l _ hl3 nlr
    refine ⟨l, D0, _, _, rfl, rfl, hl4, hD4, ?_, fun q nq => ?_⟩
    · rw [List.length_map, hz1]
      exact Nat.le_trans (show 1 + (many - 1).toNat ≤ 20 by omega) (by decide)
    have R5 := R4.same (same_upd (o := .lst ([V.int first] ++ zs.map V.int)) nq)
    have hq5 : (upd H4 q (.lst ([V.int first] ++ zs.map V.int))) q = some (.lst ((first :: zs).map V.int)) := upd_same
    have kp5 : Kp r H (upd H4 q (.lst ([V.int first] ++ zs.map V.int))) := (kp13.trans k4).trans (.same (same_upd nq))
    have nqr : q ≠ r := by
      obtain ⟨x, xs, e⟩ := R4.at_
      exact (ne_of_none e nq).symm
    have nqH : H q = none := by
      cases z : H q with
      | none => rfl
      | some o =>
        have := (kp13.trans k4) q o z nqr
        rw [nq] at this
        cases this
    generalize upd H4 q (.lst ([V.int first] ++ zs.map V.int)) = H5 at *
    -- the ring's size
    refine ⟨_, rfl, r, a, ns, _, rfl, R5, by decide, wd _ (by decide), fun s0 H6 s1 s2 R6 kp6 => ?_⟩
    have hq6 := kp6 q _ hq5 nqr
    have kp06 : Kp r H H6 := kp5.trans kp6
    refine ⟨fun σ H' => ∃ size : Int, 0 ≤ size ∧ size ≤ 12 ∧ σ = [some (V.ref r), some (V.int many), some (V.ref q), none, some (V.int size), none, none] ∧ H' = H6, ?_, ?_⟩
    · refine ⟨_, rfl, _, _, rfl, rfl, _, rfl, ite2 (fun c => ?_) (fun c => ?_)⟩
      · have c' : s0 < 40 := of_decide_eq_true c
        exact ⟨_, rfl, _, _, rfl, rfl, (by show (0 : Int) < 4; decide), _, (by omega), (by omega), rfl, rfl⟩
      · have c' : ¬ s0 < 40 := fun z => c (decide_eq_true z)
        exact ⟨_, rfl, _, _, rfl, rfl, _, (by omega), (by omega), rfl, rfl⟩
    rintro σ H6' ⟨size, hs1, hs2, rfl, rfl⟩
    -- the ring
    refine ⟨_, rfl, size, rfl, by omega, by omega, fun D1 nD1 => lc_range (lo := 0) (n := size.toNat) (fun i H' => ∃ ys : List Int, H' D1 = some (.lst (ys.map V.int)) ∧ ys.length = i ∧ (∀ z ∈ ys, 1 ≤ z ∧ z ≤ 5) ∧ RowAt K H' r a ns ∧ Kp r H6' H') ?_ ?_ ?_⟩
    · exact ⟨[], upd_same, rfl, (fun z hz => by cases hz), R6.same (same_upd nD1), .same (same_upd nD1)⟩
    · rintro i H' hi ⟨ys, hD, hy1, hy2, R', k'⟩
      have nDr : D1 ≠ r := by
        obtain ⟨x, xs, e⟩ := R'.at_
        exact ne_of hD e (by intro z; exact ref_ne ys (HO.lst.inj z).symm)
      refine ⟨rfl, _, rfl, r, a, ns, _, rfl, R', by decide, wd _ (by decide), fun t H'' t0 t1 R'' kp'' => ?_⟩
      have hD2 := kp'' D1 _ hD nDr
      refine ⟨_, _, rfl, rfl, _, hD2, ?_, ys ++ [1 + t], ?_, ?_, ?_, R''.put hD2 nDr, ?_⟩
      · rw [List.length_map]
        exact Nat.lt_of_lt_of_le (show ys.length < 20 by omega) (by decide)
      · rw [upd_same, List.map_append]
        rfl
      · rw [List.length_append, hy1]
        rfl
      · intro z hz
        rcases List.mem_append.mp hz with hz | hz
        · exact hy2 z hz
        · have e := List.mem_singleton.mp hz
          omega
      · exact Kp.put (k'.trans kp'') nD1 rfl
    rintro H7 ⟨ys, hD7, hy1, hy2, R7, k7⟩
    have hq7 := k7 q _ hq6 nqr
    have nD1r : D1 ≠ r := by
      obtain ⟨x, xs, e⟩ := R7.at_
      exact ne_of hD7 e (by intro z; exact ref_ne ys (HO.lst.inj z).symm)
    have nqD1 : q ≠ D1 := ne_of_none hq6 nD1
    -- the steps
    refine ⟨_, rfl, size, rfl, by omega, by omega, fun D2 nD2 => lc_range (lo := 0) (n := size.toNat) (fun i H' => ∃ us : List Int, H' D2 = some (.lst (us.map V.int)) ∧ us.length = i ∧ (∀ z ∈ us, 0 ≤ z ∧ z ≤ 4) ∧ RowAt K H' r a ns ∧ Kp r H7 H') ?_ ?_ ?_⟩
    · exact ⟨[], upd_same, rfl, (fun z hz => by cases hz), R7.same (same_upd nD2), .same (same_upd nD2)⟩
    · rintro i H' hi ⟨us, hD, hu1, hu2, R', k'⟩
      have nDr : D2 ≠ r := by
        obtain ⟨x, xs, e⟩ := R'.at_
        exact ne_of hD e (by intro z; exact ref_ne us (HO.lst.inj z).symm)
      refine ⟨rfl, _, rfl, r, a, ns, _, rfl, R', by decide, wd _ (by decide), fun t H'' t0 t1 R'' kp'' => ?_⟩
      refine ⟨_, rfl, r, a, ns, _, rfl, R'', by decide, wd _ (by decide), fun t' H3' t0' t1' R3' kp3' => ?_⟩
      have hD2 := kp3' D2 _ (kp'' D2 _ hD nDr) nDr
      have tt : t * t' ≤ 2 * 2 := Int.mul_le_mul (by omega) (by omega) t0' (by decide)
      have tt0 : 0 ≤ t * t' := Int.mul_nonneg t0 t0'
      refine ⟨_, _, rfl, rfl, .inl ⟨by omega, by omega⟩, _, hD2, ?_, us ++ [t * t'], ?_, ?_, ?_, R3'.put hD2 nDr, ?_⟩
      · rw [List.length_map]
        exact Nat.lt_of_lt_of_le (show us.length < 20 by omega) (by decide)
      · rw [upd_same, List.map_append]
        rfl
      · rw [List.length_append, hu1]
        rfl
      · intro z hz
        rcases List.mem_append.mp hz with hz | hz
        · exact hu2 z hz
        · have e := List.mem_singleton.mp hz
          omega
      · exact Kp.put ((k'.trans kp'').trans kp3') nD2 rfl
    rintro H8 ⟨us, hD8, hu1, hu2, R8, k8⟩
    have hq8 := k8 q _ hq7 nqr
    have hr8 := k8 D1 _ hD7 nD1r
    have nqD2 : q ≠ D2 := ne_of_none hq7 nD2
    have kp08 : Kp r H H8 := (kp06.trans k7).trans k8
    -- a last part of 1 becomes 2
    refine ⟨fun σ H' => ∃ (zt : List Int), σ = [some (V.ref r), some (V.int many), some (V.ref q), none, some (V.int size), some (V.ref D1), some (V.ref D2)] ∧ zt.length = zs.length ∧ (∀ z ∈ zt, 1 ≤ z ∧ z ≤ 60) ∧ (ys = [] → zt = [] ∨ ∃ z, zt.getLast? = some z ∧ 2 ≤ z) ∧ H' q = some (.lst ((first :: zt).map V.int)) ∧ H' D1 = some (.lst (ys.map V.int)) ∧ H' D2 = some (.lst (us.map V.int)) ∧ RowAt K H' r a ns ∧ Kp r H H', ?_, ?_⟩
    · refine ⟨_, rfl, rfl, _, rfl, ite2 (fun c => ?_) (fun c => ?_)⟩
      · refine ⟨_, rfl, _, _, rfl, rfl, _, rfl, ite2 (fun c2 => ?_) (fun c2 => ?_)⟩
        · have c2' : 1 < many := of_decide_eq_true c2
          have hn : zs ≠ [] := fun z => by rw [z] at hz1; simp at hz1; omega
          obtain ⟨i0, z, rfl⟩ : ∃ i0 z, zs = i0 ++ [z] := ⟨_, _, (List.dropLast_concat_getLast hn).symm⟩
          have eat : atI ((first :: (i0 ++ [z])).map V.int) (-1) = some (.int z) := by
            have : (first :: (i0 ++ [z])).map V.int = (first :: i0).map V.int ++ [.int z] := by simp
            rw [this]
            exact atI_last _ _
          have hz := hz2 z (List.mem_append_right _ List.mem_cons_self)
          refine ⟨_, rfl, 1, rfl, q, _, _, _, rfl, rfl, SqL.of hq8, eat, rfl, _, rfl, ite2 (fun c3 => ?_) (fun c3 => ?_)⟩
          · refine ⟨_, rfl, 1, rfl, q, _, _, i0.length + 1, rfl, rfl, hq8, ?_, i0 ++ [2], rfl, by simp, ?_, fun _ => .inr ⟨2, List.getLast?_concat, by decide⟩, ?_, ?_, ?_, R8.put hq8 nqr, Kp.put kp08 nqH rfl⟩
            · rw [ixN_last' (by simp)]
              simp
            · intro y hy
              rcases List.mem_append.mp hy with hy | hy
              · exact hz2 y (List.mem_append_left _ hy)
              · have e := List.mem_singleton.mp hy
                omega
            · rw [upd_same]
              simp
            · rw [upd_ne nqD1.symm]
              exact hr8
            · rw [upd_ne nqD2.symm]
              exact hD8
          · have hne : z ≠ 1 := fun y => c3 (decide_eq_true (by rw [y]))
            exact ⟨_, rfl, rfl, hz2, fun _ => .inr ⟨z, List.getLast?_concat, by omega⟩, hq8, hr8, hD8, R8, kp08⟩
        · have c2' : ¬ 1 < many := fun z => c2 (decide_eq_true z)
          have e : zs = [] := List.length_eq_zero_iff.mp (by omega)
          exact iteF ⟨_, rfl, rfl, hz2, fun _ => .inl e, hq8, hr8, hD8, R8, kp08⟩
      · have c' : size ≠ 0 := fun z => c (decide_eq_true (by rw [z]))
        have hy : ys ≠ [] := fun z => by rw [z] at hy1; simp at hy1; omega
        exact iteF ⟨_, rfl, rfl, hz2, fun z => absurd z hy, hq8, hr8, hD8, R8, kp08⟩
    rintro σ H9 ⟨zt, rfl, hzl, hz9, hlast, hq9, hr9, hu9, R9, kp9⟩
    refine ⟨_, rfl, q, _, rfl, .inl ⟨SqL.of hq9, fun p1 np1 => ?_⟩⟩
    have sa := same_upd (o := .tup ((first :: zt).map V.int)) np1
    refine ⟨_, rfl, D1, _, rfl, .inl ⟨SqL.of (sa _ _ hr9), fun p2 np2 => ?_⟩⟩
    have sb := same_upd (o := .tup (ys.map V.int)) np2
    refine ⟨_, rfl, D2, _, rfl, .inl ⟨SqL.of (sb _ _ (sa _ _ hu9)), fun p3 np3 => ?_⟩⟩
    have sc := same_upd (o := .tup (us.map V.int)) np3
    refine ⟨(by show 4 ≤ sizeLine; decide), fun v nv => ?_⟩
    have sd := same_upd (o := .tup [V.str "ruled", .ref p1, .ref p2, .ref p3]) nv
    have sall := ((sa.trans sb).trans sc).trans sd
    refine k v (first :: zt) ys us _ ⟨p1, p2, p3, SqT.of upd_same, SqT.of (sd _ _ (sc _ _ (sb _ _ upd_same))), SqT.of (sd _ _ (sc _ _ upd_same)), SqT.of (sd _ _ upd_same)⟩ ?_ (R9.same sall) (kp9.trans (.same sall))
    refine ⟨⟨⟨List.cons_ne_nil _ _, ?_, ?_, ?_, ?_, ?_, ?_⟩, ?_, ?_, ?_⟩, ?_, hy2, hu2⟩
    · rw [List.length_cons]; omega
    · omega
    · omega
    · intro z hz
      rcases List.mem_cons.mp hz with rfl | hz
      · exact ⟨by omega, by omega⟩
      · have := hz9 z hz; exact ⟨by omega, by omega⟩
    · intro z hz; have := hy2 z hz; exact ⟨by omega, by omega⟩
    · intro z hz; have := hu2 z hz; exact ⟨by omega, by omega⟩
    · intro z hz
      rcases List.mem_append.mp hz with hz | hz
      · exact (hz9 z hz).1
      · exact (hy2 z hz).1
    · intro z hz; exact (hu2 z hz).1
    · intro e
      rcases hlast e with h1 | ⟨z, h1, h2⟩
      · left; rw [h1]; rfl
      · right
        refine ⟨z, ?_, h2⟩
        cases zt with
        | nil => cases h1
        | cons x y => rw [List.getLast?_cons_cons]; exact h1
    · intro z hz
      rcases List.mem_cons.mp hz with rfl | hz
      · omega
      · have := hz9 z hz; omega
end
/-! ### the parts of a ruled chain, turn by turn -/
def dueR (ps ring steps : List Int) (n : Nat) : List Int := (List.range (if ring = [] then min n ps.length else n)).map (ruledAt ps ring steps)
theorem dueR_first (ps ring steps : List Int) : ps = (List.range (ps.length + 0 * ring.length)).map (ruledAt ps ring steps) := by
  rw [Nat.zero_mul, Nat.add_zero]
  apply List.ext_getElem
  · simp
  · intro i h1 h2
    rw [List.getElem_map, List.getElem_range]
    unfold ruledAt
    rw [if_pos h1, List.getD_eq_getElem?_getD, List.getElem?_eq_getElem h1]
    rfl
theorem range_add (m n : Nat) : List.range (m + n) = List.range m ++ (List.range n).map (m + ·) := by
  rw [List.range_add]
theorem dueR_turn {ps ring steps : List Int} (h : ring ≠ []) (t : Nat) : (List.range (ps.length + (t + 1) * ring.length)).map (ruledAt ps ring steps) =
    (List.range (ps.length + t * ring.length)).map (ruledAt ps ring steps) ++ (List.range ring.length).map (fun k => ring.getD k 0 + (t : Int) * steps.getD k 0) := by
  have hr : 0 < ring.length := List.length_pos_iff.mpr h
  have e : ps.length + (t + 1) * ring.length = (ps.length + t * ring.length) + ring.length := by
    rw [Nat.add_mul]
    omega
  rw [e, range_add, List.map_append, List.map_map]
  congr 1
  apply List.map_congr_left
  intro k hk
  have hk := List.mem_range.mp hk
  show ruledAt ps ring steps (ps.length + t * ring.length + k) = _
  unfold ruledAt
  rw [if_neg (by omega)]
  have e1 : ps.length + t * ring.length + k - ps.length = k + ring.length * t := by rw [Nat.mul_comm ring.length t]; omega
  rw [e1, Nat.add_mul_mod_self_left, Nat.mod_eq_of_lt hk, Nat.add_mul_div_left _ _ hr, Nat.div_eq_of_lt hk, Nat.zero_add]
theorem dueR_len (ps ring steps : List Int) (n : Nat) : (dueR ps ring steps n).length = if ring = [] then min n ps.length else n := by
  unfold dueR
  rw [List.length_map, List.length_range]
theorem dueR_at {ps ring steps : List Int} {n i : Nat} (h : i < (dueR ps ring steps n).length) : (dueR ps ring steps n)[i]? = some (ruledAt ps ring steps i) := by
  unfold dueR at *
  rw [List.length_map, List.length_range] at h
  rw [List.getElem?_map, List.getElem?_range h]
  rfl
theorem shaped_tints (ns : List Int) : SeqAt.shaped (.tuple (ns.map PyData.int)) = true := by
  simp [SeqAt.shaped, PyData.canLay0, PyData.depth, PySem.W.ke_canLayAll0, PySem.W.ke_depthAll]
theorem eqv_empty (ns : List Int) : PyData.eqv (.tuple (ns.map PyData.int)) (.tuple []) = decide (ns = []) := by
  cases ns with
  | nil => rfl
  | cons x r => rfl
theorem cut_take (xs : List V) (n : Nat) : cutV xs none (some (n : Int)) = xs.take n := by
  unfold cutV
  rw [HT.sIx_none, HT.sIx_nat, List.drop_zero, Nat.sub_zero]
  rw [List.take_eq_take_iff]
  omega
section
variable {P : Program} {w : World} {K : PySem.W.Frag} {mg : Str → Option Value} {base : Heap} {A : Ad}
def sp_law_turns (K : PySem.W.Frag) : Sp := fun vs H Q _ => ∃ (v : Addr) (ps ring steps : List Int) (many : Nat), vs = [.ref v, .int many] ∧ Leaf.At K H v (.ruled ps ring steps) ∧ RuledOk ps ring steps ∧ many ≤ 1000 ∧
  ∀ p H', Same H H' → H p = none → H' p = some (.lst ((dueR ps ring steps many).map V.int)) → Q (.ref p) H'
theorem ok_law_turns (T : CT K mg A) (D : DT K mg A) : COk P w K mg base CX0 1 "_law_turns" ["_law_tree", "_law_many"] (sp_law_turns K) := by
  refine COk.by D.law_turns fun f fd F => ?_
  refine F.ok sc_law_turns (fun vs H Q E h => ?_) (fun cdv Ar outer s H vs Q E hr h => ?_)
  · obtain ⟨v, ps, ring, steps, many, rfl, _⟩ := h
    rfl
  · obtain ⟨v, ps, ring, steps, many, rfl, ⟨p, q, u, hv, hp, hq, hu⟩, ok, hm, k⟩ := h
    refine ⟨_, (pss_cons (ps_set (i := 2) sc_law_turns.nd rfl (Or.inl rfl) (pe_callTy call_list_of (by rfl) T.b_list (by decide +kernel) (pa_cons (pe_ix ix_tup (pv 0) pe_int (fun _ _ => rfl)) pa_nil)))
    (pss_cons (ps_set (i := 3) sc_law_turns.nd rfl (Or.inr rfl) pe_int)
    (pss_cons (ps_while PassesOwn.never (PW.pt (pw_and (pt_cmpR (op_neD hr.units) (pe_ix ix_tup (pv 0) pe_int (fun _ _ => rfl)) (pe_tup pa_nil) (nomark _)) (pw_and1 (pt_cmpR op_lt (pe_callB call_len_seq (by rfl) T.b_len (by decide +kernel) (pa_cons (pv 2) pa_nil)) (pv 1) (nomark _)))))
      (pss_cons (ps_set (i := 2) sc_law_turns.nd rfl (Or.inl rfl) (pe_op op_cat (pv 2) (pe_lc (own := [("_law_k", 4)]) (g := gName 4) (tt := tYes) rfl sc_law_turns.nd (pi_range1 rfl T.b_range (pa_cons (pe_callB call_len_seq (by rfl) T.b_len (by decide +kernel) (pa_cons (pe_ix ix_tup (pv 0) pe_int (fun _ _ => rfl)) pa_nil)) pa_nil)) (blkOk_by (own := [("_law_k", 4)]) (N := ["_law_tree", "_law_many", "_law_found", "_law_turn", "_law_k"]) (sc := defScope s_law_turns) (by decide +kernel)) (fun _ _ _ _ _ => (pg_name (i := 4) sc_law_turns.nd rfl (Or.inl rfl))) (fun _ _ _ _ _ => pts_nil) (fun _ _ _ _ _ => (pe_op op_add (pe_ix (show IxR _ (rIxT K) from ix_tup) (pe_ix (show IxR _ (rIxT K) from ix_tup) (pv 0) pe_int (fun _ _ => rfl)) (pv 4) (fun _ _ => rfl)) (pe_op op_mul (pv 3) (pe_ix (show IxR _ (rIxT K) from ix_tup) (pe_ix (show IxR _ (rIxT K) from ix_tup) (pv 0) pe_int (fun _ _ => rfl)) (pv 4) (fun _ _ => rfl))))))))
    (pss_one (ps_set (i := 3) sc_law_turns.nd rfl (Or.inr rfl) (pe_op op_add (pv 3) pe_int)))))
    (pss_one (ps_ret (pe_slice sl_list (pv 2) po_none (po_some (pv 1)))))))), ?_⟩
    refine ⟨_, rfl, v, _, 1, _, rfl, rfl, hv, atI_nat (j := 1) rfl, p, _, rfl, .inr hp, fun l nl => ?_⟩
    have s0 := same_upd (o := .lst (ps.map V.int)) nl
    have p12 := ok.p12
    have r12 := ok.r12
    have lr : (ring.map V.int).length = ring.length := List.length_map _
    refine while_by (fun σ H2 => ∃ (t : Nat) (l' : Addr) (v4 : Option V), σ = [some (.ref v), some (.int many), some (.ref l'), some (.int t), v4] ∧ Same H H2 ∧ H l' = none ∧ H2 l' = some (.lst (((List.range (ps.length + t * ring.length)).map (ruledAt ps ring steps)).map V.int)) ∧ (ring = [] → t = 0) ∧ ps.length + t * ring.length ≤ 2000)
      (fun σ _ => match σ with | [_, some (.int m), _, some (.int t), _] => (m - (ps.length : Int) - t * ring.length).toNat | _ => 0) ⟨0, l, none, rfl, s0, nl, ?_, fun _ => rfl, by omega⟩ ?_ ?_
    · rw [upd_same, ← dueR_first]
    · rintro σ H2 ⟨t, l', v4, rfl, s2, nl', hl', ht0, hb⟩
      have hv2 := sqT_same hv s2
      have hq2 := sqT_same hq s2
      refine ⟨_, rfl, v, _, 2, _, rfl, rfl, hv2, atI_nat (j := 2) rfl, (by show 0 ≤ sizeLine; decide), fun e ne => ?_⟩
      have s3 := same_upd (o := .tup []) ne
      have hl3 := s3 _ _ hl'
      have ss := s2.trans s3
      refine ⟨_, _, .tup (sqT_same hq2 s3) (dpAll_ints ring), .tup (SqT.of upd_same) .nil, shaped_tints ring, rfl, _, rfl, ?_⟩
      rw [eqv_empty]
      generalize upd H2 e (.tup []) = H3 at *
      have fin : ¬ (ring ≠ [] ∧ ps.length + t * ring.length < many) → tRet (tSl (rSlL K) (tVar 2) tNoPart (tPart (tVar 1))) { nx := fun _ H' => Q .non H', rt := Q } [some (.ref v), some (.int many), some (.ref l'), some (.int t), v4] H3 := fun hn => by
        refine ⟨_, rfl, _, rfl, _, rfl, l', _, rfl, SqL.of hl3, fun z nz => ?_⟩
        rw [cut_take]
        refine k z _ (ss.trans (same_upd nz)) (ss.free nz) ?_
        rw [upd_same, ← List.map_take, ← List.map_take, List.take_range]
        unfold dueR
        congr 5
        by_cases cr : ring = []
        · rw [if_pos cr, ht0 cr, Nat.zero_mul, Nat.add_zero]
        · rw [if_neg cr]
          have : ¬ ps.length + t * ring.length < many := fun z => hn ⟨cr, z⟩
          omega
      by_cases cr : ring = []
      · rw [decide_eq_true cr]
        exact iteF (iteF (fin fun z => z.1 cr))
      · rw [decide_eq_false cr]
        refine iteT ⟨_, rfl, l', _, rfl, .inl (SqL.of hl3), _, rfl, _, _, rfl, rfl, _, rfl, ?_⟩
        have len3 : ((((List.range (ps.length + t * ring.length)).map (ruledAt ps ring steps)).map V.int).length : Int) = ((ps.length + t * ring.length : Nat) : Int) := by rw [List.length_map, List.length_map, List.length_range]
        rw [len3]
        by_cases cm : ps.length + t * ring.length < many
        · rw [decide_eq_true (by omega)]
          refine iteT ?_
          have hu3 := sqT_same hu ss
          have hq3 := sqT_same hq ss
          have hv3 := sqT_same hv ss
          have r0 : 0 < ring.length := List.length_pos_iff.mpr cr
          refine ⟨_, rfl, _, rfl, v, _, 2, _, rfl, rfl, hv3, atI_nat (j := 2) rfl, q, _, rfl, .inr hq3, (ring.length : Int), by rw [lr], by omega, by omega, fun D0 nD => lc_range (lo := 0) (n := ring.length) (fun i H' => i ≤ ring.length ∧ Same H3 H' ∧ H' D0 = some (.lst (((List.range i).map (fun k => ring.getD k 0 + (t : Int) * steps.getD k 0)).map V.int))) ⟨Nat.zero_le _, same_upd nD, upd_same⟩ ?_ ?_⟩
          · rintro i H' hi ⟨_, sH, hD⟩
            have w64 : -(2 ^ 64) < steps.getD i 0 ∧ steps.getD i 0 < 2 ^ 64 := by
              obtain ⟨t1, t2⟩ := ok.ts _ (mem_getD (show i < steps.length by rw [ok.same]; exact hi))
              have : (2 : Int) ^ 64 = 18446744073709551616 := by decide
              omega
            refine ⟨rfl, _, rfl, v, _, 2, _, rfl, rfl, sqT_same hv3 sH, atI_nat (j := 2) rfl, _, rfl, q, _, _, _, rfl, rfl, sqT_same hq3 sH, at_of (j := i) (by omega) (map_at hi), ?_⟩
            refine ⟨_, rfl, _, rfl, v, _, 3, _, rfl, rfl, sqT_same hv3 sH, atI_nat (j := 3) rfl, _, rfl, u, _, _, _, rfl, rfl, sqT_same hu3 sH, at_of (j := i) (by omega) (map_at (show i < steps.length by rw [ok.same]; exact hi)), _, _, rfl, rfl, .inr w64, _, _, rfl, rfl, _, hD, ?_, hi, ?_, ?_⟩
            · rw [List.length_map, List.length_map, List.length_range]
              exact Nat.lt_of_lt_of_le (show i < 20 by omega) (by decide)
            · intro b o z
              rw [upd_ne (ne_of_none z nD)]
              exact sH b o z
            · rw [upd_same, List.range_succ, List.map_append, List.map_append]
              rfl
          · rintro H4 ⟨_, s4, hD4⟩
            refine ⟨l', D0, _, _, rfl, rfl, s4 _ _ hl3, hD4, ?_, fun z nz => ?_⟩
            · rw [List.length_map, List.length_map, List.length_range, List.length_map, List.length_map, List.length_range]
              exact Nat.le_trans (show ps.length + t * ring.length + ring.length ≤ 3000 by omega) (by decide)
            have e2 : ps.length + (t + 1) * ring.length = ps.length + t * ring.length + ring.length := by rw [Nat.add_mul]; omega
            refine ⟨_, rfl, _, _, rfl, rfl, ⟨t + 1, z, _, rfl, (ss.trans s4).trans (same_upd nz), (ss.trans s4).free nz, ?_, fun y => absurd y cr, by omega⟩, ?_⟩
            · rw [upd_same, ← List.map_append, dueR_turn cr]
            · show ((many : Int) - (ps.length : Int) - ((t : Int) + 1) * ring.length).toNat < ((many : Int) - (ps.length : Int) - (t : Int) * ring.length).toNat
              have e3 : ((t : Int) + 1) * ring.length = (t : Int) * ring.length + ring.length := by rw [Int.add_mul, Int.one_mul]
              have e4 : ((t * ring.length : Nat) : Int) = (t : Int) * ring.length := Int.natCast_mul _ _
              omega
        · rw [decide_eq_false (by omega)]
          exact iteF (fin fun z => cm z.2)
    · intro σ H2 Q1 Q2 im hq2
      obtain ⟨x, e, y, xs, i, z, e1, e2, hS, at2, l0, hall⟩ := hq2
      refine ⟨x, e, y, xs, i, z, e1, e2, hS, at2, l0, fun p' np' => ?_⟩
      obtain ⟨d1, d2, a1, a2, a3, a4, b, eb, rest⟩ := hall p' np'
      refine ⟨d1, d2, a1, a2, a3, a4, b, eb, ?_⟩
      cases b with
      | false => exact im _ _ rest
      | true =>
        obtain ⟨x2, f1, f2, f3, f4, f5, f6, f7, f8, f9, f10, f11, f12, f13, rest2⟩ := rest
        exact ⟨x2, f1, f2, f3, f4, f5, f6, f7, f8, f9, f10, f11, f12, f13, im _ _ rest2⟩
end
/-! ### eight numbers, drawn -/
section
variable {P : Program} {w : World} {K : PySem.W.Frag} {mg : Str → Option Value} {base : Heap} {A : Ad}
def Drawn8 (es : List Int) : Prop := es.length = 8 ∧ (∀ z ∈ es, -2 ≤ z ∧ z ≤ 2) ∧ Crossed es
def KpR (r : Addr) (H H' : Hp) : Prop := ∀ b o, H b = some o → b ≠ r → H' b = some o
def sp_law_eight (K : PySem.W.Frag) : Sp := fun vs H Q _ => ∃ (r a : Addr) (ns : List Int), vs = [.ref r] ∧ RowAt K H r a ns ∧
  ∀ p es H', SqT K H' p (es.map V.int) → Drawn8 es → RowAt K H' r a ns → KpR r H H' → Q (.ref p) H'
theorem dr0 : Drawn8 [0, 1, 1, 0, 0, 0, 0, 1] := ⟨rfl, by decide, 3, 1, by decide, by decide, by decide⟩
theorem dr1 : Drawn8 [1, 0, 0, 0, 0, 0, 0, 1] := ⟨rfl, by decide, 3, 0, by decide, by decide, by decide⟩
theorem dr2 : Drawn8 [0, 1, -1, 0, 0, 0, 0, 1] := ⟨rfl, by decide, 3, 1, by decide, by decide, by decide⟩
theorem dr3 : Drawn8 [0, 1, 0, 0, 0, 0, 1, 0] := ⟨rfl, by decide, 2, 1, by decide, by decide, by decide⟩
theorem int_at {es : List Int} {i : Nat} (h : i < es.length) : (es.map V.int)[i]? = some (.int (es.getD i 0)) := by
  rw [List.getElem?_map, List.getElem?_eq_getElem h]
  simp [List.getD, h]
theorem ok_law_eight (T : CT K mg A) (D : DT K mg A) (G_law_taken : COk P w K mg base CX0 1 "_law_taken" ["_law_row_here", "_law_many"] (sp_law_taken K)) (G_law_signed : COk P w K mg base CX0 2 "_law_signed" ["_law_row_here", "_law_most"] (sp_law_signed K)) :
    COk P w K mg base CX0 3 "_law_eight" ["_law_row_here"] (sp_law_eight K) := by
  refine COk.by D.law_eight fun f fd F => ?_
  refine F.ok sc_law_eight (fun vs H Q E h => ?_) (fun cdv Ar outer s H vs Q E hr h => ?_)
  · obtain ⟨r, a, ns, rfl, _⟩ := h
    rfl
  · obtain ⟨r, a, ns, rfl, R, k⟩ := h
    refine ⟨_, (pss_cons (ps_set (i := 1) sc_law_eight.nd rfl (Or.inl rfl) (pe_c G_law_taken (hr.mono (by first | decide | omega)) (pa_cons (pv 0) (pa_cons pe_int pa_nil))))
    (pss_cons (ps_set (i := 2) sc_law_eight.nd rfl (Or.inl rfl) (pe_lst (pa_cons (pe_tup (pa_cons pe_int (pa_cons pe_int (pa_cons pe_int (pa_cons pe_int (pa_cons pe_int (pa_cons pe_int (pa_cons pe_int (pa_cons pe_int pa_nil))))))))) (pa_cons (pe_tup (pa_cons pe_int (pa_cons pe_int (pa_cons pe_int (pa_cons pe_int (pa_cons pe_int (pa_cons pe_int (pa_cons pe_int (pa_cons pe_int pa_nil))))))))) (pa_cons (pe_tup (pa_cons pe_int (pa_cons pe_int (pa_cons (pe_un un_neg pe_int) (pa_cons pe_int (pa_cons pe_int (pa_cons pe_int (pa_cons pe_int (pa_cons pe_int pa_nil))))))))) (pa_cons (pe_tup (pa_cons pe_int (pa_cons pe_int (pa_cons pe_int (pa_cons pe_int (pa_cons pe_int (pa_cons pe_int (pa_cons pe_int (pa_cons pe_int pa_nil))))))))) pa_nil))))))
    (pss_cons (ps_if (pt_cmpR op_lt (pv 1) pe_int (nomark _))
      (pss_one (ps_ret (pe_ix ix_list (pv 2) (pv 1) (fun _ _ => rfl)))) pss_nil)
    (pss_cons (ps_set (i := 3) sc_law_eight.nd rfl (Or.inl rfl) (pe_callTy call_tuple_of (by rfl) T.b_tuple (by decide +kernel) (pa_cons (pe_lc (own := [("_law_k", 4)]) (g := gName 4) (tt := tYes) rfl sc_law_eight.nd (pi_range1 rfl T.b_range (pa_cons pe_int pa_nil)) (blkOk_by (own := [("_law_k", 4)]) (N := ["_law_row_here", "_law_way", "_law_some", "_law_numbers", "_law_k", "_law_i", "_law_j"]) (sc := defScope s_law_eight) (by decide +kernel)) (fun _ _ _ _ _ => (pg_name (i := 4) sc_law_eight.nd rfl (Or.inl rfl))) (fun _ _ _ _ _ => pts_nil) (fun _ _ _ _ _ => (pe_c G_law_signed (hr.mono (by first | decide | omega)) (pa_cons (pv 0) (pa_cons pe_int pa_nil))))) pa_nil)))
    (pss_cons (ps_for PassesOwn.never rfl (pi_range1 rfl T.b_range (pa_cons pe_int pa_nil)) (pg_name (i := 5) sc_law_eight.nd rfl (Or.inl rfl))
      (pss_one (ps_for PassesOwn.never rfl (pi_range1 rfl T.b_range (pa_cons (pv 5) pa_nil)) (pg_name (i := 6) sc_law_eight.nd rfl (Or.inl rfl))
      (pss_one (ps_if (pt_cmpR op_ne (pe_op op_mul (pe_ix ix_tup (pv 3) (pv 5) (fun _ _ => rfl)) (pe_ix ix_tup (pv 3) (pe_op op_add pe_int (pv 6)) (fun _ _ => rfl))) (pe_op op_mul (pe_ix ix_tup (pv 3) (pv 6) (fun _ _ => rfl)) (pe_ix ix_tup (pv 3) (pe_op op_add pe_int (pv 5)) (fun _ _ => rfl))) (nomark _))
      (pss_one (ps_ret (pv 3))) pss_nil)))))
    (pss_one (ps_ret (pe_ix ix_list (pv 2) pe_int (fun _ _ => rfl))))))))), ?_⟩
    have w6 : (6 : Int) < 2 ^ 8000 := by decide +kernel
    refine ⟨_, rfl, r, a, ns, _, rfl, R, by decide, w6, fun way H1 v0 v1 R1 kp1 => ?_⟩
    refine ⟨(by show 8 ≤ sizeLine; decide), fun t0 n0 => ⟨(by show 8 ≤ sizeLine; decide), fun t1 n1 => ⟨_, rfl, (by show 8 ≤ sizeLine; decide), fun t2 n2 => ⟨(by show 8 ≤ sizeLine; decide), fun t3 n3 => ⟨(by show 4 ≤ sizeLine; decide), fun l nl => ?_⟩⟩⟩⟩⟩
    have s0 := same_upd (o := .tup [V.int 0, .int 1, .int 1, .int 0, .int 0, .int 0, .int 0, .int 1]) n0
    have s1 := same_upd (o := .tup [V.int 1, .int 0, .int 0, .int 0, .int 0, .int 0, .int 0, .int 1]) n1
    have s2 := same_upd (o := .tup [V.int 0, .int 1, .int (-1), .int 0, .int 0, .int 0, .int 0, .int 1]) n2
    have s3 := same_upd (o := .tup [V.int 0, .int 1, .int 0, .int 0, .int 0, .int 0, .int 1, .int 0]) n3
    have s4 := same_upd (o := .lst [V.ref t0, .ref t1, .ref t2, .ref t3]) nl
    have h0 := sqT_same (K := K) (SqT.of upd_same) (((s1.trans s2).trans s3).trans s4)
    have h1 := sqT_same (K := K) (SqT.of upd_same) ((s2.trans s3).trans s4)
    have h2 := sqT_same (K := K) (SqT.of upd_same) (s3.trans s4)
    have h3 := sqT_same (K := K) (SqT.of upd_same) s4
    have hl := upd_at s4
    have ss := (((s0.trans s1).trans s2).trans s3).trans s4
    have R2 := R1.same ss
    have kp2 : KpR r H _ := fun b o e n => ss _ _ (kp1 b o e n)
    have nlr : l ≠ r := by
      obtain ⟨x, xs, e⟩ := R1.at_
      exact (ne_of_none ((((s0.trans s1).trans s2).trans s3) _ _ e) nl).symm
    generalize upd (upd (upd (upd (upd H1 t0 _) t1 _) t2 _) t3 _) l _ = H2 at *
    refine ⟨_, rfl, _, _, rfl, rfl, _, rfl, ite2 (fun c => ?_) (fun c => ?_)⟩
    · have c' : way < 4 := of_decide_eq_true c
      obtain e | e | e | e : way = 0 ∨ way = 1 ∨ way = 2 ∨ way = 3 := by omega
      all_goals subst e
      · exact ⟨_, rfl, _, rfl, l, _, 0, _, rfl, rfl, SqL.of hl, atI_nat (j := 0) rfl, k t0 [0, 1, 1, 0, 0, 0, 0, 1] H2 h0 dr0 R2 kp2⟩
      · exact ⟨_, rfl, _, rfl, l, _, 1, _, rfl, rfl, SqL.of hl, atI_nat (j := 1) rfl, k t1 [1, 0, 0, 0, 0, 0, 0, 1] H2 h1 dr1 R2 kp2⟩
      · exact ⟨_, rfl, _, rfl, l, _, 2, _, rfl, rfl, SqL.of hl, atI_nat (j := 2) rfl, k t2 [0, 1, -1, 0, 0, 0, 0, 1] H2 h2 dr2 R2 kp2⟩
      · exact ⟨_, rfl, _, rfl, l, _, 3, _, rfl, rfl, SqL.of hl, atI_nat (j := 3) rfl, k t3 [0, 1, 0, 0, 0, 0, 1, 0] H2 h3 dr3 R2 kp2⟩
    -- eight drawn ones
    refine ⟨8, rfl, by decide, by decide, fun D0 nD => lc_range (lo := 0) (n := 8) (fun i H' => ∃ zs : List Int, H' D0 = some (.lst (zs.map V.int)) ∧ zs.length = i ∧ (∀ z ∈ zs, -2 ≤ z ∧ z ≤ 2) ∧ RowAt K H' r a ns ∧ KpR r H2 H') ?_ ?_ ?_⟩
    · exact ⟨[], upd_same, rfl, (fun z hz => by cases hz), R2.same (same_upd nD), fun b o e _ => same_upd nD _ _ e⟩
    · rintro i H' hi ⟨zs, hD, hz1, hz2, R', k'⟩
      have nDr : D0 ≠ r := by
        obtain ⟨x, xs, e⟩ := R'.at_
        exact ne_of hD e (by intro z; exact ref_ne zs (HO.lst.inj z).symm)
      refine ⟨rfl, _, rfl, r, a, ns, 2, rfl, R', by decide, by decide, fun t H'' t0 t1 R'' kp'' => ?_⟩
      have hD2 := kp'' D0 _ hD nDr
      refine ⟨_, hD2, ?_, zs ++ [t], ?_, ?_, ?_, R''.put hD2 nDr, fun b o e n => ?_⟩
      · rw [List.length_map]
        exact Nat.lt_of_lt_of_le (show zs.length < 20 by omega) (by decide)
      · rw [upd_same, List.map_append]
        rfl
      · rw [List.length_append, hz1]
        rfl
      · intro z hz
        rcases List.mem_append.mp hz with hz | hz
        · exact hz2 z hz
        · have e := List.mem_singleton.mp hz
          exact ⟨by omega, by omega⟩
      · rw [upd_ne (ne_of_none e nD)]
        exact kp'' _ _ (k' b o e n) n
    rintro H3 ⟨es, hD3, hz1, hz2, R3, kp3⟩
    refine ⟨D0, _, rfl, .inl ⟨SqL.of hD3, fun p np => ?_⟩⟩
    have s5 := same_upd (o := .tup (es.map V.int)) np
    have hp : SqT K (upd H3 p (.tup (es.map V.int))) p (es.map V.int) := SqT.of upd_same
    have R4 := R3.same s5
    have kp4 : KpR r H (upd H3 p (.tup (es.map V.int))) := fun b o e n => s5 _ _ (kp3 _ _ (kp2 b o e n) n)
    have hl4 := s5 _ _ (kp3 _ _ hl nlr)
    have h04 : SqT K (upd H3 p (.tup (es.map V.int))) t0 _ := sqT_same (sqT_but (N := fun b => b = r) h0 kp3 (fun b o e z => by
      obtain ⟨x, xs, e2⟩ := R2.at_
      subst e
      rw [e2] at z
      cases z
      exact ⟨fun _ q => (by cases q), fun _ _ q => (by cases q)⟩)) s5
    generalize upd H3 p (.tup (es.map V.int)) = H4 at *
    have e8 : es.length = 8 := hz1
    refine ⟨4, rfl, by decide, by decide, for_range (lo := 0) (n := 4) (fun i σ H' => ∃ v5 v6 : Option V, σ = [some (V.ref r), some (.int way), some (.ref l), some (.ref p), none, v5, v6] ∧ H4 = H') ⟨none, none, rfl, rfl⟩ ?_ ?_⟩
    · rintro i σ H' hi ⟨v5, v6, rfl, rfl⟩
      refine ⟨_, rfl, (i : Int), by rw [Int.zero_add], by omega, by omega, for_range (lo := 0) (n := i) (fun j σ H' => ∃ v6 : Option V, σ = [some (V.ref r), some (.int way), some (.ref l), some (.ref p), none, some (.int (0 + (i : Int))), v6] ∧ H4 = H') ⟨v6, rfl, rfl⟩ ?_ ?_⟩
      · rintro j σ H' hj ⟨v6, rfl, rfl⟩
        have hi8 : i < es.length := by omega
        have hj8 : j < es.length := by omega
        have hi4 : 4 + i < es.length := by omega
        have hj4 : 4 + j < es.length := by omega
        have sm : ∀ n, n < es.length → -2 ≤ es.getD n 0 ∧ es.getD n 0 ≤ 2 := fun n h => hz2 _ (by
          have e : es.getD n 0 = es[n] := by simp [List.getD, h]
          rw [e]
          exact List.getElem_mem h)
        have cm : ∀ n m, n < es.length → m < es.length → CMul (es.getD n 0) (es.getD m 0) := fun n m h1 h2 => by have a1 := sm n h1; have a2 := sm m h2; exact .inl ⟨by omega, by omega⟩
        refine ⟨_, rfl, _, rfl, p, _, _, _, rfl, rfl, hp, at_of (j := i) (by omega) (int_at hi8), ?_⟩
        refine ⟨_, rfl, _, rfl, _, _, rfl, rfl, p, _, _, _, rfl, rfl, hp, at_of (j := 4 + j) (by omega) (int_at hj4), _, _, rfl, rfl, cm _ _ hi8 hj4, ?_⟩
        refine ⟨_, rfl, _, rfl, p, _, _, _, rfl, rfl, hp, at_of (j := j) (by omega) (int_at hj8), ?_⟩
        refine ⟨_, rfl, _, rfl, _, _, rfl, rfl, p, _, _, _, rfl, rfl, hp, at_of (j := 4 + i) (by omega) (int_at hi4), _, _, rfl, rfl, cm _ _ hj8 hi4, ?_⟩
        refine ⟨rfl, _, rfl, ite2 (fun c => ?_) (fun c => ?_)⟩
        · refine ⟨_, rfl, k p es H4 hp ⟨e8, hz2, i, j, hj, by omega, ?_⟩ R4 kp4⟩
          have e4 : es.length / 2 = 4 := by omega
          rw [e4, Nat.add_comm j 4, Nat.add_comm i 4]
          intro z
          rw [decide_eq_true (congrArg V.int z)] at c
          cases c
        · exact ⟨_, rfl, rfl⟩
      · rintro σ H' ⟨v6, rfl, rfl⟩
        exact ⟨_, _, rfl, rfl⟩
    · rintro σ H' ⟨v5, v6, rfl, rfl⟩
      exact ⟨_, rfl, l, _, 0, _, rfl, rfl, SqL.of hl4, atI_nat (j := 0) rfl, k t0 [0, 1, 1, 0, 0, 0, 0, 1] H4 h04 dr0 R4 kp4⟩
end
/-! ### ruled chains without end -/
theorem rowNo {K : PySem.W.Frag} {H0 : Hp} {r a : Addr} {ns : List Int} (R : RowAt K H0 r a ns) : ∀ b o, b = r → H0 b = some o → (∀ ys, o ≠ .tup ys) ∧ ∀ ob u, o ≠ .frz ob u := fun b o e z => by
  obtain ⟨x, xs, e2⟩ := R.at_
  subst e
  rw [e2] at z
  cases z
  exact ⟨fun _ q => (by cases q), fun _ _ q => (by cases q)⟩
theorem sqT_row {K : PySem.W.Frag} {H H' : Hp} {r a p : Addr} {ns : List Int} {xs : List V} (h : SqT K H p xs) (R : RowAt K H r a ns) (k : ∀ b o, H b = some o → b ≠ r → H' b = some o) : SqT K H' p xs :=
  sqT_but (N := fun b => b = r) h k (rowNo R)
theorem Leaf.At.row {K : PySem.W.Frag} {H H' : Hp} {r a v : Addr} {ns : List Int} {f : Leaf} (h : f.At K H v) (R : RowAt K H r a ns) (k : ∀ b o, H b = some o → b ≠ r → H' b = some o) : f.At K H' v := by
  cases f with
  | frac t b => exact sqT_row h R k
  | root t s b => exact sqT_row h R k
  | ruled ps ring steps =>
    obtain ⟨p, q, u, e, hp, hq, hu⟩ := h
    exact ⟨p, q, u, sqT_row e R k, sqT_row hp R k, sqT_row hq R k, sqT_row hu R k⟩
theorem DrawnR.endless {ps : List Int} (d : DrawnR ps [] []) : DrawnR ps [1, 2] [0, 1] := by
  obtain ⟨⟨⟨p1, p12, r12, sm, tp, tr, ts⟩, one, nn, last⟩, f9, r5, s4⟩ := d
  refine ⟨⟨⟨p1, p12, by decide, rfl, tp, ?_, ?_⟩, ?_, by decide, fun z => nomatch z⟩, f9, by decide, by decide⟩
  · intro z hz
    simp only [List.mem_cons, List.not_mem_nil, or_false] at hz
    rcases hz with rfl | rfl <;> exact ⟨by decide, by decide⟩
  · intro z hz
    simp only [List.mem_cons, List.not_mem_nil, or_false] at hz
    rcases hz with rfl | rfl <;> exact ⟨by decide, by decide⟩
  · intro z hz
    rw [List.append_nil] at one
    rcases List.mem_append.mp hz with h | h
    · exact one z h
    · simp only [List.mem_cons, List.not_mem_nil, or_false] at h
      rcases h with rfl | rfl <;> decide
theorem getD_mem' {xs : List Int} {i : Nat} (h : i < xs.length) : xs.getD i 0 ∈ xs := by
  have e : xs.getD i 0 = xs[i] := by simp [List.getD, h]
  rw [e]
  exact List.getElem_mem h
/-- how great a drawn chain's parts are -/
theorem DrawnR.bound {ps ring steps : List Int} (d : DrawnR ps ring steps) (hr : ring ≠ []) (i : Nat) : (ruledAt ps ring steps i).natAbs ≤ 60 + 4 * i := by
  unfold ruledAt
  split
  · rename_i h
    have := d.f9 _ (getD_mem' h)
    omega
  · have hl : 0 < ring.length := List.length_pos_iff.mpr hr
    have h1 := d.r5 _ (getD_mem' (xs := ring) (i := (i - ps.length) % ring.length) (Nat.mod_lt _ hl))
    have h2 := d.s4 _ (getD_mem' (xs := steps) (i := (i - ps.length) % ring.length) (by rw [d.same]; exact Nat.mod_lt _ hl))
    have hp : 0 < ps.length := List.length_pos_iff.mpr d.p1
    have h3 : (i - ps.length) / ring.length ≤ i - ps.length := Nat.div_le_self _ _
    generalize ring.getD ((i - ps.length) % ring.length) 0 = x at *
    generalize steps.getD ((i - ps.length) % ring.length) 0 = y at *
    generalize (i - ps.length) / ring.length = t at *
    have h4 : (t : Int) * y ≤ t * 4 := Int.mul_le_mul_of_nonneg_left h2.2 (by omega)
    have h5 : 0 ≤ (t : Int) * y := Int.mul_nonneg (by omega) h2.1
    generalize (t : Int) * y = z at *
    by_cases hi : i < ps.length
    · omega
    · omega
theorem ruled_go {ps ring steps : List Int} (hr : ring ≠ []) (i : Nat) : Chain.ended (.ruled ps ring steps i) = false := by
  show (decide (ring = []) && decide (ps.length ≤ i)) = false
  rw [decide_eq_false hr, Bool.false_and]
section
variable {P : Program} {w : World} {K : PySem.W.Frag} {mg : Str → Option Value} {base : Heap} {A : Ad}
end
/-! ### the laws' own asking: NoValue, caught by its own name -/
/-- what is told, or ("none",) -/
def OAt (A : Ad) (H : Hp) (v : V) : Option Ans → Prop
  | none => ∃ t, v = .ref t ∧ H t = some (.tup [.str "none"])
  | some an => an.At A H v
section
variable {X : Cx} {k : Nat} {x m : Str} {ps : List Str} {sp : Sp} {o e : Expr} {es : List Expr} {ta : TE} {t : TA} {p pos apos : Pos} {C : Addr}
def tMethS (C : Addr) (m : Str) (sp : Sp) (E : L2.St → XK) (ta : TE) (t : TA) : TE := fun σ H Q => ta σ H fun x H1 => ∃ a dx fs, x = .ref a ∧ H1 a = some (.ins C dx fs) ∧ fs.lookup m = none ∧ t σ H1 fun vs H2 => sp (.ref a :: vs) H2 Q (E σ)
open PySem.Spec PyProof.Rows in
theorem pe_mS {E : L2.St → XK} {pl : Sem Bool} (M : MOk X.prog X.w X.K X.mg X.base (L2.CX X.prog X.w) k C m ps sp) (hr : Room k X.A) (hx : ∀ σ, PassesAt (L2.CX X.prog X.w) X σ (E σ)) (he : PE X o ta) (ha : PA X (e :: es) t)
    (hst : starEach (e :: es) X.env = (false, eval e X.env) :: starEach es X.env := by rfl) (hpl : (backTo pos (starEach es X.env)).any (·.1) = false := by rfl)
    (ht : eval (.Call (.Attribute o m apos) (e :: es) [] pos) X.env = (do
      let ov ← eval o X.env; standAt apos.atName
      let (f, first) ← holding [ov] (getMethod ov m pl)
      callWith pos f first (backTo pos (starEach (e :: es) X.env)) (backToKw pos (keywordEach [] X.env))) := by rfl) :
    PE X (.Call (.Attribute o m apos) (e :: es) [] pos) (tMethS C m sp E ta t) := by
  obtain ⟨c, f, fd, F, hm, hb⟩ := M
  refine ⟨fun pins s σ H Q I h => ?_⟩
  refine PySem.W.methodCall_KW (pl := pl) (thn (he.run pins s σ H _ I h) fun u s1 ⟨x, H1, I1, rx, a, dx, fs, ex, ea, l, q⟩ => ?_) ht
  subst ex
  obtain rfl : u = Value.ref a := rx
  refine getmeth_ok I1 ea c hm l ?_
  refine PySem.W.callWith_K (first := [.ref a]) (h₀ := X.base) I.ok.mod.kin hm.kp (thn (ha.run pos pins s1 σ H1 _ I1 q) fun us s2 ⟨vs, H2, I2, r, q2⟩ => ⟨I2.kIn, ?_⟩) hst hpl
  exact run_fnS (us := .ref a :: us) (vs := .ref a :: vs) F hr hb (hx σ) I2 (.cons rfl r) q2
end
section
variable {P : Program} {w : World} {K : PySem.W.Frag} {mg : Str → Option Value} {base : Heap} {A : Ad}
end
/-! ### the laws' own gathering of all parts -/
def oVals : Option Ans → List V
  | some a => a.vals
  | none => [.str "none"]
def oData : Option Ans → List PyData
  | some a => a.data
  | none => [.str "none"]
def oWord : Option Ans → Str
  | none => "none"
  | some (.part _) => "part"
  | some .fin => "end"
  | some .waits => "waits"
section
variable {P : Program} {w : World} {K : PySem.W.Frag} {mg : Str → Option Value} {base : Heap} {A : Ad}
theorem oShaped (o : Option Ans) : SeqAt.shaped (.tuple (oData o)) = true := by
  cases o with
  | some a => exact a.shaped
  | none =>
    have h1 : PyData.strOk "none" = true := by decide +kernel
    simp [SeqAt.shaped, oData, PyData.canLay0, PyData.canLayAll0, PyData.depth, PyData.depthAll, h1]
theorem oDp {H : Hp} {p : Addr} (o : Option Ans) (h : SqT K H p (oVals o)) : Dp K H (.ref p) (.tuple (oData o)) := by
  cases o with
  | some a => exact a.dp h
  | none => exact .tup h (.cons (.str _) .nil)
theorem oTup (T : CT K mg A) {H : Hp} {v : V} {o : Option Ans} (h : OAt A H v o) : ∃ p, v = .ref p ∧ SqT K H p (oVals o) := by
  cases o with
  | none => obtain ⟨t, e, ht⟩ := h; exact ⟨t, e, SqT.of ht⟩
  | some a => exact Ans.At.tup T h
/-- only the row's list is written -/
theorem ReadB.row {H H' : Hp} {r a rd ax m : Addr} {ns : List Int} {fp : List Addr} {B : Box} {l s : Int} (R : ReadB A K H rd ax m fp B l s) (Rw : RowAt K H r a ns) (nr : r ∉ fp) (k : ∀ b o, H b = some o → b ≠ r → H' b = some o) : ReadB A K H' rd ax m fp B l s := by
  obtain ⟨x, xs, er⟩ := Rw.at_
  obtain ⟨rx, e1⟩ := R.rd
  obtain ⟨dm, em⟩ := R.mt
  refine R.kept (N := fun c => c = r) (fun c o e n => k c o e n) (fun c o z e => ?_) (fun z => ?_) (fun z => ?_) (fun c hc z => nr (z ▸ hc))
  · subst z
    rw [er] at e
    cases e
    exact ⟨fun _ q => (by cases q), fun _ _ q => (by cases q)⟩
  · rw [z, er] at e1; cases e1
  · rw [z, er] at em; cases em
/-- what a reading changes is no row's -/
theorem RowAt.frame {H H' : Hp} {r a m : Addr} {ns : List Int} {fp : List Addr} (R : RowAt K H r a ns) (hf : ∀ c ∈ fp, Soft H c) (hm : ∃ C dx fs, H m = some (.ins C dx fs)) (nr : r ∉ fp) (k : ∀ c z, H c = some z → c ∉ fp → c ≠ m → H' c = some z) : RowAt K H' r a ns := by
  obtain ⟨⟨i, l, mx, e, z⟩, hS⟩ := R
  obtain ⟨C, dx, fs, em⟩ := hm
  have nrm : r ≠ m := fun q => by rw [q, em] at e; cases e
  refine ⟨⟨i, l, mx, k _ _ e nr nrm, z⟩, ?_⟩
  rcases hS with ⟨o, h⟩ | h
  · refine .inl ⟨o, k _ _ h (fun q => (Soft.no (hf a q) h).2 _ _ rfl) fun q => ?_⟩
    rw [q, em] at h
    cases h
  · exact .inr h
theorem eqv_ow (o : Option Ans) (h : o ≠ some .waits) : PyData.eqv (.tuple (oData o)) (.tuple [.str "waits"]) = false := by
  cases o with
  | none => decide +kernel
  | some a =>
    cases a with
    | part n => rfl
    | fin => decide +kernel
    | waits => exact absurd rfl h
theorem eqv_ww : PyData.eqv (.tuple (oData (some .waits))) (.tuple [.str "waits"]) = true := SeqAt.eqv_refl _ (SeqAt.canLay_of_shaped (oShaped (some .waits)))
theorem hu65 {k : Nat} {A : Around} (r : Room k A) : A.units + 65 < cLine := by have := r.un; omega
end
section
variable {P : Program} {w : World} {K : PySem.W.Frag} {mg : Str → Option Value} {base : Heap} {A : Ad}
end
/-! ### the law's own machine, and the box beside it -/
theorem hu_of {k : Nat} {A : Around} (r : Room k A) : A.units + 1 < cLine := by have := r.un; omega
def optV : Option Int → V
  | some q => .int q
  | none => .non
def cornersOf (ns : List Int) : List (Int × Int) := if ns.length = 4 then fourCorners ns else eightCorners ns
def movedBy (ns : List Int) (which : Nat) (q : Int) : List Int := if ns.length = 4 then withOne ns q else if which = 0 then withFirst ns q else withSecond ns q
def Cor8L (k : Nat) (ns : List Int) : Prop := ∃ a b c d e f g h, ns = [a, b, c, d, e, f, g, h] ∧ Cor8 k a b c d e f g h
def CorL (k : Nat) (ns : List Int) : Prop := ∃ a b c d, ns = [a, b, c, d] ∧ Cor k a b c d
theorem Cor8L.len {k : Nat} {ns : List Int} (h : Cor8L k ns) : ns.length = 8 := by obtain ⟨_, _, _, _, _, _, _, _, rfl, _⟩ := h; rfl
theorem CorL.len {k : Nat} {ns : List Int} (h : CorL k ns) : ns.length = 4 := by obtain ⟨_, _, _, _, rfl, _⟩ := h; rfl
theorem Cor8L.fit {k : Nat} {ns : List Int} (h : Cor8L k ns) (hk : k + 2 < 13000) : allFit ns (eightCorners ns) = true := by
  obtain ⟨_, _, _, _, _, _, _, _, rfl, h⟩ := h
  exact h.fit hk
theorem CorL.fit {k : Nat} {ns : List Int} (h : CorL k ns) (hk : k + 1 < 13000) : allFit ns (fourCorners ns) = true := by
  obtain ⟨_, _, _, _, rfl, h⟩ := h
  exact h.fit hk
theorem Cor8L.turn {k : Nat} {ns : List Int} {q : Int} (h : Cor8L k ns) (hs : surePart (eightCorners ns) = some q) : Cor8L k (turnedOver ns q) := by
  obtain ⟨_, _, _, _, _, _, _, _, rfl, h⟩ := h
  rw [turned8]
  exact ⟨_, _, _, _, _, _, _, _, rfl, h.turn ((sure_iff (by simp [eightCorners])).mp hs)⟩
theorem CorL.turn {k : Nat} {ns : List Int} {q : Int} (h : CorL k ns) (hs : surePart (fourCorners ns) = some q) : CorL k (turnedOver ns q) := by
  obtain ⟨_, _, _, _, rfl, h⟩ := h
  rw [turned4]
  exact ⟨_, _, _, _, rfl, h.turn ((sure_iff (by simp [fourCorners])).mp hs)⟩
theorem Cor8L.first {k n : Nat} {ns : List Int} {p : Int} (h : Cor8L k ns) (hp : p.natAbs + 2 ≤ 2 ^ n) : Cor8L (k + n) (withFirst ns p) := by
  obtain ⟨_, _, _, _, _, _, _, _, rfl, h⟩ := h
  exact ⟨_, _, _, _, _, _, _, _, rfl, h.first hp⟩
theorem Cor8L.second {k n : Nat} {ns : List Int} {p : Int} (h : Cor8L k ns) (hp : p.natAbs + 2 ≤ 2 ^ n) : Cor8L (k + n) (withSecond ns p) := by
  obtain ⟨_, _, _, _, _, _, _, _, rfl, h⟩ := h
  exact ⟨_, _, _, _, _, _, _, _, rfl, h.second hp⟩
theorem CorL.one {k n : Nat} {ns : List Int} {p : Int} (h : CorL k ns) (hp : p.natAbs + 2 ≤ 2 ^ n) : CorL (k + n) (withOne ns p) := by
  obtain ⟨_, _, _, _, rfl, h⟩ := h
  exact ⟨_, _, _, _, rfl, h.take hp⟩
theorem Cor8L.left {k : Nat} {ns : List Int} (h : Cor8L k ns) (i : Nat) : CorL k (leftOf ns i) := by
  obtain ⟨a, b, c, d, e, f, g, h', rfl, h⟩ := h
  unfold leftOf
  split
  · exact ⟨_, _, _, _, rfl, h.ha, h.hab, h.he, h.hef⟩
  · exact ⟨_, _, _, _, rfl, h.ha, h.hac, h.he, h.heg⟩
/-- all four numbers are bounded -/
theorem CorL.all {k : Nat} {ns : List Int} (h : CorL k ns) : Bd (k + 1) (ns.getD 0 0) ∧ Bd (k + 1) (ns.getD 1 0) ∧ Bd (k + 1) (ns.getD 2 0) ∧ Bd (k + 1) (ns.getD 3 0) := by
  obtain ⟨a, b, c, d, rfl, h⟩ := h
  have eb : b = a + b - a := by omega
  have ed : d = c + d - c := by omega
  refine ⟨h.ha.mono (by omega), ?_, h.hc.mono (by omega), ?_⟩
  · show Bd (k + 1) b
    rw [eb]; exact h.hab.sub h.ha
  · show Bd (k + 1) d
    rw [ed]; exact h.hcd.sub h.hc
structure LM where
  ns : List Int
  w : Nat
  i : Nat
  j : Nat
  rest : Option (Int × Int)
  bg : Bool
def LM.tk (M : LM) (k : Nat) : Nat := if k = 0 then M.i else M.j
def LM.ready (M : LM) : Bool := if M.ns.length = 8 then decide (0 < M.i ∧ 0 < M.j) else decide (0 < M.tk M.w)
def LM.sure (M : LM) : Option Int := if M.ready = true then surePart (cornersOf M.ns) else none
def LM.wh (M : LM) : Nat := if M.ns.length = 8 then (if M.j < M.i then 1 else 0) else M.w
def LM.tell (M : LM) (q : Int) : LM := { M with ns := turnedOver M.ns q, bg := true }
def LM.end_ (M : LM) (k : Nat) : LM :=
  if M.ns.length = 4 then { M with rest := some (M.ns.getD 0 0, M.ns.getD 2 0) }
  else if (leftOf M.ns k).getD 0 0 * (leftOf M.ns k).getD 3 0 ≠ (leftOf M.ns k).getD 1 0 * (leftOf M.ns k).getD 2 0 then { M with ns := leftOf M.ns k, w := 1 - k }
  else if (leftOf M.ns k).getD 0 0 = 0 ∧ (leftOf M.ns k).getD 2 0 = 0 then { M with rest := some ((leftOf M.ns k).getD 1 0, (leftOf M.ns k).getD 3 0) }
  else { M with rest := some ((leftOf M.ns k).getD 0 0, (leftOf M.ns k).getD 2 0) }
theorem LM.end8 {M : LM} {k : Nat} {x0 x1 x2 x3 : Int} (hl : M.ns.length = 8) (eL : leftOf M.ns k = [x0, x1, x2, x3]) : M.end_ k = if x0 * x3 ≠ x1 * x2 then { M with ns := [x0, x1, x2, x3], w := 1 - k } else if x0 = 0 ∧ x2 = 0 then { M with rest := some (x1, x3) } else { M with rest := some (x0, x2) } := by
  unfold LM.end_
  rw [if_neg (by rw [hl]; decide), eL]
  rfl
theorem moved_second {ns : List Int} {which : Nat} {q : Int} (hl : ns.length = 8) (hw : which ≠ 0) : movedBy ns which q = withSecond ns q := by
  unfold movedBy
  rw [if_neg (by rw [hl]; decide), if_neg hw]
def LM.take (M : LM) (k : Nat) (q : Int) : LM := if k = 0 then { M with ns := movedBy M.ns k q, i := M.i + 1 } else { M with ns := movedBy M.ns k q, j := M.j + 1 }
def restO (t b : Int) (bg : Bool) : Option Ans := if b = 0 then (if bg = true then some .fin else none) else some (.part (t.fdiv b))
def LM.onward (M : LM) (t b : Int) : LM := if b = 0 then M else { M with rest := some (b, t - t.fdiv b * b), bg := true }
def wrapF (F : Box → Box) (z : Option (Option Ans × Box × Int)) : Option (Option Ans × Box × Int) := z.map fun y => (y.1, F y.2.1, y.2.2)
theorem wrap_id (z : Option (Option Ans × Box × Int)) : wrapF (fun x => x) z = z := by
  unfold wrapF
  cases z <;> rfl
theorem wrap_R (n : Nat) (C : Box) (l : Int) : askF (n + 1) (.eightR C) l = wrapF Box.eightR (askF n C l) := by
  simp only [askF]
  rfl
def SimC (c : Nat → Nat → Chain) (M : LM) (F : Box → Box) (C : Box) : Prop :=
  M.w ≤ 1 ∧ (F = (fun x => x) ∨ F = Box.eightR) ∧
  ((M.rest = none ∧ F = (fun x => x) ∧ Cor8L (5 + 10 * (M.i + M.j)) M.ns ∧ C = .eight M.ns M.i M.j M.bg (.leaf (c 0 M.i)) (.leaf (c 1 M.j))) ∨
   (M.rest = none ∧ CorL (5 + 10 * (M.i + M.j)) M.ns ∧ C = .four M.ns (decide (0 < M.tk M.w)) M.bg (.leaf (c M.w (M.tk M.w)))) ∨
   (∃ t b t', M.rest = some (t, b) ∧ Bd 2000 t ∧ Bd 2000 b ∧ Bd 2000 t' ∧ (b ≠ 0 → t' = t) ∧ (C = .fourR t' b M.bg ∨ C = .fb t' b M.bg)))
section
variable {c : Nat → Nat → Chain} {M : LM} {F : Box → Box} {C : Box}
theorem SimC.len (h : SimC c M F C) (hr : M.rest = none) : (M.ns.length = 4 ∨ M.ns.length = 8) := by
  obtain ⟨_, _, ⟨_, _, h, _⟩ | ⟨_, h, _⟩ | ⟨t, b, t', e, _⟩⟩ := h
  · exact .inr h.len
  · exact .inl h.len
  · rw [hr] at e; cases e
theorem SimC.fits (h : SimC c M F C) (hr : M.rest = none) (hn : M.i + M.j ≤ 125) : (∀ z ∈ M.ns, fits z) ∧ ∀ d ∈ cornersOf M.ns, Cp.fits d.1 ∧ Cp.fits d.2 := by
  obtain ⟨_, _, ⟨_, _, h, _⟩ | ⟨_, h, _⟩ | ⟨t, b, t', e, _⟩⟩ := h
  · have := allFit_ns (h.fit (by omega))
    unfold cornersOf
    rw [if_neg (by rw [h.len]; decide)]
    exact this
  · have := allFit_ns (h.fit (by omega))
    unfold cornersOf
    rw [if_pos h.len]
    exact this
  · rw [hr] at e; cases e
theorem SimC.rest (h : SimC c M F C) {t b : Int} (hr : M.rest = some (t, b)) : Bd 2000 t ∧ Bd 2000 b := by
  obtain ⟨_, _, ⟨e, _⟩ | ⟨e, _⟩ | ⟨t0, b0, t', e, h1, h2, _⟩⟩ := h
  · rw [hr] at e; cases e
  · rw [hr] at e; cases e
  · rw [hr] at e; cases e; exact ⟨h1, h2⟩
theorem LM.sure8 (hl : M.ns.length = 8) : M.sure = sureE M.ns M.i M.j := by
  have e1 : cornersOf M.ns = eightCorners M.ns := if_neg (by rw [hl]; decide)
  have e2 : M.ready = decide (0 < M.i ∧ 0 < M.j) := if_pos hl
  unfold LM.sure
  rw [e1, e2]
  unfold sureE
  by_cases z : 0 < M.i ∧ 0 < M.j
  · rw [if_pos (show (0 : Int) < M.i ∧ (0 : Int) < M.j from ⟨by omega, by omega⟩), decide_eq_true z, if_pos rfl]
  · rw [if_neg (show ¬ ((0 : Int) < M.i ∧ (0 : Int) < M.j) from fun y => z ⟨by omega, by omega⟩), decide_eq_false z, if_neg (by decide)]
theorem LM.sure4 (hl : M.ns.length = 4) : M.sure = sureF M.ns (decide (0 < M.tk M.w)) := by
  have e1 : cornersOf M.ns = fourCorners M.ns := if_pos hl
  have e2 : M.ready = decide (0 < M.tk M.w) := if_neg (by rw [hl]; decide)
  unfold LM.sure
  rw [e1, e2]
theorem sure8 (hl : M.ns.length = 8) (hs : M.sure = none) : sureE M.ns M.i M.j = none := by rw [← LM.sure8 hl]; exact hs
theorem sure4 (hl : M.ns.length = 4) (hs : M.sure = none) : sureF M.ns (decide (0 < M.tk M.w)) = none := by rw [← LM.sure4 hl]; exact hs
/-- a part is sure -/
theorem sim_tell {q : Int} (h : SimC c M F C) (hr : M.rest = none) (hn : M.i + M.j ≤ 125) (hs : M.sure = some q) : ∃ C', (∀ n l, askF (n + 1) C l = some (some (.part q), C', l)) ∧ SimC c (M.tell q) F C' := by
  obtain ⟨hw, hF, ⟨_, hF1, hc, rfl⟩ | ⟨_, hc, rfl⟩ | ⟨t, b, t', e, _⟩⟩ := h
  · rw [LM.sure8 hc.len] at hs
    have hs3 : surePart (eightCorners M.ns) = some q := by
      have hs2 := hs
      unfold sureE at hs2
      split at hs2
      · exact hs2
      · cases hs2
    exact ⟨_, fun n l => askF_eight_tell (hc.fit (by omega)) hs, hw, hF, .inl ⟨hr, hF1, hc.turn hs3, rfl⟩⟩
  · rw [LM.sure4 hc.len] at hs
    have hs3 : surePart (fourCorners M.ns) = some q := by
      have hs2 := hs
      unfold sureF at hs2
      split at hs2
      · exact hs2
      · cases hs2
    exact ⟨_, fun n l => askF_four_tell (hc.fit (by omega)) hs, hw, hF, .inr (.inl ⟨hr, hc.turn hs3, rfl⟩)⟩
  · rw [hr] at e; cases e
theorem sim_waits (h : SimC c M F C) (hr : M.rest = none) (hn : M.i + M.j ≤ 125) (hs : M.sure = none) (he : (c M.wh (M.tk M.wh)).ended = false) : ∀ n, askF (n + 2) C 0 = some (some .waits, C, 0) := by
  intro n
  obtain ⟨hw, hF, ⟨_, hF1, hc, rfl⟩ | ⟨_, hc, rfl⟩ | ⟨t, b, t', e, _⟩⟩ := h
  · have hs2 := sure8 hc.len hs
    unfold LM.wh at he
    rw [if_pos hc.len] at he
    by_cases z : M.j < M.i
    · rw [if_pos z] at he
      exact askF_eight_waits1 (hc.fit (by omega)) hs2 (by omega) (ans_waits he (by decide))
    · rw [if_neg z] at he
      exact askF_eight_waits0 (hc.fit (by omega)) hs2 (by omega) (ans_waits he (by decide))
  · have hs2 := sure4 hc.len hs
    unfold LM.wh at he
    rw [if_neg (by rw [hc.len]; decide)] at he
    exact askF_four_waits (hc.fit (by omega)) hs2 (ans_waits he (by decide))
  · rw [hr] at e; cases e
theorem sim_take {l : Int} (h : SimC c M F C) (hr : M.rest = none) (hn : M.i + M.j ≤ 125) (hs : M.sure = none) (he : (c M.wh (M.tk M.wh)).ended = false) (hp : (c M.wh (M.tk M.wh)).part.natAbs + 2 ≤ 2 ^ 10) (hx : ∀ k n, (c k n).next = c k (n + 1)) (hl : 1 ≤ l) :
    ∃ C', (∀ n, askF (n + 2) C l = askF (n + 1) C' (l - 1)) ∧ SimC c (M.take M.wh (c M.wh (M.tk M.wh)).part) F C' := by
  have fq : fits (c M.wh (M.tk M.wh)).part := Nat.lt_of_lt_of_le (show (c M.wh (M.tk M.wh)).part.natAbs < 2 ^ 10 by omega) (Nat.pow_le_pow_right (by decide) (by decide))
  obtain ⟨hw, hF, ⟨_, hF1, hc, rfl⟩ | ⟨_, hc, rfl⟩ | ⟨t, b, t', e, _⟩⟩ := h
  · have hs2 := sure8 hc.len hs
    have l4 : ¬ M.ns.length = 4 := by rw [hc.len]; decide
    have ew : M.wh = if M.j < M.i then 1 else 0 := if_pos hc.len
    by_cases z : M.j < M.i
    · rw [if_pos z] at ew
      rw [ew] at he hp fq ⊢
      refine ⟨_, fun n => askF_eight_part1 (hc.fit (by omega)) hs2 (by omega) (ans_part he (by omega)) fq, hw, hF, .inl ⟨hr, hF1, ?_, ?_⟩⟩
      · show Cor8L (5 + 10 * (M.i + (M.j + 1))) (movedBy M.ns 1 _)
        unfold movedBy
        rw [if_neg l4, if_neg (by decide)]
        have e : 5 + 10 * (M.i + (M.j + 1)) = 5 + 10 * (M.i + M.j) + 10 := by omega
        rw [e]
        exact hc.second hp
      · rw [hx]
        unfold LM.take movedBy
        rw [if_neg (by decide), if_neg l4, if_neg (by decide)]
        rfl
    · rw [if_neg z] at ew
      rw [ew] at he hp fq ⊢
      refine ⟨_, fun n => askF_eight_part0 (hc.fit (by omega)) hs2 (by omega) (ans_part he (by omega)) fq, hw, hF, .inl ⟨hr, hF1, ?_, ?_⟩⟩
      · show Cor8L (5 + 10 * (M.i + 1 + M.j)) (movedBy M.ns 0 _)
        unfold movedBy
        rw [if_neg l4, if_pos rfl]
        have e : 5 + 10 * (M.i + 1 + M.j) = 5 + 10 * (M.i + M.j) + 10 := by omega
        rw [e]
        exact hc.first hp
      · rw [hx]
        unfold LM.take movedBy
        rw [if_pos rfl, if_neg l4, if_pos rfl]
        rfl
  · have hs2 := sure4 hc.len hs
    have l8 : ¬ M.ns.length = 8 := by rw [hc.len]; decide
    have ew : M.wh = M.w := if_neg l8
    rw [ew] at he hp fq ⊢
    refine ⟨_, fun n => askF_four_part (hc.fit (by omega)) hs2 (ans_part he (by omega)) fq, ?_, hF, .inr (.inl ⟨?_, ?_, ?_⟩)⟩
    · unfold LM.take; split <;> exact hw
    · unfold LM.take; split <;> exact hr
    · have e : CorL (5 + 10 * (M.i + M.j) + 10) (movedBy M.ns M.w (c M.w (M.tk M.w)).part) := by
        unfold movedBy
        rw [if_pos hc.len]
        exact hc.one hp
      unfold LM.take
      split
      · show CorL (5 + 10 * (M.i + 1 + M.j)) _
        rw [show 5 + 10 * (M.i + 1 + M.j) = 5 + 10 * (M.i + M.j) + 10 by omega]
        exact e
      · show CorL (5 + 10 * (M.i + (M.j + 1))) _
        rw [show 5 + 10 * (M.i + (M.j + 1)) = 5 + 10 * (M.i + M.j) + 10 by omega]
        exact e
    · rw [hx]
      unfold LM.take movedBy LM.tk
      rw [if_pos hc.len]
      by_cases z : M.w = 0
      · rw [if_pos z, if_pos z]
        show _ = Box.four _ (decide (0 < if M.w = 0 then M.i + 1 else M.j)) _ (.leaf (c M.w (if M.w = 0 then M.i + 1 else M.j)))
        rw [if_pos z, decide_eq_true (Nat.succ_pos _)]
      · rw [if_neg z, if_neg z]
        show _ = Box.four _ (decide (0 < if M.w = 0 then M.i else M.j + 1)) _ (.leaf (c M.w (if M.w = 0 then M.i else M.j + 1)))
        rw [if_neg z, decide_eq_true (Nat.succ_pos _)]
  · rw [hr] at e; cases e
theorem sim_end (h : SimC c M F C) (hr : M.rest = none) (hn : M.i + M.j ≤ 125) (hs : M.sure = none) (he : (c M.wh (M.tk M.wh)).ended = true) (h0 : 0 < M.tk M.wh) :
    ∃ F' C' d, (∀ n l, wrapF F (askF (n + 1 + d) C l) = wrapF F' (askF (n + 1) C' l)) ∧ SimC c (M.end_ M.wh) F' C' := by
  obtain ⟨hw, hF, ⟨_, hF1, hc, rfl⟩ | ⟨_, hc, rfl⟩ | ⟨t, b, t', e, _⟩⟩ := h
  · have hs2 := sure8 hc.len hs
    have l4 : ¬ M.ns.length = 4 := by rw [hc.len]; decide
    have ew : M.wh = if M.j < M.i then 1 else 0 := if_pos hc.len
    subst hF1
    have key : ∀ (k : Nat) (y : Box), k ≤ 1 → y = .leaf (c (1 - k) (M.tk (1 - k))) → 0 < M.tk (1 - k) → ∃ C', oneBox (leftOf M.ns k) M.bg y = C' ∧ SimC c (M.end_ k) Box.eightR C' := fun k y hk hy ho => by
      refine ⟨_, rfl, ?_⟩
      have hL := hc.left k
      obtain ⟨b0, b1, b2, b3⟩ := hL.all
      have mm : ∀ {z : Int}, Bd (5 + 10 * (M.i + M.j) + 1) z → Bd 2000 z := fun h => h.mono (by omega)
      unfold LM.end_ oneBox
      rw [if_neg l4]
      by_cases z : (leftOf M.ns k).getD 0 0 * (leftOf M.ns k).getD 3 0 ≠ (leftOf M.ns k).getD 1 0 * (leftOf M.ns k).getD 2 0
      · rw [if_pos z, if_pos z]
        refine ⟨(by show 1 - k ≤ 1; omega), .inr rfl, .inr (.inl ⟨hr, hL, ?_⟩)⟩
        show Box.four (leftOf M.ns k) true M.bg y = Box.four (leftOf M.ns k) (decide (0 < M.tk (1 - k))) M.bg (.leaf (c (1 - k) (M.tk (1 - k))))
        rw [hy, decide_eq_true ho]
      · rw [if_neg z, if_neg z]
        have z' := Classical.not_not.mp z
        by_cases y2 : (leftOf M.ns k).getD 2 0 ≠ 0
        · rw [if_pos y2, if_neg (fun x => y2 x.2)]
          exact ⟨hw, .inr rfl, .inr (.inr ⟨_, _, _, rfl, mm b0, mm b2, mm b0, fun _ => rfl, .inr rfl⟩)⟩
        · have y2' := Classical.not_not.mp y2
          rw [if_neg y2]
          by_cases y0 : (leftOf M.ns k).getD 0 0 = 0
          · rw [if_pos ⟨y0, y2'⟩]
            exact ⟨hw, .inr rfl, .inr (.inr ⟨_, _, _, rfl, mm b1, mm b3, mm b1, fun _ => rfl, .inr rfl⟩)⟩
          · rw [if_neg (fun x => y0 x.1)]
            have y3 : (leftOf M.ns k).getD 3 0 = 0 := by
              rw [y2', Int.mul_zero] at z'
              rcases Int.mul_eq_zero.mp z' with x | x
              · exact absurd x y0
              · exact x
            refine ⟨hw, .inr rfl, .inr (.inr ⟨_, _, (leftOf M.ns k).getD 1 0, rfl, mm b0, mm b2, mm b1, fun x => absurd y2' x, .inr ?_⟩)⟩
            rw [y3]
            show Box.fb _ 0 _ = Box.fb _ ((leftOf M.ns k).getD 2 0) _
            rw [y2']
    by_cases z : M.j < M.i
    · rw [if_pos z] at ew
      rw [ew] at he h0 ⊢
      obtain ⟨C', e1, e2⟩ := key 1 (.leaf (c 0 M.i)) (by decide) rfl (by show 0 < M.i; omega)
      refine ⟨Box.eightR, C', 2, fun n l => ?_, e2⟩
      rw [wrap_id, ← wrap_R, ← e1]
      exact askF_eight_fin1 (hc.fit (by omega)) hs2 (by omega) (ans_end he l)
    · rw [if_neg z] at ew
      rw [ew] at he h0 ⊢
      obtain ⟨C', e1, e2⟩ := key 0 (.leaf (c 1 M.j)) (by decide) rfl (by show 0 < M.j; have : 0 < M.i := h0; omega)
      refine ⟨Box.eightR, C', 2, fun n l => ?_, e2⟩
      rw [wrap_id, ← wrap_R, ← e1]
      exact askF_eight_fin0 (hc.fit (by omega)) hs2 (by omega) (ans_end he l)
  · have hs2 := sure4 hc.len hs
    have ew : M.wh = M.w := if_neg (by rw [hc.len]; decide)
    rw [ew] at he h0 ⊢
    obtain ⟨b0, b1, b2, b3⟩ := hc.all
    refine ⟨F, _, 1, fun n l => congrArg (wrapF F) (askF_four_fin (hc.fit (by omega)) hs2 (ans_end he l)), ?_⟩
    unfold LM.end_
    rw [if_pos hc.len]
    exact ⟨hw, hF, .inr (.inr ⟨_, _, _, rfl, b0.mono (by omega), b2.mono (by omega), b0.mono (by omega), fun _ => rfl, .inl rfl⟩)⟩
  · rw [hr] at e; cases e
theorem sim_rest {t b : Int} (h : SimC c M F C) (hr : M.rest = some (t, b)) : ∃ C', (∀ n l, askF (n + 1) C l = some (restO t b M.bg, C', l)) ∧ SimC c (M.onward t b) F C' := by
  obtain ⟨hw, hF, ⟨e, _⟩ | ⟨e, _⟩ | ⟨t0, b0, t', e, h1, h2, h3, h4, hC⟩⟩ := h
  · rw [hr] at e; cases e
  · rw [hr] at e; cases e
  · rw [hr] at e
    cases e
    have ff : fits t' ∧ fits b := ⟨h3.fits (by decide), h2.fits (by decide)⟩
    have key : fbAsk t' b M.bg = some (if b = 0 then (restO t b M.bg, t', b, M.bg) else (restO t b M.bg, b, t - t.fdiv b * b, true)) := by
      unfold fbAsk restO
      rw [if_pos ff]
      by_cases z : b = 0
      · rw [if_pos z, if_pos z, if_pos z]
        cases M.bg <;> rfl
      · rw [if_neg z, if_neg z, if_neg z, h4 z]
    unfold LM.onward
    by_cases z : b = 0
    · rw [if_pos z] at key ⊢
      rcases hC with rfl | rfl
      · exact ⟨_, fun n l => by simp only [askF, key]; rfl, hw, hF, .inr (.inr ⟨t, b, t', hr, h1, h2, h3, h4, .inl rfl⟩)⟩
      · exact ⟨_, fun n l => by simp only [askF, key]; rfl, hw, hF, .inr (.inr ⟨t, b, t', hr, h1, h2, h3, h4, .inr rfl⟩)⟩
    · rw [if_neg z] at key ⊢
      have hb : Bd 2000 (t - t.fdiv b * b) := by
        rw [fmod_eq]
        exact Nat.le_trans (Nat.le_of_lt (fmod_abs z)) h2
      rcases hC with rfl | rfl
      · exact ⟨_, fun n l => by simp only [askF, key]; rfl, hw, hF, .inr (.inr ⟨b, _, b, rfl, h2, hb, h2, fun _ => rfl, .inl rfl⟩)⟩
      · exact ⟨_, fun n l => by simp only [askF, key]; rfl, hw, hF, .inr (.inr ⟨b, _, b, rfl, h2, hb, h2, fun _ => rfl, .inr rfl⟩)⟩
end
/-! ### the law's own way: its small defs -/
section
variable {P : Program} {w : World} {K : PySem.W.Frag} {mg : Str → Option Value} {base : Heap} {A : Ad}
def sp_law_corners (K : PySem.W.Frag) : Sp := fun vs H Q _ => ∃ (p : Addr) (ns : List Int), vs = [.ref p] ∧ SqT K H p (ns.map V.int) ∧ (ns.length = 4 ∨ ns.length = 8) ∧
  ∀ l H', CornersAt K H' l (cornersOf ns) → Same H H' → Q (.ref l) H'
theorem ok_law_corners (T : CT K mg A) (D : DT K mg A) : COk P w K mg base CX0 1 "_law_corners" ["_law_numbers"] (sp_law_corners K) := by
  refine COk.by D.law_corners fun f fd F => ?_
  refine F.ok sc_law_corners (fun vs H Q E h => ?_) (fun cdv Ar outer s H vs Q E hr h => ?_)
  · obtain ⟨p, ns, rfl, _⟩ := h
    rfl
  · obtain ⟨p, ns, rfl, hp, hl, k⟩ := h
    refine ⟨_, (pss_cons (ps_if (pt_cmpR op_eq (pe_callB call_len_seq (by rfl) T.b_len (by decide +kernel) (pa_cons (pv 0) pa_nil)) pe_int (nomark _))
      (pss_cons (ps_asg (pv 0) (pg_tup rfl (pgs_cons (pg_name (i := 1) sc_law_corners.nd rfl (Or.inl rfl)) (pgs_cons (pg_name (i := 2) sc_law_corners.nd rfl (Or.inl rfl)) (pgs_cons (pg_name (i := 3) sc_law_corners.nd rfl (Or.inl rfl)) (pgs_cons (pg_name (i := 4) sc_law_corners.nd rfl (Or.inl rfl)) pgs_nil))))))
    (pss_one (ps_ret (pe_lst (pa_cons (pe_tup (pa_cons (pv 1) (pa_cons (pv 3) pa_nil))) (pa_cons (pe_tup (pa_cons (pe_op op_add (pv 1) (pv 2)) (pa_cons (pe_op op_add (pv 3) (pv 4)) pa_nil))) pa_nil)))))) pss_nil)
    (pss_cons (ps_asg (pv 0) (pg_tup rfl (pgs_cons (pg_name (i := 1) sc_law_corners.nd rfl (Or.inl rfl)) (pgs_cons (pg_name (i := 2) sc_law_corners.nd rfl (Or.inl rfl)) (pgs_cons (pg_name (i := 3) sc_law_corners.nd rfl (Or.inl rfl)) (pgs_cons (pg_name (i := 4) sc_law_corners.nd rfl (Or.inl rfl)) (pgs_cons (pg_name (i := 5) sc_law_corners.nd rfl (Or.inl rfl)) (pgs_cons (pg_name (i := 6) sc_law_corners.nd rfl (Or.inl rfl)) (pgs_cons (pg_name (i := 7) sc_law_corners.nd rfl (Or.inl rfl)) (pgs_cons (pg_name (i := 8) sc_law_corners.nd rfl (Or.inl rfl)) pgs_nil))))))))))
    (pss_one (ps_ret (pe_lst (pa_cons (pe_tup (pa_cons (pv 1) (pa_cons (pv 5) pa_nil))) (pa_cons (pe_tup (pa_cons (pe_op op_add (pv 1) (pv 2)) (pa_cons (pe_op op_add (pv 5) (pv 6)) pa_nil))) (pa_cons (pe_tup (pa_cons (pe_op op_add (pv 1) (pv 3)) (pa_cons (pe_op op_add (pv 5) (pv 7)) pa_nil))) (pa_cons (pe_tup (pa_cons (pe_op op_add (pe_op op_add (pe_op op_add (pv 1) (pv 2)) (pv 3)) (pv 4)) (pa_cons (pe_op op_add (pe_op op_add (pe_op op_add (pv 5) (pv 6)) (pv 7)) (pv 8)) pa_nil))) pa_nil))))))))), ?_⟩
    rcases hl with hl | hl
    · match ns, hl with
      | [a, b, c, d], _ =>
      refine ⟨_, rfl, p, _, rfl, .inr hp, rfl, _, rfl, iteT ?_⟩
      refine ⟨_, rfl, p, _, rfl, hp, rfl, _, _, rfl, _, _, rfl, _, _, rfl, _, _, rfl, rfl, ?_⟩
      refine ⟨_, rfl, _, rfl, (by show 2 ≤ sizeLine; decide), fun q nq => ?_⟩
      have s1 := same_upd (o := .tup [V.int a, .int c]) nq
      refine ⟨_, rfl, _, rfl, _, _, rfl, rfl, _, rfl, _, rfl, _, _, rfl, rfl, (by show 2 ≤ sizeLine; decide), fun r nr => ?_⟩
      have s2 := same_upd (o := .tup [V.int (a + b), .int (c + d)]) nr
      refine ⟨(by show 2 ≤ sizeLine; decide), fun l nl => ?_⟩
      have s3 := same_upd (o := .lst [V.ref q, .ref r]) nl
      exact k l _ ⟨[q, r], SqL.of upd_same, sqT_same (SqT.of upd_same) (s2.trans s3), sqT_same (SqT.of upd_same) s3, trivial⟩ ((s1.trans s2).trans s3)
    · match ns, hl with
      | [a, b, c, d, e, f, g, h], _ =>
      refine ⟨_, rfl, p, _, rfl, .inr hp, rfl, _, rfl, iteF ?_⟩
      refine ⟨_, rfl, p, _, rfl, hp, rfl, _, _, rfl, _, _, rfl, _, _, rfl, _, _, rfl, _, _, rfl, _, _, rfl, _, _, rfl, _, _, rfl, rfl, ?_⟩
      refine ⟨_, rfl, _, rfl, (by show 2 ≤ sizeLine; decide), fun q nq => ?_⟩
      have s1 := same_upd (o := .tup [V.int a, .int e]) nq
      refine ⟨_, rfl, _, rfl, _, _, rfl, rfl, _, rfl, _, rfl, _, _, rfl, rfl, (by show 2 ≤ sizeLine; decide), fun r nr => ?_⟩
      have s2 := same_upd (o := .tup [V.int (a + b), .int (e + f)]) nr
      refine ⟨_, rfl, _, rfl, _, _, rfl, rfl, _, rfl, _, rfl, _, _, rfl, rfl, (by show 2 ≤ sizeLine; decide), fun t nt => ?_⟩
      have s3 := same_upd (o := .tup [V.int (a + c), .int (e + g)]) nt
      refine ⟨_, rfl, _, rfl, _, _, rfl, rfl, _, rfl, _, _, rfl, rfl, _, rfl, _, _, rfl, rfl, _, rfl, _, rfl, _, _, rfl, rfl, _, rfl, _, _, rfl, rfl, _, rfl, _, _, rfl, rfl, (by show 2 ≤ sizeLine; decide), fun u nu => ?_⟩
      have s4 := same_upd (o := .tup [V.int (a + b + c + d), .int (e + f + g + h)]) nu
      refine ⟨(by show 4 ≤ sizeLine; decide), fun l nl => ?_⟩
      have s5 := same_upd (o := .lst [V.ref q, .ref r, .ref t, .ref u]) nl
      exact k l _ ⟨[q, r, t, u], SqL.of upd_same, sqT_same (SqT.of upd_same) (((s2.trans s3).trans s4).trans s5), sqT_same (SqT.of upd_same) ((s3.trans s4).trans s5), sqT_same (SqT.of upd_same) (s4.trans s5), sqT_same (SqT.of upd_same) s5, trivial⟩ ((((s1.trans s2).trans s3).trans s4).trans s5)
def sp_law_moved (K : PySem.W.Frag) : Sp := fun vs H Q _ => ∃ (p : Addr) (ns : List Int) (which : Nat) (q : Int), vs = [.ref p, .int which, .int q] ∧ SqT K H p (ns.map V.int) ∧ (ns.length = 4 ∨ ns.length = 8) ∧ (∀ z ∈ ns, fits z) ∧ fits q ∧
  ∀ r H', SqT K H' r ((movedBy ns which q).map V.int) → Same H H' → Q (.ref r) H'
theorem ok_law_moved (T : CT K mg A) (D : DT K mg A) : COk P w K mg base CX0 1 "_law_moved" ["_law_numbers", "_law_which", "_law_part"] (sp_law_moved K) := by
  refine COk.by D.law_moved fun f fd F => ?_
  refine F.ok sc_law_moved (fun vs H Q E h => ?_) (fun cdv Ar outer s H vs Q E hr h => ?_)
  · obtain ⟨p, ns, which, q, rfl, _⟩ := h
    rfl
  · obtain ⟨p, ns, which, q, rfl, hp, hl, hf, hq, k⟩ := h
    refine ⟨_, (pss_cons (ps_if (pt_cmpR op_eq (pe_callB call_len_seq (by rfl) T.b_len (by decide +kernel) (pa_cons (pv 0) pa_nil)) pe_int (nomark _))
      (pss_cons (ps_asg (pv 0) (pg_tup rfl (pgs_cons (pg_name (i := 3) sc_law_moved.nd rfl (Or.inl rfl)) (pgs_cons (pg_name (i := 4) sc_law_moved.nd rfl (Or.inl rfl)) (pgs_cons (pg_name (i := 5) sc_law_moved.nd rfl (Or.inl rfl)) (pgs_cons (pg_name (i := 6) sc_law_moved.nd rfl (Or.inl rfl)) pgs_nil))))))
    (pss_one (ps_ret (pe_tup (pa_cons (pe_op op_add (pe_op op_mulW (pv 2) (pv 3)) (pv 4)) (pa_cons (pv 3) (pa_cons (pe_op op_add (pe_op op_mulW (pv 2) (pv 5)) (pv 6)) (pa_cons (pv 5) pa_nil)))))))) pss_nil)
    (pss_cons (ps_asg (pv 0) (pg_tup rfl (pgs_cons (pg_name (i := 3) sc_law_moved.nd rfl (Or.inl rfl)) (pgs_cons (pg_name (i := 4) sc_law_moved.nd rfl (Or.inl rfl)) (pgs_cons (pg_name (i := 5) sc_law_moved.nd rfl (Or.inl rfl)) (pgs_cons (pg_name (i := 6) sc_law_moved.nd rfl (Or.inl rfl)) (pgs_cons (pg_name (i := 7) sc_law_moved.nd rfl (Or.inl rfl)) (pgs_cons (pg_name (i := 8) sc_law_moved.nd rfl (Or.inl rfl)) (pgs_cons (pg_name (i := 9) sc_law_moved.nd rfl (Or.inl rfl)) (pgs_cons (pg_name (i := 10) sc_law_moved.nd rfl (Or.inl rfl)) pgs_nil))))))))))
    (pss_cons (ps_if (pt_cmpR op_eq (pv 1) pe_int (nomark _))
      (pss_one (ps_ret (pe_tup (pa_cons (pe_op op_add (pe_op op_mulW (pv 2) (pv 3)) (pv 5)) (pa_cons (pe_op op_add (pe_op op_mulW (pv 2) (pv 4)) (pv 6)) (pa_cons (pv 3) (pa_cons (pv 4) (pa_cons (pe_op op_add (pe_op op_mulW (pv 2) (pv 7)) (pv 9)) (pa_cons (pe_op op_add (pe_op op_mulW (pv 2) (pv 8)) (pv 10)) (pa_cons (pv 7) (pa_cons (pv 8) pa_nil))))))))))) pss_nil)
    (pss_one (ps_ret (pe_tup (pa_cons (pe_op op_add (pe_op op_mulW (pv 2) (pv 3)) (pv 4)) (pa_cons (pv 3) (pa_cons (pe_op op_add (pe_op op_mulW (pv 2) (pv 5)) (pv 6)) (pa_cons (pv 5) (pa_cons (pe_op op_add (pe_op op_mulW (pv 2) (pv 7)) (pv 8)) (pa_cons (pv 7) (pa_cons (pe_op op_add (pe_op op_mulW (pv 2) (pv 9)) (pv 10)) (pa_cons (pv 9) pa_nil)))))))))))))), ?_⟩
    have cm : ∀ x y : Int, q * x + y = x * q + y := fun x y => by rw [Int.mul_comm]
    rcases hl with hl | hl
    · match ns, hl with
      | [a, b, c, d], _ =>
      have m : ∀ z, z ∈ [a, b, c, d] → CMulW q z := fun z hz => fits_mul hq (hf z hz)
      refine ⟨_, rfl, p, _, rfl, .inr hp, rfl, _, rfl, iteT ?_⟩
      refine ⟨_, rfl, p, _, rfl, hp, rfl, _, _, rfl, _, _, rfl, _, _, rfl, _, _, rfl, rfl, ?_⟩
      refine ⟨_, rfl, _, rfl, _, _, rfl, rfl, m a (by simp), _, rfl, _, _, rfl, rfl, _, rfl, _, rfl, _, rfl, _, _, rfl, rfl, m c (by simp), _, rfl, _, _, rfl, rfl, _, rfl, (by show 4 ≤ sizeLine; decide), fun r nr => ?_⟩
      refine k r _ ?_ (same_upd nr)
      show SqT K _ r [V.int (a * q + b), .int a, .int (c * q + d), .int c]
      rw [← cm, ← cm]
      exact SqT.of upd_same
    · match ns, hl with
      | [a, b, c, d, e, f, g, h], _ =>
      have m : ∀ z, z ∈ [a, b, c, d, e, f, g, h] → CMulW q z := fun z hz => fits_mul hq (hf z hz)
      refine ⟨_, rfl, p, _, rfl, .inr hp, rfl, _, rfl, iteF ?_⟩
      refine ⟨_, rfl, p, _, rfl, hp, rfl, _, _, rfl, _, _, rfl, _, _, rfl, _, _, rfl, _, _, rfl, _, _, rfl, _, _, rfl, _, _, rfl, rfl, ?_⟩
      refine ⟨_, rfl, rfl, _, rfl, ite2 (fun z => ?_) (fun z => ?_)⟩
      · have hw : which = 0 := by have := V.int.inj (of_decide_eq_true z); omega
        subst hw
        refine ⟨_, rfl, _, rfl, _, _, rfl, rfl, m a (by simp), _, rfl, _, _, rfl, rfl, _, rfl, _, rfl, _, _, rfl, rfl, m b (by simp), _, rfl, _, _, rfl, rfl, _, rfl, _, rfl, _, rfl, _, rfl, _, _, rfl, rfl, m e (by simp), _, rfl, _, _, rfl, rfl, _, rfl, _, rfl, _, _, rfl, rfl, m f (by simp), _, rfl, _, _, rfl, rfl, _, rfl, _, rfl, (by show 8 ≤ sizeLine; decide), fun r nr => ?_⟩
        refine k r _ ?_ (same_upd nr)
        show SqT K _ r [V.int (a * q + c), .int (b * q + d), .int a, .int b, .int (e * q + g), .int (f * q + h), .int e, .int f]
        rw [← cm, ← cm, ← cm, ← cm]
        exact SqT.of upd_same
      · have hw : which ≠ 0 := fun y => z (decide_eq_true (congrArg V.int (by omega)))
        refine ⟨_, rfl, _, rfl, _, _, rfl, rfl, m a (by simp), _, rfl, _, _, rfl, rfl, _, rfl, _, rfl, _, rfl, _, _, rfl, rfl, m c (by simp), _, rfl, _, _, rfl, rfl, _, rfl, _, rfl, _, rfl, _, _, rfl, rfl, m e (by simp), _, rfl, _, _, rfl, rfl, _, rfl, _, rfl, _, rfl, _, _, rfl, rfl, m g (by simp), _, rfl, _, _, rfl, rfl, _, rfl, (by show 8 ≤ sizeLine; decide), fun r nr => ?_⟩
        refine k r _ ?_ (same_upd nr)
        rw [moved_second rfl hw]
        show SqT K _ r [V.int (a * q + b), .int a, .int (c * q + d), .int c, .int (e * q + f), .int e, .int (g * q + h), .int g]
        rw [← cm, ← cm, ← cm, ← cm]
        exact SqT.of upd_same
def sp_law_sure (K : PySem.W.Frag) : Sp := fun vs H Q _ => ∃ (l : Addr) (cs : List (Int × Int)), vs = [.ref l] ∧ CornersAt K H l cs ∧ 0 < cs.length ∧ cs.length ≤ 4 ∧ (∀ c ∈ cs, fits c.1 ∧ fits c.2) ∧
  ∀ H', Same H H' → Q (optV (surePart cs)) H'
theorem ok_law_sure (T : CT K mg A) (D : DT K mg A) : COk P w K mg base CX0 1 "_law_sure" ["_law_corners_here"] (sp_law_sure K) := by
  refine COk.by D.law_sure fun f fd F => ?_
  refine F.ok sc_law_sure (fun vs H Q E h => ?_) (fun cdv Ar outer s H vs Q E hr h => ?_)
  · obtain ⟨l, cs, rfl, _⟩ := h
    rfl
  · obtain ⟨l, cs, rfl, ⟨ts, hl, hts⟩, h0, h4, hcf, k⟩ := h
    refine ⟨_, (pss_cons (ps_setLc (i := 1) (own := [("_law_top", 2), ("_law_below", 3)]) (g := gTup K 2 (gCons (gName 2) (gCons (gName 3) gNil))) (tt := tYes) rfl sc_law_sure.nd rfl rfl (sw_true rfl rfl rfl (by decide +kernel)) (pi_list (pv 0)) (blkOk_by (own := [("_law_top", 2), ("_law_below", 3)]) (N := ["_law_corners_here", "_law_unders", "_law_top", "_law_below", "_law_part"]) (sc := defScope s_law_sure) (by decide +kernel)) (fun _ _ _ _ _ => (pg_tup rfl (pgs_cons (pg_name (i := 2) sc_law_sure.nd rfl (Or.inl rfl)) (pgs_cons (pg_name (i := 3) sc_law_sure.nd rfl (Or.inl rfl)) pgs_nil)))) (fun _ _ _ _ _ => pts_nil) (fun _ _ _ _ _ => (pv 3)))
    (C8.pss_cut (ps_if (PW.pt (pw_and (pt_cmpR op_le (pe_callB (cr_min rfl) (by rfl) T.b_min (by decide +kernel) (pa_cons (pv 1) pa_nil)) pe_int (nomark _)) (pw_and1 (pt_cmpR op_ge (pe_callB (cr_max rfl) (by rfl) T.b_max (by decide +kernel) (pa_cons (pv 1) pa_nil)) pe_int (nomark _)))))
      (pss_one (ps_ret pe_non)) pss_nil)
    (pss_cons (ps_set (i := 4) sc_law_sure.nd rfl (Or.inl rfl) (pe_callB (cr_min rfl) (by rfl) T.b_min (by decide +kernel) (pa_cons (pe_lc (own := [("_law_top", 2), ("_law_below", 3)]) (g := gTup K 2 (gCons (gName 2) (gCons (gName 3) gNil))) (tt := tYes) rfl sc_law_sure.nd (pi_list (pv 0)) (blkOk_by (own := [("_law_top", 2), ("_law_below", 3)]) (N := ["_law_corners_here", "_law_unders", "_law_top", "_law_below", "_law_part"]) (sc := defScope s_law_sure) (by decide +kernel)) (fun _ _ _ _ _ => (pg_tup rfl (pgs_cons (pg_name (i := 2) sc_law_sure.nd rfl (Or.inl rfl)) (pgs_cons (pg_name (i := 3) sc_law_sure.nd rfl (Or.inl rfl)) pgs_nil)))) (fun _ _ _ _ _ => pts_nil) (fun _ _ _ _ _ => (pe_op op_fdivM (pv 2) (pv 3)))) pa_nil)))
    (pss_cons (ps_for PassesOwn.never rfl (pi_list (pv 0)) (pg_tup rfl (pgs_cons (pg_name (i := 2) sc_law_sure.nd rfl (Or.inl rfl)) (pgs_cons (pg_name (i := 3) sc_law_sure.nd rfl (Or.inl rfl)) pgs_nil)))
      (pss_one (ps_if (pt_cmpR op_gt (pe_callB call_abs (by rfl) T.b_abs (by decide +kernel) (pa_cons (pe_op op_sub (pv 2) (pe_op op_mulW (pv 4) (pv 3))) pa_nil)) (pe_callB call_abs (by rfl) T.b_abs (by decide +kernel) (pa_cons (pv 3) pa_nil)) (nomark _))
      (pss_one (ps_ret pe_non)) pss_nil)))
    (pss_cons (ps_if (pt_cmpR op_eq (pe_ix ix_tup (pe_ix ix_list (pv 0) pe_int (fun _ _ => rfl)) pe_int (fun _ _ => rfl)) (pe_op op_mulW (pe_op op_add (pv 4) pe_int) (pe_ix ix_tup (pe_ix ix_list (pv 0) pe_int (fun _ _ => rfl)) pe_int (fun _ _ => rfl))) (nomark _))
      (pss_one (ps_ret pe_non)) pss_nil)
    (pss_one (ps_ret (pv 4)))))))), ?_⟩
    have hnc : cs ≠ [] := List.length_pos_iff.mp h0
    have full : ∀ {α : Type} (f : Int × Int → α), (cs.take (ts.map V.ref).length).map f = cs.map f := fun f => by rw [List.length_map, hts.len, List.take_of_length_le (Nat.le_refl _)]
    -- the numbers below
    refine ⟨_, rfl, l, rfl, ⟨_, hl⟩, fun D0 nD => lc_list (K := K) (a := l) (xs := ts.map V.ref) (fun i H' => Same H H' ∧ H' D0 = some (.lst (((cs.take i).map fun d => d.2).map V.int)))
      ⟨same_upd nD, upd_same⟩ (fun i H' _ z => sqL_same hl z.1) ?_ ?_⟩
    · rintro i x H' hx ⟨s2, hD⟩
      obtain ⟨t, d, rfl, ed, htd⟩ := hts.at_ hx
      have hi : i < 4 := by
        have := (List.getElem?_eq_some_iff.mp ed).1
        omega
      refine ⟨t, _, rfl, sqT_same htd s2, rfl, _, _, rfl, _, _, rfl, rfl, rfl, ?_⟩
      refine ⟨_, rfl, _, hD, ?_, ?_, ?_⟩
      · rw [List.length_map, List.length_map, List.length_take]
        exact Nat.lt_of_le_of_lt (Nat.min_le_left _ _) (Nat.lt_of_lt_of_le hi (by decide))
      · intro b o z
        rw [upd_ne (ne_of_none z nD)]
        exact s2 _ _ z
      · rw [upd_same, List.take_add_one, ed]
        simp
    rintro H1 ⟨s1, hD1⟩
    rw [full] at hD1
    have hl1 := sqL_same hl s1
    have len1 : 0 < ((cs.map fun d => d.2)).length := by rw [List.length_map]; exact h0
    refine ⟨fun σ H' => H1 = H' ∧ σ = [some (.ref l), some (.ref D0), none, none, none] ∧ ((∀ q ∈ cs, 0 < q.2) ∨ ∀ q ∈ cs, q.2 < 0), ?_, ?_⟩
    · refine ⟨_, rfl, D0, _, rfl, SqL.of hD1, len1, fun m hm hle => ⟨_, _, rfl, rfl, _, rfl, ite2 (fun z => ?_) (fun z => ?_)⟩⟩
      · have z' : m ≤ 0 := of_decide_eq_true z
        refine ⟨_, rfl, D0, _, rfl, SqL.of hD1, len1, fun m2 hm2 hle2 => ⟨_, _, rfl, rfl, _, rfl, ite2 (fun y => ?_) (fun y => ?_)⟩⟩
        · have y' : 0 ≤ m2 := of_decide_eq_true y
          obtain ⟨d1, h1, e1⟩ := List.mem_map.mp hm
          obtain ⟨d2, h2, e2⟩ := List.mem_map.mp hm2
          have kk := k H1 s1
          rw [sure_mixed hnc ⟨_, h1, by omega⟩ ⟨_, h2, by omega⟩] at kk
          exact kk
        · have y' : ¬ 0 ≤ m2 := fun x => y (decide_eq_true x)
          exact ⟨rfl, rfl, .inr fun q hq => by have := hle2 q.2 (List.mem_map.mpr ⟨q, hq, rfl⟩); omega⟩
      · have z' : ¬ m ≤ 0 := fun x => z (decide_eq_true x)
        exact iteF ⟨rfl, rfl, .inl fun q hq => by have := hle q.2 (List.mem_map.mpr ⟨q, hq, rfl⟩); omega⟩
    rintro σ H' ⟨rfl, rfl, hsg⟩
    have nz : ∀ q ∈ cs, q.2 ≠ 0 := fun q hq => by
      rcases hsg with z | z
      · have := z q hq; omega
      · have := z q hq; omega
    -- the least of the parts
    refine ⟨_, rfl, l, rfl, ⟨_, hl1⟩, fun D1 nD1 => lc_list (K := K) (a := l) (xs := ts.map V.ref) (fun i H' => Same H1 H' ∧ H' D1 = some (.lst (((cs.take i).map fun d => d.1.fdiv d.2).map V.int)))
      ⟨same_upd nD1, upd_same⟩ (fun i H' _ z => sqL_same hl1 z.1) ?_ ?_⟩
    · rintro i x H' hx ⟨s2, hD⟩
      obtain ⟨t, d, rfl, ed, htd⟩ := hts.at_ hx
      have hi : i < 4 := by
        have := (List.getElem?_eq_some_iff.mp ed).1
        omega
      have hm : d ∈ cs := List.mem_of_getElem? ed
      refine ⟨t, _, rfl, sqT_same htd (s1.trans s2), rfl, _, _, rfl, _, _, rfl, rfl, rfl, ?_⟩
      refine ⟨_, rfl, _, rfl, _, _, rfl, rfl, ⟨nz _ hm, (hcf _ hm).1⟩, _, hD, ?_, ?_, ?_⟩
      · rw [List.length_map, List.length_map, List.length_take]
        exact Nat.lt_of_le_of_lt (Nat.min_le_left _ _) (Nat.lt_of_lt_of_le hi (by decide))
      · intro b o z
        rw [upd_ne (ne_of_none z nD1)]
        exact s2 _ _ z
      · rw [upd_same, List.take_add_one, ed]
        simp
    rintro H3 ⟨s3, hD3⟩
    rw [full] at hD3
    have hl3 := sqL_same hl1 s3
    refine ⟨D1, _, rfl, SqL.of hD3, (by rw [List.length_map]; exact h0), fun m hm hle => ?_⟩
    obtain ⟨c1, hc1, em⟩ := List.mem_map.mp hm
    have hall : ∀ q ∈ cs, m ≤ q.1.fdiv q.2 := fun q hq => hle _ (List.mem_map.mpr ⟨q, hq, rfl⟩)
    obtain ⟨yes, no⟩ := sure_law hnc hsg ⟨c1, hc1, em⟩ hall
    have fm : fits m := by
      rw [← em]
      exact Nat.lt_of_le_of_lt (fdiv_abs (nz c1 hc1)) (hcf c1 hc1).1
    have abs_ : ∀ z : Int, (if z < 0 then -z else z) = (z.natAbs : Int) := fun z => by split <;> omega
    refine ⟨_, rfl, l, rfl, ⟨_, hl3⟩, for_list (K := K) (a := l) (xs := ts.map V.ref) (fun i σ H' => ∃ v2 v3 : Option V, σ = [some (.ref l), some (.ref D0), v2, v3, some (.int m)] ∧ H' = H3 ∧ ∀ j, j < i → ∀ q, cs[j]? = some q → (q.1 - m * q.2).natAbs ≤ q.2.natAbs)
      ⟨none, none, rfl, rfl, fun j z => absurd z (Nat.not_lt_zero _)⟩ (fun i σ H' _ ⟨_, _, _, e, _⟩ => by rw [e]; exact hl3) ?_ ?_⟩
    · rintro i x σ H' hx ⟨v2, v3, rfl, rfl, hdone⟩
      obtain ⟨t, d, rfl, ed, htd⟩ := hts.at_ hx
      have hm2 : d ∈ cs := List.mem_of_getElem? ed
      refine ⟨t, _, rfl, sqT_same htd (s1.trans s3), rfl, _, _, rfl, _, _, rfl, rfl, ?_⟩
      refine ⟨_, rfl, _, rfl, _, rfl, _, _, rfl, rfl, fits_mul fm (hcf _ hm2).2, _, _, rfl, rfl, _, rfl, _, rfl, _, rfl, _, _, rfl, rfl, _, rfl, ?_⟩
      rw [abs_, abs_]
      refine ite2 (fun z => ?_) (fun z => ?_)
      · have z' : (d.2.natAbs : Int) < ((d.1 - m * d.2).natAbs : Int) := of_decide_eq_true z
        have := no (.inl ⟨_, hm2, by omega⟩)
        have kk3 := k _ (s1.trans s3)
        rw [this] at kk3
        exact kk3
      · have z' : ¬ (d.2.natAbs : Int) < ((d.1 - m * d.2).natAbs : Int) := fun q => z (decide_eq_true q)
        refine ⟨_, _, rfl, rfl, fun j hj q hq => ?_⟩
        rcases Nat.lt_or_ge j i with y | y
        · exact hdone j y q hq
        · have : j = i := by omega
          subst this
          rw [ed] at hq
          cases hq
          omega
    · rintro σ H4 ⟨v2, v3, rfl, rfl, hdone⟩
      have h1 : ∀ q ∈ cs, (q.1 - m * q.2).natAbs ≤ q.2.natAbs := fun q hq => by
        obtain ⟨j, hj⟩ := List.mem_iff_getElem?.mp hq
        refine hdone j ?_ q hj
        rw [List.length_map, hts.len]
        exact (List.getElem?_eq_some_iff.mp hj).1
      obtain ⟨x0, hx0⟩ : ∃ x, (ts.map V.ref)[0]? = some x := ⟨_, List.getElem?_eq_getElem (by rw [List.length_map, hts.len]; exact h0)⟩
      obtain ⟨t0, c0, rfl, ec, ht0'⟩ := hts.at_ hx0
      have hm0 : c0 ∈ cs := List.mem_of_getElem? ec
      have hhd : cs.head? = some c0 := by rw [List.head?_eq_getElem?]; exact ec
      have ht0 := sqT_same ht0' (s1.trans s3)
      have fm1 : CMulW (m + 1) c0.2 := fits_mul1 fm (hcf _ hm0).2
      refine ⟨_, rfl, l, _, 0, _, rfl, rfl, hl3, atI_nat (j := 0) hx0, t0, _, 0, _, rfl, rfl, ht0, atI_nat (j := 0) rfl, ?_⟩
      refine ⟨_, rfl, _, _, rfl, rfl, _, rfl, l, _, 0, _, rfl, rfl, hl3, atI_nat (j := 0) hx0, t0, _, 1, _, rfl, rfl, ht0, atI_nat (j := 1) rfl, _, _, rfl, rfl, fm1, rfl, _, rfl, ite2 (fun z => ?_) (fun z => ?_)⟩
      · have z' : c0.1 = (m + 1) * c0.2 := V.int.inj (of_decide_eq_true z)
        have := no (.inr ⟨c0, hhd, z'⟩)
        have kk3 := k _ (s1.trans s3)
        rw [this] at kk3
        exact kk3
      · have z' : ¬ c0.1 = (m + 1) * c0.2 := fun q => z (decide_eq_true (congrArg V.int q))
        have := yes ⟨h1, fun q hq => by rw [hhd] at hq; cases hq; exact z'⟩
        have kk3 := k _ (s1.trans s3)
        rw [this] at kk3
        exact ⟨_, rfl, kk3⟩
def Drawn4 (es : List Int) : Prop := es.length = 4 ∧ (∀ z ∈ es, -4 ≤ z ∧ z ≤ 4) ∧ Crossed es
def sp_law_four (K : PySem.W.Frag) : Sp := fun vs H Q _ => ∃ (r a : Addr) (ns : List Int), vs = [.ref r] ∧ RowAt K H r a ns ∧
  ∀ p es H', SqT K H' p (es.map V.int) → Drawn4 es → RowAt K H' r a ns → Kp r H H' → Q (.ref p) H'
theorem ok_law_four (T : CT K mg A) (D : DT K mg A) (G_law_signed : COk P w K mg base CX0 2 "_law_signed" ["_law_row_here", "_law_most"] (sp_law_signed K)) : COk P w K mg base CX0 3 "_law_four" ["_law_row_here"] (sp_law_four K) := by
  refine COk.by D.law_four fun f fd F => ?_
  refine F.ok sc_law_four (fun vs H Q E h => ?_) (fun cdv Ar outer s H vs Q E hr h => ?_)
  · obtain ⟨r, a, ns, rfl, _⟩ := h
    rfl
  · obtain ⟨r, a, ns, rfl, R, k⟩ := h
    refine ⟨_, (pss_cons (ps_set (i := 1) sc_law_four.nd rfl (Or.inl rfl) (pe_callTy call_tuple_of (by rfl) T.b_tuple (by decide +kernel) (pa_cons (pe_lc (own := [("_law_k", 2)]) (g := gName 2) (tt := tYes) rfl sc_law_four.nd (pi_range1 rfl T.b_range (pa_cons pe_int pa_nil)) (blkOk_by (own := [("_law_k", 2)]) (N := ["_law_row_here", "_law_numbers", "_law_k"]) (sc := defScope s_law_four) (by decide +kernel)) (fun _ _ _ _ _ => (pg_name (i := 2) sc_law_four.nd rfl (Or.inl rfl))) (fun _ _ _ _ _ => pts_nil) (fun _ _ _ _ _ => (pe_c G_law_signed (hr.mono (by first | decide | omega)) (pa_cons (pv 0) (pa_cons pe_int pa_nil))))) pa_nil)))
    (pss_cons (ps_if (pt_cmpR op_eq (pe_op op_mul (pe_ix ix_tup (pv 1) pe_int (fun _ _ => rfl)) (pe_ix ix_tup (pv 1) pe_int (fun _ _ => rfl))) (pe_op op_mul (pe_ix ix_tup (pv 1) pe_int (fun _ _ => rfl)) (pe_ix ix_tup (pv 1) pe_int (fun _ _ => rfl))) (nomark _))
      (pss_one (ps_ret (pe_tup (pa_cons pe_int (pa_cons pe_int (pa_cons pe_int (pa_cons pe_int pa_nil))))))) pss_nil)
    (pss_one (ps_ret (pv 1))))), ?_⟩
    refine ⟨4, rfl, by decide, by decide, fun D0 nD => lc_range (lo := 0) (n := 4) (fun i H' => ∃ zs : List Int, H' D0 = some (.lst (zs.map V.int)) ∧ zs.length = i ∧ (∀ z ∈ zs, -4 ≤ z ∧ z ≤ 4) ∧ RowAt K H' r a ns ∧ Kp r H H') ?_ ?_ ?_⟩
    · exact ⟨[], upd_same, rfl, (fun z hz => by cases hz), R.same (same_upd nD), .same (same_upd nD)⟩
    · rintro i H' hi ⟨zs, hD, hz1, hz2, R', k'⟩
      have nDr : D0 ≠ r := by
        obtain ⟨x, xs, e⟩ := R'.at_
        exact ne_of hD e (by intro z; exact ref_ne zs (HO.lst.inj z).symm)
      refine ⟨rfl, _, rfl, r, a, ns, 4, rfl, R', by decide, by decide, fun t H'' t0 t1 R'' kp'' => ?_⟩
      have hD2 := kp'' D0 _ hD nDr
      refine ⟨_, hD2, ?_, zs ++ [t], ?_, ?_, ?_, R''.put hD2 nDr, Kp.put (k'.trans kp'') nD rfl⟩
      · rw [List.length_map]
        exact Nat.lt_of_lt_of_le (show zs.length < 20 by omega) (by decide)
      · rw [upd_same, List.map_append]
        rfl
      · rw [List.length_append, hz1]
        rfl
      · intro z hz
        rcases List.mem_append.mp hz with hz | hz
        · exact hz2 z hz
        · have e := List.mem_singleton.mp hz
          exact ⟨by omega, by omega⟩
    rintro H3 ⟨es, hD3, hz1, hz2, R3, kp3⟩
    refine ⟨D0, _, rfl, .inl ⟨SqL.of hD3, fun p np => ?_⟩⟩
    have s5 := same_upd (o := .tup (es.map V.int)) np
    have hp : SqT K (upd H3 p (.tup (es.map V.int))) p (es.map V.int) := SqT.of upd_same
    have R4 := R3.same s5
    have kp4 : Kp r H (upd H3 p (.tup (es.map V.int))) := kp3.trans (.same s5)
    generalize upd H3 p (.tup (es.map V.int)) = H4 at *
    match es, hz1 with
    | [x0, x1, x2, x3], _ =>
    have b0 := hz2 x0 (by simp)
    have b1 := hz2 x1 (by simp)
    have cm : ∀ x y : Int, -4 ≤ x ∧ x ≤ 4 → CMul x y := fun x y h => .inl ⟨by omega, by omega⟩
    refine ⟨_, rfl, p, _, 0, _, rfl, rfl, hp, atI_nat (j := 0) rfl, _, rfl, p, _, 3, _, rfl, rfl, hp, atI_nat (j := 3) rfl, _, _, rfl, rfl, cm _ _ b0, ?_⟩
    refine ⟨_, rfl, p, _, 1, _, rfl, rfl, hp, atI_nat (j := 1) rfl, _, rfl, p, _, 2, _, rfl, rfl, hp, atI_nat (j := 2) rfl, _, _, rfl, rfl, cm _ _ b1, rfl, _, rfl, ite2 (fun c => ?_) (fun c => ?_)⟩
    · refine ⟨(by show 4 ≤ sizeLine; decide), fun q nq => ?_⟩
      exact k q [1, 2, 0, 1] _ (SqT.of upd_same) ⟨rfl, by decide, 1, 0, by decide, by decide, by decide⟩ (R4.same (same_upd nq)) (kp4.trans (.same (same_upd nq)))
    · refine ⟨_, rfl, k p _ H4 hp ⟨rfl, hz2, 1, 0, by decide, by simp, fun z => c (decide_eq_true (congrArg V.int (by simpa using z.symm)))⟩ R4 kp4⟩
/-! the machine's dict -/
def mD (nums w tk rest bg : V) : List (Key × V) := [(.inr "numbers", nums), (.inr "which", w), (.inr "taken", tk), (.inr "rest", rest), (.inr "begun", bg)]
section
variable {n w' t r b x : V}
theorem mD_numbers : valV (mD n w' t r b) (.inr "numbers") = some n := rfl
theorem mD_which : valV (mD n w' t r b) (.inr "which") = some w' := rfl
theorem mD_taken : valV (mD n w' t r b) (.inr "taken") = some t := rfl
theorem mD_rest : valV (mD n w' t r b) (.inr "rest") = some r := rfl
theorem mD_begun : valV (mD n w' t r b) (.inr "begun") = some b := rfl
theorem mD_put_numbers : putK (mD n w' t r b) (.inr "numbers") x = mD x w' t r b := rfl
theorem mD_put_which : putK (mD n w' t r b) (.inr "which") x = mD n x t r b := rfl
theorem mD_put_rest : putK (mD n w' t r b) (.inr "rest") x = mD n w' t x b := rfl
theorem mD_put_begun : putK (mD n w' t r b) (.inr "begun") x = mD n w' t r x := rfl
end
section
variable {H : Hp} {m : Addr} {n w' t r b x : V}
theorem mg_numbers (h : H m = some (.dK (mD n w' t r b))) : DGet H m (.str "numbers") (some n) := .inl ⟨_, .inr "numbers", .inl h, rfl, rfl⟩
theorem mg_which (h : H m = some (.dK (mD n w' t r b))) : DGet H m (.str "which") (some w') := .inl ⟨_, .inr "which", .inl h, rfl, rfl⟩
theorem mg_taken (h : H m = some (.dK (mD n w' t r b))) : DGet H m (.str "taken") (some t) := .inl ⟨_, .inr "taken", .inl h, rfl, rfl⟩
theorem mg_rest (h : H m = some (.dK (mD n w' t r b))) : DGet H m (.str "rest") (some r) := .inl ⟨_, .inr "rest", .inl h, rfl, rfl⟩
theorem mg_begun (h : H m = some (.dK (mD n w' t r b))) : DGet H m (.str "begun") (some b) := .inl ⟨_, .inr "begun", .inl h, rfl, rfl⟩
theorem mp_numbers (h : H m = some (.dK (mD n w' t r b))) : DPut H m (.str "numbers") x (upd H m (.dK (mD x w' t r b))) := .inl ⟨_, .inr "numbers", h, rfl, (by show 5 < sizeLine; decide), rfl⟩
theorem mp_which (h : H m = some (.dK (mD n w' t r b))) : DPut H m (.str "which") x (upd H m (.dK (mD n x t r b))) := .inl ⟨_, .inr "which", h, rfl, (by show 5 < sizeLine; decide), rfl⟩
theorem mp_rest (h : H m = some (.dK (mD n w' t r b))) : DPut H m (.str "rest") x (upd H m (.dK (mD n w' t x b))) := .inl ⟨_, .inr "rest", h, rfl, (by show 5 < sizeLine; decide), rfl⟩
theorem mp_begun (h : H m = some (.dK (mD n w' t r b))) : DPut H m (.str "begun") x (upd H m (.dK (mD n w' t r x))) := .inl ⟨_, .inr "begun", h, rfl, (by show 5 < sizeLine; decide), rfl⟩
end
def RestAt (K : PySem.W.Frag) (H : Hp) (rv : V) : Option (Int × Int) → Prop
  | none => rv = .non
  | some c => ∃ q, rv = .ref q ∧ SqT K H q [.int c.1, .int c.2]
/-- the machine at m, its list of parts taken at tk -/
structure MAt (K : PySem.W.Frag) (H : Hp) (m tk : Addr) (M : LM) : Prop where
  ex : ∃ p rv, H m = some (.dK (mD (.ref p) (.int M.w) (.ref tk) rv (.bl M.bg))) ∧ SqT K H p (M.ns.map V.int) ∧ RestAt K H rv M.rest
  tk : H tk = some (.lst [.int M.i, .int M.j])
theorem sqT_dk {H : Hp} {a d : Addr} {xs : List V} {o : HO} {kvs : List (Key × V)} (h : SqT K H a xs) (hd : H d = some (.dK kvs)) : SqT K (upd H d o) a xs :=
  sqT_but (N := fun c => c = d) h (fun c u e n => by rw [upd_ne n]; exact e) fun c u e z => by
    subst e
    rw [hd] at z
    cases z
    exact ⟨fun _ q => (by cases q), fun _ _ q => (by cases q)⟩
theorem RestAt.dk {H : Hp} {d : Addr} {rv : V} {o : HO} {kvs : List (Key × V)} {r : Option (Int × Int)} (h : RestAt K H rv r) (hd : H d = some (.dK kvs)) : RestAt K (upd H d o) rv r := by
  cases r with
  | none => exact h
  | some c => obtain ⟨q, e, hq⟩ := h; exact ⟨q, e, sqT_dk hq hd⟩
theorem RestAt.same {H H' : Hp} {rv : V} {r : Option (Int × Int)} (h : RestAt K H rv r) (s : Same H H') : RestAt K H' rv r := by
  cases r with
  | none => exact h
  | some c => obtain ⟨q, e, hq⟩ := h; exact ⟨q, e, sqT_same hq s⟩
theorem MAt.same {H H' : Hp} {m tk : Addr} {M : LM} (h : MAt K H m tk M) (s : Same H H') : MAt K H' m tk M := by
  obtain ⟨⟨p, rv, e, hp, hr⟩, ht⟩ := h
  exact ⟨⟨p, rv, s _ _ e, sqT_same hp s, hr.same s⟩, s _ _ ht⟩
theorem MAt.ne {H : Hp} {m tk : Addr} {M : LM} (h : MAt K H m tk M) : tk ≠ m := by
  obtain ⟨⟨p, rv, e, hp, hr⟩, ht⟩ := h
  exact ne_of ht e (by intro z; cases z)
/-- all but the machine stays -/
def FrM (m tk : Addr) (H H' : Hp) : Prop := ∀ c z, H c = some z → c ≠ m → c ≠ tk → H' c = some z
theorem FrM.trans {m tk : Addr} {H H1 H2 : Hp} (a : FrM m tk H H1) (b : FrM m tk H1 H2) : FrM m tk H H2 := fun c o e n n' => b c o (a c o e n n') n n'
theorem FrM.same {m tk : Addr} {H H' : Hp} (s : Same H H') : FrM m tk H H' := fun c o e _ _ => s c o e
theorem FrM.put {m tk : Addr} {H : Hp} {o : HO} : FrM m tk H (upd H m o) := fun c z e n _ => by rw [upd_ne n]; exact e
theorem FrM.put2 {m tk : Addr} {H : Hp} {o : HO} : FrM m tk H (upd H tk o) := fun c z e _ n => by rw [upd_ne n]; exact e
def sp_law_ended (K : PySem.W.Frag) : Sp := fun vs H Q _ => ∃ (m tk : Addr) (M : LM) (which : Nat), vs = [.ref m, .int which] ∧ MAt K H m tk M ∧ which ≤ 1 ∧ M.rest = none ∧ (M.ns.length = 4 ∨ M.ns.length = 8) ∧ (∀ z ∈ M.ns, fits z) ∧
  ∀ H', MAt K H' m tk (M.end_ which) → FrM m tk H H' → Q .non H'
theorem ok_law_ended (T : CT K mg A) (D : DT K mg A) : COk P w K mg base CX0 1 "_law_ended" ["_law_m", "_law_which"] (sp_law_ended K) := by
  refine COk.by D.law_ended fun f fd F => ?_
  refine F.ok sc_law_ended (fun vs H Q E h => ?_) (fun cdv Ar outer s H vs Q E hr h => ?_)
  · obtain ⟨m, tk, M, which, rfl, _⟩ := h
    rfl
  · obtain ⟨m, tk, M, which, rfl, hM, hwh, hrest, hl, hf, k⟩ := h
    refine ⟨_, (pss_cons (ps_set (i := 2) sc_law_ended.nd rfl (Or.inl rfl) (pe_dget (hu_of hr) (pv 0) pe_str (fun _ _ => rfl)))
    (pss_cons (ps_if (pt_cmpR op_eq (pe_callB call_len_seq (by rfl) T.b_len (by decide +kernel) (pa_cons (pv 2) pa_nil)) pe_int (nomark _))
      (pss_cons (ps_dput (hu_of hr) (pv 0) pe_str (pe_tup (pa_cons (pe_ix ix_tup (pv 2) pe_int (fun _ _ => rfl)) (pa_cons (pe_ix ix_tup (pv 2) pe_int (fun _ _ => rfl)) pa_nil))) rfl)
    (pss_one ps_retN)) pss_nil)
    (pss_cons (ps_set (i := 3) sc_law_ended.nd rfl (Or.inl rfl) (pe_ix ix_list (pe_lst (pa_cons (pe_tup (pa_cons (pe_ix ix_tup (pv 2) pe_int (fun _ _ => rfl)) (pa_cons (pe_ix ix_tup (pv 2) pe_int (fun _ _ => rfl)) (pa_cons (pe_ix ix_tup (pv 2) pe_int (fun _ _ => rfl)) (pa_cons (pe_ix ix_tup (pv 2) pe_int (fun _ _ => rfl)) pa_nil))))) (pa_cons (pe_tup (pa_cons (pe_ix ix_tup (pv 2) pe_int (fun _ _ => rfl)) (pa_cons (pe_ix ix_tup (pv 2) pe_int (fun _ _ => rfl)) (pa_cons (pe_ix ix_tup (pv 2) pe_int (fun _ _ => rfl)) (pa_cons (pe_ix ix_tup (pv 2) pe_int (fun _ _ => rfl)) pa_nil))))) pa_nil))) (pv 1) (fun _ _ => rfl)))
    (pss_one (ps_if (pt_cmpR op_ne (pe_op op_mulW (pe_ix ix_tup (pv 3) pe_int (fun _ _ => rfl)) (pe_ix ix_tup (pv 3) pe_int (fun _ _ => rfl))) (pe_op op_mulW (pe_ix ix_tup (pv 3) pe_int (fun _ _ => rfl)) (pe_ix ix_tup (pv 3) pe_int (fun _ _ => rfl))) (nomark _))
      (pss_cons (ps_dput (hu_of hr) (pv 0) pe_str (pv 3) rfl)
    (pss_one (ps_dput (hu_of hr) (pv 0) pe_str (pe_op op_sub pe_int (pv 1)) rfl))) (pss_one (ps_if (PW.pt (pw_and (pt_cmpR op_eq (pe_ix ix_tup (pv 3) pe_int (fun _ _ => rfl)) pe_int (nomark _)) (pw_and1 (pt_cmpR op_eq (pe_ix ix_tup (pv 3) pe_int (fun _ _ => rfl)) pe_int (nomark _)))))
      (pss_one (ps_dput (hu_of hr) (pv 0) pe_str (pe_tup (pa_cons (pe_ix ix_tup (pv 3) pe_int (fun _ _ => rfl)) (pa_cons (pe_ix ix_tup (pv 3) pe_int (fun _ _ => rfl)) pa_nil))) rfl)) (pss_one (ps_dput (hu_of hr) (pv 0) pe_str (pe_tup (pa_cons (pe_ix ix_tup (pv 3) pe_int (fun _ _ => rfl)) (pa_cons (pe_ix ix_tup (pv 3) pe_int (fun _ _ => rfl)) pa_nil))) rfl))))))))), ?_⟩
    have ntm := hM.ne
    obtain ⟨⟨p, rv, em, hp, hrv⟩, ht⟩ := hM
    obtain ⟨ns, w', mi, mj, rest, bg⟩ := M
    simp only at *
    refine ⟨_, rfl, _, _, rfl, mg_numbers em, ?_⟩
    rcases hl with hl | hl
    · match ns, hl with
      | [a, b, c, d], _ =>
      refine ⟨_, rfl, p, _, rfl, .inr hp, rfl, _, rfl, iteT ?_⟩
      refine ⟨_, rfl, p, _, 0, _, rfl, rfl, hp, atI_nat (j := 0) rfl, _, rfl, p, _, 2, _, rfl, rfl, hp, atI_nat (j := 2) rfl, (by show 2 ≤ sizeLine; decide), fun q nq => ?_⟩
      have s1 := same_upd (o := .tup [V.int a, .int c]) nq
      have em1 := s1 _ _ em
      refine ⟨_, rfl, _, _, rfl, mp_rest em1, ?_⟩
      refine k _ ⟨⟨p, .ref q, upd_same, sqT_dk (sqT_same hp s1) em1, q, rfl, sqT_dk (SqT.of upd_same) em1⟩, ?_⟩ ((FrM.same s1).trans FrM.put)
      rw [upd_ne ntm]
      exact s1 _ _ ht
    · match ns, hl with
      | [a, b, c, d, e, f, g, h], _ =>
      refine ⟨_, rfl, p, _, rfl, .inr hp, rfl, _, rfl, iteF ?_⟩
      refine ⟨_, rfl, p, _, 0, _, rfl, rfl, hp, atI_nat (j := 0) rfl, _, rfl, p, _, 1, _, rfl, rfl, hp, atI_nat (j := 1) rfl, _, rfl, p, _, 4, _, rfl, rfl, hp, atI_nat (j := 4) rfl, _, rfl, p, _, 5, _, rfl, rfl, hp, atI_nat (j := 5) rfl, (by show 4 ≤ sizeLine; decide), fun q0 nq0 => ?_⟩
      have s1 := same_upd (o := .tup [V.int a, .int b, .int e, .int f]) nq0
      have hp1 := sqT_same hp s1
      refine ⟨_, rfl, p, _, 0, _, rfl, rfl, hp1, atI_nat (j := 0) rfl, _, rfl, p, _, 2, _, rfl, rfl, hp1, atI_nat (j := 2) rfl, _, rfl, p, _, 4, _, rfl, rfl, hp1, atI_nat (j := 4) rfl, _, rfl, p, _, 6, _, rfl, rfl, hp1, atI_nat (j := 6) rfl, (by show 4 ≤ sizeLine; decide), fun q1 nq1 => ?_⟩
      have s2 := same_upd (o := .tup [V.int a, .int c, .int e, .int g]) nq1
      refine ⟨(by show 2 ≤ sizeLine; decide), fun l nl => ?_⟩
      have s3 := same_upd (o := .lst [V.ref q0, .ref q1]) nl
      have h0 := sqT_same (K := K) (SqT.of upd_same) (s2.trans s3)
      have h1 := sqT_same (K := K) (SqT.of upd_same) s3
      have hll := upd_at s3
      have ss := (s1.trans s2).trans s3
      have em3 := ss _ _ em
      have hp3 := sqT_same hp ss
      have ht3 := ss _ _ ht
      generalize upd (upd (upd H q0 _) q1 _) l _ = H3 at *
      have hL : ∃ (qx x1 x3 : _), atI [V.ref q0, .ref q1] (which : Int) = some (.ref qx) ∧ SqT K H3 qx [.int a, .int x1, .int e, .int x3] ∧ leftOf [a, b, c, d, e, f, g, h] which = [a, x1, e, x3] ∧ fits x1 ∧ fits x3 := by
        obtain z | z : which = 0 ∨ which = 1 := by omega
        · subst z
          exact ⟨q0, b, f, rfl, h0, rfl, hf b (by simp), hf f (by simp)⟩
        · subst z
          exact ⟨q1, c, g, rfl, h1, rfl, hf c (by simp), hf g (by simp)⟩
      obtain ⟨qx, x1, x3, hat, hqx, eL, f1, f3⟩ := hL
      refine ⟨_, rfl, l, _, _, _, rfl, rfl, SqL.of hll, hat, ?_⟩
      have fa := hf a (by simp)
      have k2 : ∀ (H' : Hp) (M' : LM), (LM.end_ ⟨[a, b, c, d, e, f, g, h], w', mi, mj, rest, bg⟩ which) = M' → MAt K H' m tk M' → FrM m tk H3 H' → Q .non H' := fun H' M' e hm fr => k H' (by rw [e]; exact hm) ((FrM.same ss).trans fr)
      have e8 := LM.end8 (M := ⟨[a, b, c, d, e, f, g, h], w', mi, mj, rest, bg⟩) rfl eL
      rw [e8] at k2
      refine ⟨_, rfl, qx, _, 0, _, rfl, rfl, hqx, atI_nat (j := 0) rfl, _, rfl, qx, _, 3, _, rfl, rfl, hqx, atI_nat (j := 3) rfl, _, _, rfl, rfl, fits_mul fa f3, ?_⟩
      refine ⟨_, rfl, qx, _, 1, _, rfl, rfl, hqx, atI_nat (j := 1) rfl, _, rfl, qx, _, 2, _, rfl, rfl, hqx, atI_nat (j := 2) rfl, _, _, rfl, rfl, fits_mul f1 (hf e (by simp)), rfl, _, rfl, ite2 (fun z => ?_) (fun z => ?_)⟩
      · have z' : a * x3 ≠ x1 * e := fun y => by rw [decide_eq_true (congrArg V.int y)] at z; cases z
        refine ⟨_, rfl, _, rfl, _, _, rfl, mp_numbers em3, ?_⟩
        have em4 := (upd_same (H := H3) (a := m) (o := .dK (mD (.ref qx) (.int w') (.ref tk) rv (.bl bg))))
        refine ⟨_, rfl, _, _, rfl, rfl, _, rfl, _, _, rfl, mp_which em4, ?_⟩
        refine k2 _ _ (if_pos z') ⟨⟨qx, rv, ?_, sqT_dk (sqT_dk hqx em3) em4, hrv.same ss |>.dk em3 |>.dk em4⟩, ?_⟩ (FrM.put.trans FrM.put)
        · rw [upd_same]
          show some (HO.dK (mD _ (.int (1 - (which : Int))) _ _ _)) = some (HO.dK (mD _ (.int ((1 - which : Nat) : Int)) _ _ _))
          rw [show (1 - (which : Int)) = ((1 - which : Nat) : Int) by omega]
        · rw [upd_ne ntm, upd_ne ntm]
          exact ht3
      · have z' : ¬ a * x3 ≠ x1 * e := fun y => z (by rw [decide_eq_false (fun x => y (V.int.inj x))]; rfl)
        have fin : ∀ (y0 y1 : Int) (q : Addr) (H' : Hp), Same H3 H' → SqT K H' q [.int y0, .int y1] → LM.end_ ⟨[a, b, c, d, e, f, g, h], w', mi, mj, rest, bg⟩ which = ⟨[a, b, c, d, e, f, g, h], w', mi, mj, some (y0, y1), bg⟩ → Q .non (upd H' m (.dK (mD (.ref p) (.int w') (.ref tk) (.ref q) (.bl bg)))) := fun y0 y1 q H' s' hq e => by
          have em' := s' _ _ em3
          refine k _ (by rw [e]; exact ⟨⟨p, .ref q, upd_same, sqT_dk (sqT_same hp3 s') em', q, rfl, sqT_dk hq em'⟩, by rw [upd_ne ntm]; exact s' _ _ ht3⟩) (((FrM.same ss).trans (FrM.same s')).trans FrM.put)
        have en : LM.end_ ⟨[a, b, c, d, e, f, g, h], w', mi, mj, rest, bg⟩ which = if a = 0 ∧ e = 0 then ⟨[a, b, c, d, e, f, g, h], w', mi, mj, some (x1, x3), bg⟩ else ⟨[a, b, c, d, e, f, g, h], w', mi, mj, some (a, e), bg⟩ := by
          rw [e8]
          exact if_neg z'
        refine ⟨_, rfl, qx, _, 0, _, rfl, rfl, hqx, atI_nat (j := 0) rfl, rfl, _, rfl, ite2 (fun y => ?_) (fun y => ?_)⟩
        · have y' : a = 0 := V.int.inj (of_decide_eq_true y)
          refine ⟨_, rfl, qx, _, 2, _, rfl, rfl, hqx, atI_nat (j := 2) rfl, rfl, _, rfl, ite2 (fun x => ?_) (fun x => ?_)⟩
          · have x' : e = 0 := V.int.inj (of_decide_eq_true x)
            refine ⟨_, rfl, qx, _, 1, _, rfl, rfl, hqx, atI_nat (j := 1) rfl, _, rfl, qx, _, 3, _, rfl, rfl, hqx, atI_nat (j := 3) rfl, (by show 2 ≤ sizeLine; decide), fun q nq => ?_⟩
            have s4 := same_upd (o := .tup [V.int x1, .int x3]) nq
            exact ⟨_, rfl, _, _, rfl, mp_rest (s4 _ _ em3), fin _ _ q _ s4 (SqT.of upd_same) (by rw [en, if_pos ⟨y', x'⟩])⟩
          · have x' : ¬ e = 0 := fun u => x (decide_eq_true (congrArg V.int u))
            refine ⟨_, rfl, qx, _, 0, _, rfl, rfl, hqx, atI_nat (j := 0) rfl, _, rfl, qx, _, 2, _, rfl, rfl, hqx, atI_nat (j := 2) rfl, (by show 2 ≤ sizeLine; decide), fun q nq => ?_⟩
            have s4 := same_upd (o := .tup [V.int a, .int e]) nq
            exact ⟨_, rfl, _, _, rfl, mp_rest (s4 _ _ em3), fin _ _ q _ s4 (SqT.of upd_same) (by rw [en, if_neg (fun u => x' u.2)])⟩
        · have y' : ¬ a = 0 := fun u => y (decide_eq_true (congrArg V.int u))
          refine iteF ?_
          refine ⟨_, rfl, qx, _, 0, _, rfl, rfl, hqx, atI_nat (j := 0) rfl, _, rfl, qx, _, 2, _, rfl, rfl, hqx, atI_nat (j := 2) rfl, (by show 2 ≤ sizeLine; decide), fun q nq => ?_⟩
          have s4 := same_upd (o := .tup [V.int a, .int e]) nq
          exact ⟨_, rfl, _, _, rfl, mp_rest (s4 _ _ em3), fin _ _ q _ s4 (SqT.of upd_same) (by rw [en, if_neg (fun u => y' u.1)])⟩
def sp_law_rest (K : PySem.W.Frag) : Sp := fun vs H Q _ => ∃ (m tk : Addr) (M : LM) (t b : Int), vs = [.ref m] ∧ MAt K H m tk M ∧ M.rest = some (t, b) ∧ fits t ∧ fits b ∧
  ∀ q H', H' q = some (.tup (oVals (restO t b M.bg))) → MAt K H' m tk (M.onward t b) → FrM m tk H H' → Q (.ref q) H'
theorem ok_law_rest (T : CT K mg A) (D : DT K mg A) : COk P w K mg base CX0 1 "_law_rest" ["_law_m"] (sp_law_rest K) := by
  refine COk.by D.law_rest fun f fd F => ?_
  refine F.ok sc_law_rest (fun vs H Q E h => ?_) (fun cdv Ar outer s H vs Q E hr h => ?_)
  · obtain ⟨m, tk, M, t, b, rfl, _⟩ := h
    rfl
  · obtain ⟨m, tk, M, t, b, rfl, hM, hrest, ft, fb, k⟩ := h
    refine ⟨_, (pss_cons (ps_asg (pe_dget (hu_of hr) (pv 0) pe_str (fun _ _ => rfl)) (pg_tup rfl (pgs_cons (pg_name (i := 1) sc_law_rest.nd rfl (Or.inl rfl)) (pgs_cons (pg_name (i := 2) sc_law_rest.nd rfl (Or.inl rfl)) pgs_nil))))
    (pss_cons (ps_if (pt_cmpR op_eq (pv 2) pe_int (nomark _))
      (pss_one (ps_ret (pe_ix ix_list (pe_lst (pa_cons (pe_tup (pa_cons pe_str pa_nil)) (pa_cons (pe_tup (pa_cons pe_str pa_nil)) pa_nil))) (pe_callTy call_int1 (by rfl) T.b_int (by decide +kernel) (pa_cons (pe_dget (hu_of hr) (pv 0) pe_str (fun _ _ => rfl)) pa_nil)) (fun _ _ => rfl)))) pss_nil)
    (pss_cons (ps_set (i := 3) sc_law_rest.nd rfl (Or.inl rfl) (pe_op op_fdivM (pv 1) (pv 2)))
    (pss_cons (ps_dput (hu_of hr) (pv 0) pe_str (pe_tup (pa_cons (pv 2) (pa_cons (pe_op op_sub (pv 1) (pe_op op_mulW (pv 3) (pv 2))) pa_nil))) rfl)
    (pss_cons (ps_dput (hu_of hr) (pv 0) pe_str pe_bl rfl)
    (pss_one (ps_ret (pe_tup (pa_cons pe_str (pa_cons (pv 3) pa_nil)))))))))), ?_⟩
    have ntm := hM.ne
    have hM0 := hM
    obtain ⟨⟨p, rv, em, hp, hrv⟩, ht⟩ := hM
    obtain ⟨ns, w', mi, mj, rest, bg⟩ := M
    simp only at *
    subst hrest
    obtain ⟨q, rfl, hq⟩ := hrv
    refine ⟨_, rfl, _, _, rfl, mg_rest em, q, _, rfl, hq, rfl, _, _, rfl, _, _, rfl, rfl, ?_⟩
    refine ⟨_, rfl, rfl, _, rfl, ite2 (fun z => ?_) (fun z => ?_)⟩
    · have z' : b = 0 := V.int.inj (of_decide_eq_true z)
      refine ⟨(by show 1 ≤ sizeLine; decide), fun q0 n0 => ⟨(by show 1 ≤ sizeLine; decide), fun q1 n1 => ⟨(by show 2 ≤ sizeLine; decide), fun l nl => ?_⟩⟩⟩
      have s1 := same_upd (o := .tup [V.str "none"]) n0
      have s2 := same_upd (o := .tup [V.str "end"]) n1
      have s3 := same_upd (o := .lst [V.ref q0, .ref q1]) nl
      have ss := (s1.trans s2).trans s3
      have em3 := ss _ _ em
      have h0 := (s2.trans s3) _ _ (upd_at s1)
      have h1 := s3 _ _ (upd_at s2)
      have hl := upd_at s3
      have hM3 := hM0.same ss
      have fr := FrM.same (m := m) (tk := tk) ss
      generalize upd (upd (upd H q0 _) q1 _) l _ = H3 at *
      have k3 : ∀ q, H3 q = some (.tup (oVals (restO t b bg))) → Q (.ref q) H3 := fun q hq => k q H3 hq (by unfold LM.onward; rw [if_pos z']; exact hM3) fr
      unfold restO at k3
      rw [if_pos z'] at k3
      refine ⟨_, rfl, _, _, rfl, mg_begun em3, ?_⟩
      cases bg with
      | true => exact .inr ⟨_, rfl, l, _, 1, _, rfl, rfl, SqL.of hl, atI_nat (j := 1) rfl, k3 q1 h1⟩
      | false => exact .inr ⟨_, rfl, l, _, 0, _, rfl, rfl, SqL.of hl, atI_nat (j := 0) rfl, k3 q0 h0⟩
    · have z' : ¬ b = 0 := fun u => z (decide_eq_true (congrArg V.int u))
      have fq : fits (t.fdiv b) := Nat.lt_of_le_of_lt (fdiv_abs z') ft
      refine ⟨_, rfl, _, rfl, _, _, rfl, rfl, ⟨z', ft⟩, ?_⟩
      refine ⟨_, rfl, _, rfl, _, rfl, _, rfl, _, _, rfl, rfl, fits_mul fq fb, _, _, rfl, rfl, (by show 2 ≤ sizeLine; decide), fun q1 n1 => ?_⟩
      have s1 := same_upd (o := .tup [V.int b, .int (t - t.fdiv b * b)]) n1
      have em1 := s1 _ _ em
      refine ⟨_, rfl, _, _, rfl, mp_rest em1, ?_⟩
      have em2 := (upd_same (H := upd H q1 (.tup [V.int b, .int (t - t.fdiv b * b)])) (a := m) (o := .dK (mD (.ref p) (.int w') (.ref tk) (.ref q1) (.bl bg))))
      refine ⟨_, rfl, _, _, rfl, mp_begun em2, ?_⟩
      refine ⟨_, rfl, (by show 2 ≤ sizeLine; decide), fun q2 n2 => ?_⟩
      have s2 := same_upd (o := .tup [V.str "part", .int (t.fdiv b)]) n2
      refine k q2 _ ?_ ?_ ((((FrM.same s1).trans FrM.put).trans FrM.put).trans (FrM.same s2))
      · unfold restO
        rw [if_neg z']
        exact upd_same
      · unfold LM.onward
        rw [if_neg z']
        refine MAt.same ⟨⟨p, .ref q1, upd_same, sqT_dk (sqT_dk (sqT_same hp s1) em1) em2, q1, rfl, sqT_dk (sqT_dk (SqT.of upd_same) em1) em2⟩, ?_⟩ s2
        rw [upd_ne ntm, upd_ne ntm]
        exact s1 _ _ ht
end
/-! ### one asking, the law's own way -/
theorem notZero (i j : Nat) : (!inV (.int 0) [V.int (i : Int), .int (j : Int)]) = decide (0 < i ∧ 0 < j) := by
  show (!(((i : Int) == 0) || (((j : Int) == 0) || false))) = _
  rcases Nat.eq_zero_or_pos i with h | h
  · subst h
    rw [decide_eq_false (by omega)]
    rfl
  · rcases Nat.eq_zero_or_pos j with h' | h'
    · subst h'
      rw [decide_eq_false (by omega), show ((i : Int) == 0) = false from beq_eq_false_iff_ne.mpr (by omega)]
      rfl
    · rw [decide_eq_true ⟨h, h'⟩, show ((i : Int) == 0) = false from beq_eq_false_iff_ne.mpr (by omega), show ((j : Int) == 0) = false from beq_eq_false_iff_ne.mpr (by omega)]
      rfl
theorem corners_len {ns : List Int} : 0 < (cornersOf ns).length ∧ (cornersOf ns).length ≤ 4 := by
  unfold cornersOf fourCorners eightCorners
  split <;> simp
structure GoodC (c : Nat → Nat → Chain) (L : Nat → List Int) : Prop where
  nx : ∀ k n, (c k n).next = c k (n + 1)
  pos : ∀ k, k ≤ 1 → 0 < (L k).length
  go : ∀ k n, k ≤ 1 → n < (L k).length → (c k n).ended = false ∧ (L k)[n]? = some (c k n).part ∧ (c k n).part.natAbs + 2 ≤ 2 ^ 10
  fin : ∀ k, k ≤ 1 → (L k).length < 130 → (c k (L k).length).ended = true
def ChAt (H : Hp) (lc l1 l2 : Addr) (L : Nat → List Int) : Prop := H lc = some (.lst [.ref l1, .ref l2]) ∧ H l1 = some (.lst ((L 0).map V.int)) ∧ H l2 = some (.lst ((L 1).map V.int))
def LM.phase (M : LM) : Nat := if M.rest = none then (if M.ns.length = 8 then 2 else 1) else 0
theorem turned_len {ns : List Int} {q : Int} {h : Nat} (hl : ns.length = 2 * h) : turnedOver ns q = ns.drop h ++ (List.range h).map fun k => ns.getD k 0 - q * (ns.drop h).getD k 0 := by
  unfold turnedOver
  rw [show ns.length / 2 = h by omega]
  congr 1
  apply List.ext_getElem
  · rw [List.length_zipWith, List.length_map, List.length_range, List.length_take, List.length_drop]
    omega
  · intro i h1 h2
    rw [List.length_zipWith, List.length_take, List.length_drop] at h1
    rw [List.getElem_zipWith, List.getElem_map, List.getElem_range, List.getElem_take, List.getD_eq_getElem?_getD, List.getD_eq_getElem?_getD, List.getElem?_eq_getElem (show i < ns.length by omega), List.getElem?_eq_getElem (show i < (ns.drop h).length by rw [List.length_drop]; omega)]
    rfl
theorem phase_end {c : Nat → Nat → Chain} {M : LM} {F : Box → Box} {C : Box} (h : SimC c M F C) (hr : M.rest = none) (k : Nat) : (M.end_ k).phase < M.phase ∧ (M.end_ k).i = M.i ∧ (M.end_ k).j = M.j := by
  have e1 : M.phase = if M.ns.length = 8 then 2 else 1 := if_pos hr
  rcases h.len hr with hl | hl
  · have e2 : M.end_ k = { M with rest := some (M.ns.getD 0 0, M.ns.getD 2 0) } := if_pos hl
    rw [e2, e1]
    refine ⟨?_, rfl, rfl⟩
    show 0 < _
    split <;> decide
  · have e8 : ∃ x0 x1 x2 x3, leftOf M.ns k = [x0, x1, x2, x3] := by
      unfold leftOf
      split <;> exact ⟨_, _, _, _, rfl⟩
    obtain ⟨x0, x1, x2, x3, eL⟩ := e8
    rw [LM.end8 hl eL, e1, if_pos hl]
    split
    · refine ⟨?_, rfl, rfl⟩
      unfold LM.phase
      show (if M.rest = none then (if (4 : Nat) = 8 then 2 else 1) else 0) < 2
      rw [if_pos hr]
      decide
    · split
      · exact ⟨by show 0 < 2; decide, rfl, rfl⟩
      · exact ⟨by show 0 < 2; decide, rfl, rfl⟩
theorem take_phase (M : LM) (k : Nat) (q : Int) (hl : M.ns.length = 4 ∨ M.ns.length = 8) : (M.take k q).phase = M.phase ∧ (M.take k q).i + (M.take k q).j = M.i + M.j + 1 := by
  have e : ((movedBy M.ns k q).length = 8) = (M.ns.length = 8) := by
    unfold movedBy
    rcases hl with hl | hl
    · rw [if_pos hl, hl]
      exact propext ⟨fun z => absurd (show (4 : Nat) = 8 from z) (by decide), fun z => absurd z (by decide)⟩
    · rw [if_neg (by rw [hl]; decide), hl]
      split <;> exact propext ⟨fun _ => rfl, fun _ => rfl⟩
  unfold LM.take
  split
  · refine ⟨?_, by show M.i + 1 + M.j = _; omega⟩
    unfold LM.phase
    simp only [e]
  · refine ⟨?_, by show M.i + (M.j + 1) = _; omega⟩
    unfold LM.phase
    simp only [e]
theorem tk_take {M : LM} {k : Nat} {q : Int} {n1 n2 : Nat} (h1 : M.i ≤ n1) (h2 : M.j ≤ n2) (h : M.tk k < if k = 0 then n1 else n2) : (M.take k q).i ≤ n1 ∧ (M.take k q).j ≤ n2 := by
  unfold LM.take
  unfold LM.tk at h
  by_cases z : k = 0
  · rw [if_pos z, if_pos z] at h
    rw [if_pos z]
    exact ⟨h, h2⟩
  · rw [if_neg z, if_neg z] at h
    rw [if_neg z]
    exact ⟨h1, h⟩
section
variable {P : Program} {w : World} {K : PySem.W.Frag} {mg : Str → Option Value} {base : Heap} {A : Ad}
def sp_law_step (K : PySem.W.Frag) : Sp := fun vs H Q _ => ∃ (m tk lc l1 l2 : Addr) (c : Nat → Nat → Chain) (L : Nat → List Int) (M : LM) (q : Nat) (F : Box → Box) (C : Box), vs = [.ref m, .ref lc, .int q] ∧ MAt K H m tk M ∧ ChAt H lc l1 l2 L ∧ (tk ≠ lc ∧ tk ≠ l1 ∧ tk ≠ l2) ∧ GoodC c L ∧ SimC c M F C ∧ M.i + M.j + q ≤ 125 ∧ M.i ≤ (L 0).length ∧ M.j ≤ (L 1).length ∧
  ∀ t H' M' F' C' o n (l' : Nat), H' t = some (.tup (oVals o)) → MAt K H' m tk M' → SimC c M' F' C' → FrM m tk H H' → wrapF F (askF n C q) = some (o, F' C', (l' : Int)) → M'.i + M'.j + l' = M.i + M.j + q → M'.i ≤ (L 0).length → M'.j ≤ (L 1).length → Q (.ref t) H'
theorem ok_law_step (T : CT K mg A) (D : DT K mg A) : COk P w K mg base CX0 2 "_law_step" ["_law_m", "_law_chains", "_law_may"] (sp_law_step K) := by
  have G_law_corners := ok_law_corners (P := P) (w := w) (base := base) T D
  have G_law_sure := ok_law_sure (P := P) (w := w) (base := base) T D
  have G_law_moved := ok_law_moved (P := P) (w := w) (base := base) T D
  have G_law_ended := ok_law_ended (P := P) (w := w) (base := base) T D
  have G_law_rest := ok_law_rest (P := P) (w := w) (base := base) T D
  refine COk.by D.law_step fun f fd F => ?_
  refine F.ok sc_law_step (fun vs H Q E h => ?_) (fun cdv Ar outer s H vs Q E hr h => ?_)
  · obtain ⟨m, tk, lc, l1, l2, c, L, M, q, F, C, rfl, _⟩ := h
    rfl
  · obtain ⟨m, tk, lc, l1, l2, c, L, M0, q, F0, C0, rfl, hM0, hch0, ⟨nt1, nt2, nt3⟩, gc, hS0, hq0, hi0, hj0, k⟩ := h
    refine ⟨_, (pss_cons (ps_while PassesOwn.never (pt_cmpR op_isN (pe_dget (hu_of hr) (pv 0) pe_str (fun _ _ => rfl)) pe_non (nomark _))
      (pss_cons (ps_set (i := 3) sc_law_step.nd rfl (Or.inl rfl) (pe_dget (hu_of hr) (pv 0) pe_str (fun _ _ => rfl)))
    (pss_cons (ps_set (i := 4) sc_law_step.nd rfl (Or.inl rfl) (pe_ix ix_list (pe_lst (pa_cons (pe_cmpR op_gt (pe_ix ix_list (pe_dget (hu_of hr) (pv 0) pe_str (fun _ _ => rfl)) (pv 3) (fun _ _ => rfl)) pe_int (nomark _)) (pa_cons (pe_cmpR op_notIn_seq pe_int (pe_dget (hu_of hr) (pv 0) pe_str (fun _ _ => rfl)) rfl) pa_nil))) (pe_callTy call_int1 (by rfl) T.b_int (by decide +kernel) (pa_cons (pe_cmpR op_eq (pe_callB call_len_seq (by rfl) T.b_len (by decide +kernel) (pa_cons (pe_dget (hu_of hr) (pv 0) pe_str (fun _ _ => rfl)) pa_nil)) pe_int (nomark _)) pa_nil)) (fun _ _ => rfl)))
    (pss_cons (ps_set (i := 5) sc_law_step.nd rfl (Or.inr rfl) pe_non)
    (C8.pss_cut (ps_if (pt_val (pv 4))
      (pss_one (ps_set (i := 5) sc_law_step.nd rfl (Or.inr rfl) (pe_c G_law_sure (hr.mono (by first | decide | omega)) (pa_cons (pe_c G_law_corners (hr.mono (by first | decide | omega)) (pa_cons (pe_dget (hu_of hr) (pv 0) pe_str (fun _ _ => rfl)) pa_nil)) pa_nil)))) pss_nil)
    (pss_cons (ps_if (pt_cmpR op_notN (pv 5) pe_non (nomark _))
      (pss_cons (ps_set (i := 6) sc_law_step.nd rfl (Or.inl rfl) (pe_op op_fdiv (pe_callB call_len_seq (by rfl) T.b_len (by decide +kernel) (pa_cons (pe_dget (hu_of hr) (pv 0) pe_str (fun _ _ => rfl)) pa_nil)) pe_int))
    (pss_cons (ps_set (i := 7) sc_law_step.nd rfl (Or.inr rfl) (pe_slice sl_tupA (pe_dget (hu_of hr) (pv 0) pe_str (fun _ _ => rfl)) (po_some (pv 6)) po_none))
    (pss_cons (ps_dput (hu_of hr) (pv 0) pe_str (pe_op op_catC (pv 7) (pe_callTy call_tuple_of (by rfl) T.b_tuple (by decide +kernel) (pa_cons (pe_lc (own := [("_law_k", 8)]) (g := gName 8) (tt := tYes) rfl sc_law_step.nd (pi_range1 rfl T.b_range (pa_cons (pv 6) pa_nil)) (blkOk_by (own := [("_law_k", 8)]) (N := ["_law_m", "_law_chains", "_law_may", "_law_which", "_law_ready", "_law_part", "_law_half", "_law_below", "_law_k"]) (sc := defScope s_law_step) (by decide +kernel)) (fun _ _ _ _ _ => (pg_name (i := 8) sc_law_step.nd rfl (Or.inl rfl))) (fun _ _ _ _ _ => pts_nil) (fun _ _ _ _ _ => (pe_op op_sub (pe_ix (show IxR _ (rIxT K) from ix_tup) (pe_dget (hu_of hr) (pv 0) pe_str (fun _ _ => rfl)) (pv 8) (fun _ _ => rfl)) (pe_op op_mulW (pv 5) (pe_ix (show IxR _ (rIxT K) from ix_tup) (pv 7) (pv 8) (fun _ _ => rfl)))))) pa_nil))) rfl)
    (pss_cons (ps_dput (hu_of hr) (pv 0) pe_str pe_bl rfl)
    (pss_one (ps_ret (pe_tup (pa_cons pe_str (pa_cons (pv 5) pa_nil))))))))) pss_nil)
    (C8.pss_cut (ps_if (pt_cmpR op_eq (pe_callB call_len_seq (by rfl) T.b_len (by decide +kernel) (pa_cons (pe_dget (hu_of hr) (pv 0) pe_str (fun _ _ => rfl)) pa_nil)) pe_int (nomark _))
      (pss_one (ps_set (i := 3) sc_law_step.nd rfl (Or.inl rfl) (pe_callTy call_int1 (by rfl) T.b_int (by decide +kernel) (pa_cons (pe_cmpR op_lt (pe_ix ix_list (pe_dget (hu_of hr) (pv 0) pe_str (fun _ _ => rfl)) pe_int (fun _ _ => rfl)) (pe_ix ix_list (pe_dget (hu_of hr) (pv 0) pe_str (fun _ _ => rfl)) pe_int (fun _ _ => rfl)) (nomark _)) pa_nil)))) pss_nil)
    (pss_one (ps_if (pt_cmpR op_eq (pe_ix ix_list (pe_dget (hu_of hr) (pv 0) pe_str (fun _ _ => rfl)) (pv 3) (fun _ _ => rfl)) (pe_callB call_len_seq (by rfl) T.b_len (by decide +kernel) (pa_cons (pe_ix ix_list (pv 1) (pv 3) (fun _ _ => rfl)) pa_nil)) (nomark _))
      (pss_one (ps_expr (pe_c G_law_ended (hr.mono (by first | decide | omega)) (pa_cons (pv 0) (pa_cons (pv 3) pa_nil))))) (pss_one (ps_if (pt_cmpR op_eq (pv 2) pe_int (nomark _))
      (pss_one (ps_ret (pe_tup (pa_cons pe_str pa_nil)))) (pss_cons (ps_set (i := 2) sc_law_step.nd rfl (Or.inl rfl) (pe_op op_sub (pv 2) pe_int))
    (pss_cons (ps_dput (hu_of hr) (pv 0) pe_str (pe_c G_law_moved (hr.mono (by first | decide | omega)) (pa_cons (pe_dget (hu_of hr) (pv 0) pe_str (fun _ _ => rfl)) (pa_cons (pv 3) (pa_cons (pe_ix ix_list (pe_ix ix_list (pv 1) (pv 3) (fun _ _ => rfl)) (pe_ix ix_list (pe_dget (hu_of hr) (pv 0) pe_str (fun _ _ => rfl)) (pv 3) (fun _ _ => rfl)) (fun _ _ => rfl)) pa_nil)))) rfl)
    (pss_one (ps_asg (pe_op op_add (pe_ix ix_list (pe_dget (hu_of hr) (pv 0) pe_str (fun _ _ => rfl)) (pv 3) (fun _ _ => rfl)) pe_int) (pg_sub (pe_dget (hu_of hr) (pv 0) pe_str (fun _ _ => rfl)) (pv 3) set_list))))))))))))))))
    (pss_one (ps_ret (pe_c G_law_rest (hr.mono (by first | decide | omega)) (pa_cons (pv 0) pa_nil))))), ?_⟩
    have nm : lc ≠ m ∧ l1 ≠ m ∧ l2 ≠ m := by
      obtain ⟨⟨p, rv, em, _, _⟩, _⟩ := hM0
      obtain ⟨h1, h2, h3⟩ := hch0
      exact ⟨ne_of h1 em (by intro z; cases z), ne_of h2 em (by intro z; cases z), ne_of h3 em (by intro z; cases z)⟩
    refine while_nat (fun μ σ H1 => ∃ (M : LM) (F : Box → Box) (C : Box) (l d : Nat) (v3 v4 v5 v6 v7 : Option V), σ = [some (.ref m), some (.ref lc), some (.int (l : Int)), v3, v4, v5, v6, v7, none] ∧ MAt K H1 m tk M ∧ SimC c M F C ∧ FrM m tk H H1 ∧ (∀ n, wrapF F0 (askF (n + 1 + d) C0 q) = wrapF F (askF (n + 1) C l)) ∧ M.i + M.j + l = M0.i + M0.j + q ∧ M.i ≤ (L 0).length ∧ M.j ≤ (L 1).length ∧ μ = M.phase * 200 + l)
      ⟨M0, F0, C0, q, 0, none, none, none, none, none, rfl, hM0, hS0, fun c z e _ _ => e, fun n => rfl, rfl, hi0, hj0, rfl⟩ ?_ ?_
    · rintro μ σ H1 ⟨M, F, C, l, d, v3, v4, v5, v6, v7, rfl, hM, hS, fr, hask, hsum, hi, hj, rfl⟩
      have ntm := hM.ne
      have hM1 := hM
      obtain ⟨⟨p, rv, em, hp, hrv⟩, ht⟩ := hM
      obtain ⟨hlc, hl1, hl2⟩ : ChAt H1 lc l1 l2 L := ⟨fr _ _ hch0.1 nm.1 nt1.symm, fr _ _ hch0.2.1 nm.2.1 nt2.symm, fr _ _ hch0.2.2 nm.2.2 nt3.symm⟩
      refine ⟨_, rfl, _, _, rfl, mg_rest em, rfl, _, rfl, ?_⟩
      cases hrest : M.rest with
      | some tb =>
        obtain ⟨t, b⟩ := tb
        rw [hrest] at hrv
        obtain ⟨qv, rfl, _⟩ := hrv
        obtain ⟨ft, fb⟩ := hS.rest hrest
        refine iteF ⟨_, rfl, m, tk, M, t, b, rfl, hM1, hrest, ft.fits (by decide), fb.fits (by decide), fun qt H2 hqt hM2 fr2 => ?_⟩
        obtain ⟨C', ha, hS'⟩ := sim_rest hS hrest
        refine k qt H2 _ F C' _ (0 + 1 + d) l hqt hM2 hS' (fr.trans fr2) ?_ ?_ ?_ ?_
        · rw [hask, ha]; rfl
        · unfold LM.onward; split <;> exact hsum
        · unfold LM.onward; split <;> exact hi
        · unfold LM.onward; split <;> exact hj
      | none =>
        rw [hrest] at hrv
        obtain rfl : rv = .non := hrv
        have hl := hS.len hrest
        obtain ⟨hf, hcf⟩ := hS.fits hrest (by omega)
        have hw1 := hS.1
        have lenI : (((M.ns.map V.int).length : Nat) : Int) = ((M.ns.length : Nat) : Int) := by rw [List.length_map]
        refine iteT ⟨_, rfl, _, _, rfl, mg_which em, ?_⟩
        -- ready
        have atT : ∀ k : Nat, k ≤ 1 → atI [V.int (M.i : Int), .int (M.j : Int)] (k : Int) = some (.int (M.tk k : Int)) := fun k hk => by
          obtain z | z : k = 0 ∨ k = 1 := by omega
          · subst z; rfl
          · subst z; rfl
        refine ⟨_, rfl, _, _, rfl, mg_taken em, _, rfl, tk, _, _, _, rfl, rfl, SqL.of ht, atT M.w hw1, _, _, rfl, rfl, ?_⟩
        refine ⟨_, rfl, _, _, rfl, mg_taken em, tk, _, rfl, .inl (SqL.of ht), rfl, rfl, (by show 2 ≤ sizeLine; decide), fun rl nrl => ?_⟩
        have s1 := same_upd (o := .lst [V.bl (decide ((0 : Int) < (M.tk M.w : Int))), V.bl (!inV (.int 0) [V.int (M.i : Int), .int (M.j : Int)])]) nrl
        have hrl := upd_at s1
        have em1 := s1 _ _ em
        have hp1 := sqT_same hp s1
        have hsel : atI [V.bl (decide ((0 : Int) < (M.tk M.w : Int))), V.bl (!inV (.int 0) [V.int (M.i : Int), .int (M.j : Int)])] (if decide (V.int (((M.ns.map V.int).length : Nat) : Int) = V.int 8) = true then 1 else 0) = some (.bl M.ready) := by
          rw [notZero, lenI]
          rcases hl with hl | hl
          · rw [hl]
            show some (V.bl (decide ((0 : Int) < (M.tk M.w : Int)))) = _
            have e2 : M.ready = decide (0 < M.tk M.w) := if_neg (by rw [hl]; decide)
            rw [e2]
            congr 2
            exact decide_eq_decide.mpr (by omega)
          · rw [hl]
            show some (V.bl (decide (0 < M.i ∧ 0 < M.j))) = _
            have e2 : M.ready = decide (0 < M.i ∧ 0 < M.j) := if_pos hl
            rw [e2]
        refine ⟨_, rfl, _, _, rfl, mg_numbers em1, p, _, rfl, .inr hp1, rfl, .inr ⟨_, rfl, rl, _, _, _, rfl, rfl, SqL.of hrl, hsel, ?_⟩⟩
        -- the sure part
        refine ⟨fun σ H3 => σ = [some (.ref m), some (.ref lc), some (.int (l : Int)), some (.int (M.w : Int)), some (.bl M.ready), some (optV M.sure), v6, v7, none] ∧ Same H1 H3, ?_, ?_⟩
        · refine ⟨_, rfl, _, rfl, ite2 (fun z => ?_) (fun z => ?_)⟩
          · refine ⟨_, rfl, _, _, rfl, mg_numbers em1, p, M.ns, rfl, hp1, hl, fun lx H3 hcn s3 => ⟨lx, cornersOf M.ns, rfl, hcn, ?_, ?_, hcf, fun H4 s4 => ⟨?_, s1.trans (s3.trans s4)⟩⟩⟩
            · exact corners_len.1
            · exact corners_len.2
            · unfold LM.sure
              rw [if_pos z]
              rfl
          · refine ⟨?_, s1⟩
            unfold LM.sure
            rw [if_neg z]
            rfl
        rintro σ H3 ⟨rfl, s3⟩
        have em3 := s3 _ _ em
        have hp3 := sqT_same hp s3
        have ht3 := s3 _ _ ht
        have hM3 := hM1.same s3
        have fr3 := fr.trans (FrM.same s3)
        obtain ⟨hlc3, hl13, hl23⟩ : ChAt H3 lc l1 l2 L := ⟨fr3 _ _ hch0.1 nm.1 nt1.symm, fr3 _ _ hch0.2.1 nm.2.1 nt2.symm, fr3 _ _ hch0.2.2 nm.2.2 nt3.symm⟩
        cases hsure : M.sure with
        | some qs =>
          obtain ⟨C', ha, hS'⟩ := sim_tell hS hrest (by omega) hsure
          refine ⟨_, rfl, rfl, _, rfl, iteT ?_⟩
          obtain ⟨h, hh, h0, h4⟩ : ∃ h, M.ns.length = 2 * h ∧ 0 < h ∧ h ≤ 4 := by
            rcases hl with hl | hl
            · exact ⟨2, hl, by decide, by decide⟩
            · exact ⟨4, hl, by decide, by decide⟩
          have e1 : (((M.ns.map V.int).length : Nat) : Int) / 2 = ((h : Nat) : Int) := by rw [List.length_map, hh]; omega
          refine ⟨_, rfl, _, _, rfl, mg_numbers em3, p, _, rfl, .inr hp3, _, _, rfl, rfl, ⟨by decide, by decide⟩, ?_⟩
          show tSeq _ _ _ [some (V.ref m), some (.ref lc), some (.int (l : Int)), some (.int (M.w : Int)), some (.bl M.ready), some (V.int qs), some (V.int ((((M.ns.map V.int).length : Nat) : Int) / 2)), v7, none] H3
          rw [e1]
          refine ⟨_, rfl, _, _, rfl, mg_numbers em3, _, rfl, _, rfl, p, _, rfl, hp3, fun z => absurd z (not_whole h0 (by rw [List.length_map]; omega)), fun _ bl nbl => ?_⟩
          have c2 : cutV (M.ns.map V.int) (some (h : Int)) none = (M.ns.drop h).map V.int := by rw [cut_dropB, List.map_drop]
          have s4 := same_upd (o := .tup (cutV (M.ns.map V.int) (some (h : Int)) none)) nbl
          have hbl : SqT K (upd H3 bl (.tup (cutV (M.ns.map V.int) (some (h : Int)) none))) bl ((M.ns.drop h).map V.int) := by rw [← c2]; exact SqT.of upd_same
          have em4 := s4 _ _ em3
          have hp4 := sqT_same hp3 s4
          have fr4 := fr3.trans (FrM.same s4)
          have ht4 := s4 _ _ ht3
          generalize upd H3 bl _ = H4 at *
          have fqs : fits qs := by
            have := hsure
            unfold LM.sure at this
            split at this
            · exact surePart_fits this hcf corners_len.1
            · cases this
          have ld : (M.ns.drop h).length = h := by rw [List.length_drop]; omega
          have at1 : ∀ i : Nat, i < h → (M.ns.map V.int)[i]? = some (.int (M.ns.getD i 0)) := fun i hi => int_at (by omega)
          have at2 : ∀ i : Nat, i < h → ((M.ns.drop h).map V.int)[i]? = some (.int ((M.ns.drop h).getD i 0)) := fun i hi => int_at (by omega)
          refine ⟨_, rfl, _, rfl, (h : Int), rfl, by omega, by omega, fun D0 nD => lc_range (lo := 0) (n := h) (fun i H' => Same H4 H' ∧ H' D0 = some (.lst (((List.range i).map fun k => M.ns.getD k 0 - qs * (M.ns.drop h).getD k 0).map V.int))) ⟨same_upd nD, upd_same⟩ ?_ ?_⟩
          · rintro i H' hi' ⟨sx, hD⟩
            refine ⟨rfl, _, rfl, _, _, rfl, mg_numbers (sx _ _ em4), _, rfl, p, _, _, _, rfl, rfl, sqT_same hp4 sx, at_of (j := i) (by omega) (at1 i hi'), _, rfl, _, rfl, _, rfl, bl, _, _, _, rfl, rfl, sqT_same hbl sx, at_of (j := i) (by omega) (at2 i hi'), _, _, rfl, rfl, fits_mul fqs (hf _ ?_), _, _, rfl, rfl, _, hD, ?_, ?_, ?_⟩
            · exact List.mem_of_mem_drop (getD_mem' (xs := M.ns.drop h) (by omega))
            · rw [List.length_map, List.length_map, List.length_range]
              exact Nat.lt_of_lt_of_le (show i < 20 by omega) (by decide)
            · intro b o z
              rw [upd_ne (ne_of_none z nD)]
              exact sx _ _ z
            · rw [upd_same, List.range_succ, List.map_append, List.map_append]
              rfl
          rintro H5 ⟨s5, hD5⟩
          refine ⟨D0, _, rfl, .inl ⟨SqL.of hD5, fun lt nlt => ?_⟩⟩
          have s6 := same_upd (o := .tup (((List.range h).map fun k => M.ns.getD k 0 - qs * (M.ns.drop h).getD k 0).map V.int)) nlt
          refine ⟨bl, lt, _, _, rfl, rfl, sqT_same hbl (s5.trans s6), SqT.of upd_same, ?_, fun np H6 s7 hnp => ?_⟩
          · rw [List.length_map, List.length_map, List.length_map, List.length_range, ld]
            exact Nat.le_trans (show h + h ≤ 8 by omega) (by decide)
          have sA := (s5.trans s6).trans s7
          have em6 := sA _ _ em4
          have hnp6 : SqT K H6 np ((turnedOver M.ns qs).map V.int) := by
            rw [turned_len hh, List.map_append]
            exact hnp
          refine ⟨_, rfl, _, _, rfl, mp_numbers em6, ?_⟩
          have em7 := upd_same (H := H6) (a := m) (o := .dK (mD (.ref np) (.int (M.w : Int)) (.ref tk) .non (.bl M.bg)))
          refine ⟨_, rfl, _, _, rfl, mp_begun em7, ?_⟩
          refine ⟨_, rfl, (by show 2 ≤ sizeLine; decide), fun qt nqt => ?_⟩
          have s8 := same_upd (o := .tup [V.str "part", .int qs]) nqt
          refine k qt _ (M.tell qs) F C' (some (.part qs)) (0 + 1 + d) l upd_same (MAt.same ⟨⟨np, .non, upd_same, sqT_dk (sqT_dk hnp6 em6) em7, ?_⟩, ?_⟩ s8) hS' ((((fr4.trans (FrM.same sA)).trans FrM.put).trans FrM.put).trans (FrM.same s8)) ?_ hsum hi hj
          · show RestAt K _ _ M.rest
            rw [hrest]
            rfl
          · rw [upd_ne ntm, upd_ne ntm]
            exact sA _ _ ht4
          · rw [hask, ha]; rfl
        | none =>
          refine ⟨_, rfl, rfl, _, rfl, iteF ?_⟩
          -- of which one
          refine ⟨fun σ H4 => H3 = H4 ∧ σ = [some (.ref m), some (.ref lc), some (.int (l : Int)), some (.int (M.wh : Int)), some (.bl M.ready), some .non, v6, v7, none], ?_, ?_⟩
          · refine ⟨_, rfl, _, _, rfl, mg_numbers em3, p, _, rfl, .inr hp3, rfl, _, rfl, ?_⟩
            rcases hl with hl | hl
            · rw [lenI, hl]
              refine iteF ⟨rfl, ?_⟩
              have e : M.wh = M.w := if_neg (by rw [hl]; decide)
              rw [e]
              rfl
            · rw [lenI, hl]
              refine iteT ⟨_, rfl, _, _, rfl, mg_taken em3, tk, _, _, _, rfl, rfl, SqL.of ht3, atI_nat (j := 1) rfl, _, rfl, _, _, rfl, mg_taken em3, tk, _, _, _, rfl, rfl, SqL.of ht3, atI_nat (j := 0) rfl, _, _, rfl, rfl, .inr ⟨_, rfl, rfl, ?_⟩⟩
              have e : M.wh = if M.j < M.i then 1 else 0 := if_pos hl
              rw [e]
              by_cases z : M.j < M.i
              · rw [if_pos z, decide_eq_true (show (M.j : Int) < (M.i : Int) by omega)]
                rfl
              · rw [if_neg z, decide_eq_false (show ¬ (M.j : Int) < (M.i : Int) by omega)]
                rfl
          rintro σ H4 ⟨rfl, rfl⟩
          have hwh : M.wh ≤ 1 := by
            unfold LM.wh
            split
            · split <;> decide
            · exact hw1
          obtain ⟨lk, hlk, hLk⟩ : ∃ lk, atI [V.ref l1, .ref l2] (M.wh : Int) = some (.ref lk) ∧ H3 lk = some (.lst ((L M.wh).map V.int)) := by
            obtain z | z : M.wh = 0 ∨ M.wh = 1 := by omega
            · rw [z]; exact ⟨l1, rfl, hl13⟩
            · rw [z]; exact ⟨l2, rfl, hl23⟩
          have htl : M.tk M.wh ≤ (L M.wh).length := by
            obtain z | z : M.wh = 0 ∨ M.wh = 1 := by omega
            · rw [z]; exact hi
            · rw [z]; exact hj
          have ht125 : M.tk M.wh ≤ 125 := by
            unfold LM.tk
            split <;> omega
          refine ⟨_, rfl, _, _, rfl, mg_taken em3, _, rfl, tk, _, _, _, rfl, rfl, SqL.of ht3, atT _ hwh, ?_⟩
          refine ⟨_, rfl, _, rfl, lc, _, _, _, rfl, rfl, SqL.of hlc3, hlk, lk, _, rfl, .inl (SqL.of hLk), rfl, _, rfl, ?_⟩
          have lenL : ((((L M.wh).map V.int).length : Nat) : Int) = (((L M.wh).length : Nat) : Int) := by rw [List.length_map]
          rw [lenL]
          by_cases hend : M.tk M.wh = (L M.wh).length
          · rw [decide_eq_true (congrArg V.int (by omega))]
            have he : (c M.wh (M.tk M.wh)).ended = true := by rw [hend]; exact gc.fin _ hwh (by omega)
            obtain ⟨F', C', d', ha, hS'⟩ := sim_end hS hrest (by omega) hsure he (by rw [hend]; exact gc.pos _ hwh)
            obtain ⟨hph, ei, ej⟩ := phase_end hS hrest M.wh
            refine iteT ⟨_, rfl, _, rfl, m, tk, M, M.wh, rfl, hM3, hwh, hrest, hl, hf, fun H5 hM5 fr5 => ?_⟩
            refine ⟨_, ?_, M.end_ M.wh, F', C', l, d' + d, _, _, _, _, _, rfl, hM5, hS', fr3.trans fr5, fun n => ?_, by rw [ei, ej]; exact hsum, by rw [ei]; exact hi, by rw [ej]; exact hj, rfl⟩
            · omega
            · rw [← ha, show n + 1 + (d' + d) = (n + d') + 1 + d by omega, hask, show n + d' + 1 = n + 1 + d' by omega]
          · rw [decide_eq_false (fun z => hend (by have := V.int.inj z; omega))]
            have hlt : M.tk M.wh < (L M.wh).length := by omega
            obtain ⟨he, hat, hpb⟩ := gc.go _ _ hwh hlt
            refine iteF ⟨_, rfl, rfl, _, rfl, ite2 (fun z => ?_) (fun z => ?_)⟩
            · have z' : (l : Int) = 0 := V.int.inj (of_decide_eq_true z)
              have l0 : l = 0 := by omega
              subst l0
              refine ⟨(by show 1 ≤ sizeLine; decide), fun qt nqt => ?_⟩
              have s8 := same_upd (o := .tup [V.str "waits"]) nqt
              refine k qt _ M F C (some .waits) (1 + 1 + d) 0 upd_same (hM3.same s8) hS (fr3.trans (FrM.same s8)) ?_ hsum hi hj
              have := sim_waits hS hrest (by omega) hsure he 0
              rw [hask 1]
              show wrapF F (askF (0 + 2) C 0) = _
              rw [this]
              rfl
            · have z' : ¬ (l : Int) = 0 := fun y => z (decide_eq_true (congrArg V.int y))
              obtain ⟨C', ha, hS'⟩ := sim_take (l := (l : Int)) hS hrest (by omega) hsure he hpb gc.nx (by omega)
              obtain ⟨hph, hij⟩ := take_phase M M.wh (c M.wh (M.tk M.wh)).part hl
              refine ⟨_, rfl, _, _, rfl, rfl, ?_⟩
              have fq : fits (c M.wh (M.tk M.wh)).part := Nat.lt_of_lt_of_le (show (c M.wh (M.tk M.wh)).part.natAbs < 2 ^ 10 by omega) (Nat.pow_le_pow_right (by decide) (by decide))
              have hat' : ((L M.wh).map V.int)[M.tk M.wh]? = some (.int (c M.wh (M.tk M.wh)).part) := by rw [List.getElem?_map, hat]; rfl
              refine ⟨_, rfl, _, _, rfl, mg_numbers em3, _, rfl, _, rfl, _, rfl, lc, _, _, _, rfl, rfl, SqL.of hlc3, hlk, _, rfl, _, _, rfl, mg_taken em3, _, rfl, tk, _, _, _, rfl, rfl, SqL.of ht3, atT _ hwh, lk, _, _, _, rfl, rfl, SqL.of hLk, atI_nat hat', ?_⟩
              refine ⟨p, M.ns, M.wh, (c M.wh (M.tk M.wh)).part, rfl, hp3, hl, hf, fq, fun np H5 hnp s5 => ?_⟩
              have em5 := s5 _ _ em3
              refine ⟨_, rfl, _, _, rfl, mp_numbers em5, ?_⟩
              have em6 := upd_same (H := H5) (a := m) (o := .dK (mD (.ref np) (.int (M.w : Int)) (.ref tk) .non (.bl M.bg)))
              have ht6 : (upd H5 m (.dK (mD (.ref np) (.int (M.w : Int)) (.ref tk) .non (.bl M.bg)))) tk = some (.lst [.int (M.i : Int), .int (M.j : Int)]) := by rw [upd_ne ntm]; exact s5 _ _ ht3
              have hnp6 := sqT_dk (o := .dK (mD (.ref np) (.int (M.w : Int)) (.ref tk) .non (.bl M.bg))) hnp em5
              have fr6 : FrM m tk H (upd H5 m (.dK (mD (.ref np) (.int (M.w : Int)) (.ref tk) .non (.bl M.bg)))) := (fr3.trans (FrM.same s5)).trans FrM.put
              generalize upd H5 m _ = H6 at *
              refine ⟨_, rfl, _, _, rfl, mg_taken em6, _, rfl, tk, _, _, _, rfl, rfl, SqL.of ht6, atT _ hwh, _, _, rfl, rfl, ?_⟩
              have hix : ixN [V.int (M.i : Int), .int (M.j : Int)].length (M.wh : Int) = some M.wh := by
                obtain z | z : M.wh = 0 ∨ M.wh = 1 := by omega
                · rw [z]; rfl
                · rw [z]; rfl
              refine ⟨_, rfl, _, _, rfl, mg_taken em6, _, rfl, tk, _, _, _, rfl, rfl, ht6, hix, ?_⟩
              refine ⟨_, ?_, M.take M.wh (c M.wh (M.tk M.wh)).part, F, C', l - 1, 1 + d, some (.int (M.wh : Int)), some (.bl M.ready), some .non, v6, v7, ?_, ⟨⟨np, .non, ?_, ?_, ?_⟩, ?_⟩, hS', fr6.trans FrM.put2, fun n => ?_, ?_, ?_, ?_, rfl⟩
              · rw [hph]
                omega
              · show [some (V.ref m), some (.ref lc), some (.int ((l : Int) - 1)), _, _, _, _, _, none] = _
                rw [show (l : Int) - 1 = ((l - 1 : Nat) : Int) by omega]
              · rw [upd_ne ntm.symm, em6]
                unfold LM.take
                split <;> rfl
              · have e : (M.take M.wh (c M.wh (M.tk M.wh)).part).ns = movedBy M.ns M.wh (c M.wh (M.tk M.wh)).part := by
                  unfold LM.take
                  split <;> rfl
                rw [e]
                exact sqT_lst hnp6 ht6
              · have e : (M.take M.wh (c M.wh (M.tk M.wh)).part).rest = none := by
                  unfold LM.take
                  split <;> exact hrest
                rw [e]
                rfl
              · rw [upd_same]
                unfold LM.take LM.tk
                obtain z | z : M.wh = 0 ∨ M.wh = 1 := by omega
                · rw [z]; rfl
                · rw [z]; rfl
              · rw [show n + 1 + (1 + d) = (n + 1) + 1 + d by omega, hask, ha n, show (l : Int) - 1 = ((l - 1 : Nat) : Int) by omega]
              · omega
              · exact (tk_take (n1 := (L 0).length) (n2 := (L 1).length) hi hj (by
                  obtain z | z : M.wh = 0 ∨ M.wh = 1 := by omega
                  · rw [z] at hlt ⊢; exact hlt
                  · rw [z] at hlt ⊢; exact hlt)).1
              · exact (tk_take (n1 := (L 0).length) (n2 := (L 1).length) hi hj (by
                  obtain z | z : M.wh = 0 ∨ M.wh = 1 := by omega
                  · rw [z] at hlt ⊢; exact hlt
                  · rw [z] at hlt ⊢; exact hlt)).2
    · intro σ H2 Q1 Q2 im hq
      obtain ⟨x, e, a, v, e1, g, e2, b, eb, z⟩ := hq
      exact ⟨x, e, a, v, e1, g, e2, b, eb, im _ _ z⟩
end
/-! ### the law -/
def sp_law (K : PySem.W.Frag) : Sp := fun vs H Q _ => ∃ (a : Addr) (ns : List Int), vs = [.ref a] ∧ ScrAt K H a ns ∧ ns.length ≤ 63 ∧ ∀ H', Q (.bl true) H'
theorem good_one {ps g t : List Int} (d : DrawnR ps g t) : 0 < (dueR ps g t 130).length ∧ (∀ n, n < (dueR ps g t 130).length → Chain.ended (.ruled ps g t n) = false ∧ (dueR ps g t 130)[n]? = some (ruledAt ps g t n) ∧ (ruledAt ps g t n).natAbs + 2 ≤ 2 ^ 10) ∧ ((dueR ps g t 130).length < 130 → Chain.ended (.ruled ps g t (dueR ps g t 130).length) = true) := by
  have hp : 0 < ps.length := List.length_pos_iff.mpr d.p1
  have hp12 := d.p12
  refine ⟨?_, fun n hn => ?_, fun h => ?_⟩
  · rw [dueR_len]; split <;> omega
  · refine ⟨?_, dueR_at hn, ?_⟩
    · rw [dueR_len] at hn
      show (decide (g = []) && decide (ps.length ≤ n)) = false
      by_cases hg : g = []
      · rw [if_pos hg] at hn
        rw [decide_eq_false (show ¬ ps.length ≤ n by omega), Bool.and_false]
      · rw [decide_eq_false hg, Bool.false_and]
    · rw [dueR_len] at hn
      by_cases hg : g = []
      · rw [if_pos hg] at hn
        unfold ruledAt
        rw [if_pos (by omega)]
        have := d.f9 _ (getD_mem' (xs := ps) (i := n) (by omega))
        omega
      · rw [if_neg hg] at hn
        have := d.bound hg n
        omega
  · rw [dueR_len] at h ⊢
    show (decide (g = []) && decide (ps.length ≤ _)) = true
    by_cases hg : g = []
    · rw [if_pos hg]
      rw [decide_eq_true hg, decide_eq_true (show ps.length ≤ min 130 ps.length by omega)]
      rfl
    · rw [if_neg hg] at h
      omega
def chs (ps1 g1 t1 ps2 g2 t2 : List Int) (k n : Nat) : Chain := if k = 0 then .ruled ps1 g1 t1 n else .ruled ps2 g2 t2 n
def lss (ps1 g1 t1 ps2 g2 t2 : List Int) (k : Nat) : List Int := if k = 0 then dueR ps1 g1 t1 130 else dueR ps2 g2 t2 130
theorem good_two {ps1 g1 t1 ps2 g2 t2 : List Int} (d1 : DrawnR ps1 g1 t1) (d2 : DrawnR ps2 g2 t2) : GoodC (chs ps1 g1 t1 ps2 g2 t2) (lss ps1 g1 t1 ps2 g2 t2) := by
  obtain ⟨p1, q1, e1⟩ := good_one d1
  obtain ⟨p2, q2, e2⟩ := good_one d2
  refine ⟨fun k n => ?_, fun k hk => ?_, fun k n hk hn => ?_, fun k hk h => ?_⟩
  · unfold chs; split <;> rfl
  · unfold lss; split
    · exact p1
    · exact p2
  · unfold chs lss at *
    by_cases z : k = 0
    · simp only [if_pos z] at hn ⊢; exact q1 n hn
    · simp only [if_neg z] at hn ⊢; exact q2 n hn
  · unfold chs lss at *
    by_cases z : k = 0
    · simp only [if_pos z] at h ⊢; exact e1 h
    · simp only [if_neg z] at h ⊢; exact e2 h
theorem sim_wt {c : Nat → Nat → Chain} {M : LM} {F : Box → Box} {C : Box} (h : SimC c M F C) : (F C).wt ≤ 3 := by
  obtain ⟨_, hF, ⟨_, hF1, _, rfl⟩ | ⟨_, _, rfl⟩ | ⟨_, _, _, _, _, _, _, _, hC⟩⟩ := h
  · rw [hF1]; show max 0 0 + 3 ≤ 3; decide
  · rcases hF with rfl | rfl
    · show 0 + 1 ≤ 3; decide
    · show 0 + 1 + 2 ≤ 3; decide
  · rcases hF with rfl | rfl <;> rcases hC with rfl | rfl
    · show 1 ≤ 3; decide
    · show 0 ≤ 3; decide
    · show 1 + 2 ≤ 3; decide
    · show 0 + 2 ≤ 3; decide
theorem wrap_some {c : Nat → Nat → Chain} {M : LM} {F F' : Box → Box} {C C' : Box} {n : Nat} {q l' : Int} {o : Option Ans} (h : SimC c M F C) (e : wrapF F (askF n C q) = some (o, F' C', l')) : ∃ n, askF n (F C) q = some (o, F' C', l') := by
  rcases h.2.1 with rfl | rfl
  · exact ⟨n, by rw [wrap_id] at e; exact e⟩
  · exact ⟨n + 1, by rw [wrap_R]; exact e⟩
section
variable {P : Program} {w : World} {K : PySem.W.Frag} {mg : Str → Option Value} {base : Heap} {A : Ad}
theorem MAt.kept {H H' : Hp} {m tk : Addr} {M : LM} {N : Addr → Prop} (h : MAt K H m tk M) (k : ∀ c o, H c = some o → ¬ N c → H' c = some o) (hN : ∀ c o, N c → H c = some o → (∀ ys, o ≠ .tup ys) ∧ ∀ ob u, o ≠ .frz ob u) (nm : ¬ N m) (nt : ¬ N tk) : MAt K H' m tk M := by
  obtain ⟨⟨p, rv, em, hp, hr⟩, ht⟩ := h
  refine ⟨⟨p, rv, k _ _ em nm, sqT_but (N := N) hp k hN, ?_⟩, k _ _ ht nt⟩
  cases hx : M.rest with
  | none => rw [hx] at hr; exact hr
  | some c =>
    rw [hx] at hr
    obtain ⟨q, e, hq⟩ := hr
    exact ⟨q, e, sqT_but (N := N) hq k hN⟩
theorem ok_law (T : CT K mg A) (TT : TB K w mg A) (XM : PySem.W.exmOne K (.ref A.c_NoValue) (.ref A.c_NoValue) = some true) (D : DT K mg A) {f : Addr} {fd : FuncData} (F : Fun K "law" "law" s_law f fd) : FnOk P w K mg base CX0 28 f fd ["_law_script"] (sp_law K) := by
  have G_law_row : COk P w K mg base CX0 1 "_law_row" ["_law_script"] (sp_law_row K) := COk.by D.law_row fun f fd F => ok_law_row F
  have G_law_taken : COk P w K mg base CX0 1 "_law_taken" ["_law_row_here", "_law_many"] (sp_law_taken K) := COk.by D.law_taken fun f fd F => ok_law_taken F T.toBT
  have G_law_signed : COk P w K mg base CX0 2 "_law_signed" ["_law_row_here", "_law_most"] (sp_law_signed K) := COk.by D.law_signed fun f fd F => ok_law_signed F G_law_taken
  have G_law_eight := ok_law_eight (P := P) (w := w) (base := base) T D G_law_taken G_law_signed
  have G_law_four := ok_law_four (P := P) (w := w) (base := base) T D G_law_signed
  have G_law_ruled := ok_law_ruled (P := P) (w := w) (base := base) T D G_law_taken G_law_signed
  have G_law_turns := ok_law_turns (P := P) (w := w) (base := base) T D
  have G_law_step := ok_law_step (P := P) (w := w) (base := base) T D
  have M_part := ok_partB (P := P) (w := w) (base := base) T D 3
  have M_took := ok_tookB (P := P) (w := w) (base := base) T D
  have G_reader := ok_readerB (P := P) (w := w) (base := base) T TT D
  refine F.ok (k := 27) sc_law (fun vs H Q E h => ?_) (fun cdv Ar outer s H vs Q E hr h => ?_)
  · obtain ⟨a, ns, rfl, _⟩ := h
    rfl
  · obtain ⟨a, ns, rfl, hS, hlen, k⟩ := h
    refine ⟨_, (pss_cons (ps_set (i := 1) sc_law.nd rfl (Or.inl rfl) (pe_c G_law_row (hr.mono (by first | decide | omega)) (pa_cons (pv 0) pa_nil)))
    (pss_cons (ps_set (i := 2) sc_law.nd rfl (Or.inl rfl) (pe_lst (pa_cons (pe_c G_law_ruled (hr.mono (by first | decide | omega)) (pa_cons (pv 1) pa_nil)) (pa_cons (pe_c G_law_ruled (hr.mono (by first | decide | omega)) (pa_cons (pv 1) pa_nil)) pa_nil))))
    (pss_cons (ps_setLc (i := 3) (own := [("_law_tree", 4)]) (g := gName 4) (tt := tYes) rfl sc_law.nd rfl rfl (sw_true rfl rfl rfl (by decide +kernel)) (pi_list (pv 2)) (blkOk_by (own := [("_law_tree", 4)]) (N := ["_law_script", "_law_row_here", "_law_trees", "_law_chains", "_law_tree", "_law_m", "_law_made", "_law_k", "_law_most", "_law_due", "_law_found"]) (sc := defScope s_law) (by decide +kernel)) (fun _ _ _ _ _ => (pg_name (i := 4) sc_law.nd rfl (Or.inl rfl))) (fun _ _ _ _ _ => pts_nil) (fun _ _ _ _ _ => (pe_c G_law_turns (hr.mono (by first | decide | omega)) (pa_cons (pv 4) (pa_cons pe_int pa_nil)))))
    (pss_cons (ps_set (i := 5) sc_law.nd rfl (Or.inl rfl) (pe_disp (pps_cons pe_str (pe_c G_law_eight (hr.mono (by first | decide | omega)) (pa_cons (pv 1) pa_nil)) (pps_cons pe_str pe_int (pps_cons pe_str (pe_lst (pa_cons pe_int (pa_cons pe_int pa_nil))) (pps_cons pe_str pe_non (pps_cons pe_str pe_bl pps_nil))))) (by rfl) (by rfl) (fun z => by cases z) (by decide)))
    (pss_cons (ps_set (i := 4) sc_law.nd rfl (Or.inl rfl) (pe_tup (pa_cons pe_str (pa_cons (pe_dget (hu_of hr) (pv 5) pe_str (fun _ _ => rfl)) (pa_cons (pe_ix ix_list (pv 2) pe_int (fun _ _ => rfl)) (pa_cons (pe_ix ix_list (pv 2) pe_int (fun _ _ => rfl)) pa_nil))))))
    (C8.pss_cut (ps_if (pt_cmpR op_eq (pe_c G_law_taken (hr.mono (by first | decide | omega)) (pa_cons (pv 1) (pa_cons pe_int pa_nil))) pe_int (nomark _))
      (pss_cons (ps_dput (hu_of hr) (pv 5) pe_str (pe_c G_law_four (hr.mono (by first | decide | omega)) (pa_cons (pv 1) pa_nil)) rfl)
    (pss_one (ps_set (i := 4) sc_law.nd rfl (Or.inl rfl) (pe_tup (pa_cons pe_str (pa_cons (pe_dget (hu_of hr) (pv 5) pe_str (fun _ _ => rfl)) (pa_cons (pe_ix ix_list (pv 2) pe_int (fun _ _ => rfl)) pa_nil))))))) pss_nil)
    (pss_cons (ps_set (i := 6) sc_law.nd rfl (Or.inl rfl) (pe_c G_reader (hr.mono (by first | decide | omega)) (pa_cons (pv 4) pa_nil)))
    (pss_cons (ps_for PassesOwn.never rfl (pi_range1 rfl T.b_range (pa_cons pe_int pa_nil)) (pg_name (i := 7) sc_law.nd rfl (Or.inl rfl))
      (pss_cons (ps_set (i := 8) sc_law.nd rfl (Or.inl rfl) (pe_c G_law_taken (hr.mono (by first | decide | omega)) (pa_cons (pv 1) (pa_cons pe_int pa_nil))))
    (pss_cons (ps_set (i := 9) sc_law.nd rfl (Or.inl rfl) (pe_c G_law_step (hr.mono (by first | decide | omega)) (pa_cons (pv 5) (pa_cons (pv 3) (pa_cons (pv 8) pa_nil)))))
    (C8.pss_cut (ps_try_only rfl rfl ⟨rfl, by decide, .inl T.x_NoValue.g⟩ takes0 (fun W pn xe tk _ => (pss_one (ps_set (i := 10) sc_law.nd rfl (Or.inl rfl) (pe_mS M_part (hr.mono (by first | decide | omega)) (fun σ => passAt tk σ) (pv 6) (pa_cons (pv 8) pa_nil)))))
      (fun a oe cls d pn hz hf => (pss_one (ps_set (i := 10) sc_law.nd rfl (Or.inl rfl) (pe_tup (pa_cons pe_str pa_nil))))))
    (pss_one (ps_if (PW.pt (pw_or (pt_cmpR (op_neD hr.units) (pv 10) (pv 9) (nomark _)) (pw_or1 (pt_cmpR op_ne (pe_m0 M_took (hr.mono (by first | decide | omega)) (pv 6)) (pe_op op_add (pe_ix ix_list (pe_dget (hu_of hr) (pv 5) pe_str (fun _ _ => rfl)) pe_int (fun _ _ => rfl)) (pe_ix ix_list (pe_dget (hu_of hr) (pv 5) pe_str (fun _ _ => rfl)) pe_int (fun _ _ => rfl))) (nomark _)))))
      (pss_one (ps_ret pe_bl)) pss_nil))))))
    (pss_one (ps_ret pe_bl)))))))))), ?_⟩
    have w3 : (3 : Int) < 2 ^ 8000 := by decide +kernel
    refine ⟨_, rfl, a, ns, rfl, hS, hlen, fun r H1 nr s1 R1 => ?_⟩
    refine ⟨_, rfl, r, a, ns, rfl, R1, fun v1 ps1 g1 t1 H3 hv1 d1 R3 kp3 => ?_⟩
    refine ⟨_, rfl, r, a, ns, rfl, R3, fun v2 ps2 g2 t2 H4 hv2 d2 R4 kp4 => ?_⟩
    refine ⟨(by show 2 ≤ sizeLine; decide), fun tl ntl => ?_⟩
    have s5 := same_upd (o := .lst [V.ref v1, .ref v2]) ntl
    have htl := upd_at s5
    have hv15 := (hv1.row R3 kp4).same s5
    have hv25 := hv2.same s5
    have R5 := R4.same s5
    have ntr : tl ≠ r := by
      obtain ⟨x, xs, e⟩ := R4.at_
      exact (ne_of_none e ntl).symm
    generalize upd H4 tl _ = H6 at *
    have hgc := good_two d1 d2
    obtain ⟨c, hc⟩ : ∃ c, c = chs ps1 g1 t1 ps2 g2 t2 := ⟨_, rfl⟩
    obtain ⟨L, hL⟩ : ∃ L, L = lss ps1 g1 t1 ps2 g2 t2 := ⟨_, rfl⟩
    rw [← hc, ← hL] at hgc
    have hL0 : L 0 = dueR ps1 g1 t1 130 := by rw [hL]; rfl
    have hL1 : L 1 = dueR ps2 g2 t2 130 := by rw [hL]; rfl
    have hc0 : ∀ n, c 0 n = .ruled ps1 g1 t1 n := fun n => by rw [hc]; rfl
    have hc1 : ∀ n, c 1 n = .ruled ps2 g2 t2 n := fun n => by rw [hc]; rfl
    -- the chains
    refine ⟨_, rfl, tl, rfl, ⟨_, SqL.of htl⟩, fun D0 nD => lc_list (K := K) (a := tl) (xs := [V.ref v1, .ref v2]) (fun i H' => Same H6 H' ∧
      ((i = 0 ∧ H' D0 = some (.lst [])) ∨ (i = 1 ∧ ∃ l1, H6 l1 = none ∧ H' D0 = some (.lst [.ref l1]) ∧ H' l1 = some (.lst ((L 0).map V.int))) ∨
        (i = 2 ∧ ∃ l1 l2, H6 l1 = none ∧ H6 l2 = none ∧ H' D0 = some (.lst [.ref l1, .ref l2]) ∧ H' l1 = some (.lst ((L 0).map V.int)) ∧ H' l2 = some (.lst ((L 1).map V.int)))))
      ⟨same_upd nD, .inl ⟨rfl, upd_same⟩⟩ (fun i H' _ z => SqL.of (z.1 _ _ htl)) ?_ ?_⟩
    · rintro i x H' hx ⟨sx, alt⟩
      rcases alt with ⟨rfl, hD⟩ | ⟨rfl, l1, nl1, hD, hl1⟩ | ⟨rfl, _⟩
      · cases hx
        refine ⟨rfl, _, rfl, v1, ps1, g1, t1, 130, rfl, hv15.same sx, d1.toRuledGood.toRuledOk, by decide, fun p H'' sp np hp => ?_⟩
        refine ⟨_, sp _ _ hD, (by show 0 < sizeLine; decide), fun c o e => ?_, .inr (.inl ⟨rfl, p, sx.free np, upd_same, ?_⟩)⟩
        · rw [upd_ne (ne_of_none e nD)]; exact sp _ _ (sx _ _ e)
        · rw [upd_ne (ne_of_none hD np).symm, hL0]; exact hp
      · cases hx
        refine ⟨rfl, _, rfl, v2, ps2, g2, t2, 130, rfl, hv25.same sx, d2.toRuledGood.toRuledOk, by decide, fun p H'' sp np hp => ?_⟩
        refine ⟨_, sp _ _ hD, (by show 1 < sizeLine; decide), fun c o e => ?_, .inr (.inr ⟨rfl, l1, p, nl1, sx.free np, upd_same, ?_, ?_⟩)⟩
        · rw [upd_ne (ne_of_none e nD)]; exact sp _ _ (sx _ _ e)
        · rw [upd_ne (ne_of hl1 hD (by
            intro z
            have := congrArg (fun o => match o with | HO.lst xs => xs.head? | _ => none) z
            revert this
            cases (L 0) with
            | nil => intro q; cases q
            | cons y ys => intro q; cases q))]
          exact sp _ _ hl1
        · rw [upd_ne (ne_of_none hD np).symm, hL1]; exact hp
      · cases hx
    rintro H7 ⟨s7, alt⟩
    rcases alt with ⟨z, _⟩ | ⟨z, _⟩ | ⟨_, l1, l2, nl1, nl2, hpl, hl1, hl2⟩
    · cases z
    · cases z
    have htl7 := s7 _ _ htl
    have hv17 := hv15.same s7
    have hv27 := hv25.same s7
    have R7 := R5.same s7
    obtain ⟨rx0, rxs0, er5⟩ := R5.at_
    have nDr : D0 ≠ r := (ne_of_none er5 nD).symm
    have nl1r : l1 ≠ r := (ne_of_none er5 nl1).symm
    have nl2r : l2 ≠ r := (ne_of_none er5 nl2).symm
    -- the machine
    refine fun m nm => ?_
    have s8 := same_upd (o := .dK []) nm
    have hm8 := upd_at s8
    have nmr : m ≠ r := (ne_of_none (s7 _ _ er5) nm).symm
    have R8 := R7.same s8
    have hpl8 := s8 _ _ hpl
    have hl18 := s8 _ _ hl1
    have hl28 := s8 _ _ hl2
    have htl8 := s8 _ _ htl7
    have hv18 := hv17.same s8
    have hv28 := hv27.same s8
    have nDm : D0 ≠ m := ne_of_none hpl nm
    have nl1m : l1 ≠ m := ne_of_none hl1 nm
    have nl2m : l2 ≠ m := ne_of_none hl2 nm
    have ntlm : tl ≠ m := ne_of_none htl7 nm
    generalize upd H7 m _ = H8 at *
    refine ⟨_, rfl, r, a, ns, rfl, R8, fun pn es H9 hpn dr R9 kp9 => ?_⟩
    have hm9 := kp9 _ _ hm8 nmr
    have hpl9 := kp9 _ _ hpl8 nDr
    have hl19 := kp9 _ _ hl18 nl1r
    have hl29 := kp9 _ _ hl28 nl2r
    have htl9 := kp9 _ _ htl8 ntr
    have hv19 := hv18.row R8 kp9
    have hv29 := hv28.row R8 kp9
    refine ⟨(by show 2 ≤ sizeLine; decide), fun tk ntk => ?_⟩
    have s10 := same_upd (o := .lst [V.int 0, .int 0]) ntk
    have ht10 := upd_at s10
    have hm10 := s10 _ _ hm9
    have R10 := R9.same s10
    have hpn10 := sqT_same hpn s10
    have hpl10 := s10 _ _ hpl9
    have hl110 := s10 _ _ hl19
    have hl210 := s10 _ _ hl29
    have htl10 := s10 _ _ htl9
    have hv110 := hv19.same s10
    have hv210 := hv29.same s10
    have ntkr : tk ≠ r := by
      obtain ⟨x, xs, e⟩ := R9.at_
      exact (ne_of_none e ntk).symm
    have ntkm : tk ≠ m := (ne_of_none hm9 ntk).symm
    have ntkD : tk ≠ D0 := (ne_of_none hpl9 ntk).symm
    have ntk1 : tk ≠ l1 := (ne_of_none hl19 ntk).symm
    have ntk2 : tk ≠ l2 := (ne_of_none hl29 ntk).symm
    generalize upd H9 tk _ = H10 at *
    refine ⟨hm10, [(.inr "numbers", .ref pn), (.inr "which", .int 0), (.inr "taken", .ref tk), (.inr "rest", .non), (.inr "begun", .bl false)], rfl, (by show 5 ≤ 15; decide), ?_⟩
    have em11 : (upd H10 m (.dK (mD (.ref pn) (.int 0) (.ref tk) .non (.bl false)))) m = some (.dK (mD (.ref pn) (.int 0) (.ref tk) .non (.bl false))) := upd_same
    have kp11 : ∀ b o, H10 b = some o → b ≠ m → (upd H10 m (.dK (mD (.ref pn) (.int 0) (.ref tk) .non (.bl false)))) b = some o := fun b o e n => by rw [upd_ne n]; exact e
    have tNo : ∀ b o, b = m → H10 b = some o → (∀ ys, o ≠ .tup ys) ∧ ∀ ob u, o ≠ .frz ob u := fun b o e z => by
      subst e
      rw [hm10] at z
      cases z
      exact ⟨fun _ q => (by cases q), fun _ _ q => (by cases q)⟩
    have hpn11 : SqT K (upd H10 m (.dK (mD (.ref pn) (.int 0) (.ref tk) .non (.bl false)))) pn (es.map V.int) := sqT_but (N := fun b => b = m) hpn10 kp11 tNo
    have leafK : ∀ {v : Addr} {ps g t : List Int}, Leaf.At K H10 v (.ruled ps g t) → Leaf.At K (upd H10 m (.dK (mD (.ref pn) (.int 0) (.ref tk) .non (.bl false)))) v (.ruled ps g t) := fun h => by
      obtain ⟨p, q, u, e, hp, hq, hu⟩ := h
      exact ⟨p, q, u, sqT_but (N := fun b => b = m) e kp11 tNo, sqT_but (N := fun b => b = m) hp kp11 tNo, sqT_but (N := fun b => b = m) hq kp11 tNo, sqT_but (N := fun b => b = m) hu kp11 tNo⟩
    have hv111 := leafK hv110
    have hv211 := leafK hv210
    have R11 : RowAt K (upd H10 m (.dK (mD (.ref pn) (.int 0) (.ref tk) .non (.bl false)))) r a ns := by
      obtain ⟨⟨i, l, mx, e, z⟩, hS⟩ := R10
      refine ⟨⟨i, l, mx, kp11 _ _ e nmr.symm, z⟩, ?_⟩
      rcases hS with ⟨o, h⟩ | h
      · refine .inl ⟨o, kp11 _ _ h fun q => ?_⟩
        rw [q, hm10] at h
        cases h
      · exact .inr h
    have ht11 := kp11 _ _ ht10 ntkm
    have hpl11 := kp11 _ _ hpl10 nDm
    have hl111 := kp11 _ _ hl110 nl1m
    have hl211 := kp11 _ _ hl210 nl2m
    have htl11 := kp11 _ _ htl10 ntlm
    have hmrg : mergeK [] [((.inr "numbers" : Key), V.ref pn), (.inr "which", .int 0), (.inr "taken", .ref tk), (.inr "rest", .non), (.inr "begun", .bl false)] = mD (.ref pn) (.int 0) (.ref tk) .non (.bl false) := rfl
    rw [hmrg]
    generalize upd H10 m _ = H11 at *
    -- the tree
    refine ⟨_, rfl, _, _, rfl, mg_numbers em11, _, rfl, tl, _, 0, _, rfl, rfl, SqL.of htl11, atI_nat (j := 0) rfl, _, rfl, tl, _, 1, _, rfl, rfl, SqL.of htl11, atI_nat (j := 1) rfl, (by show 4 ≤ sizeLine; decide), fun q0 nq0 => ?_⟩
    have s12 := same_upd (o := .tup [V.str "eight", .ref pn, .ref v1, .ref v2]) nq0
    have hq12 : SqT K _ q0 [V.str "eight", .ref pn, .ref v1, .ref v2] := SqT.of (upd_at s12)
    have em12 := s12 _ _ em11
    have R12 := R11.same s12
    have hpn12 := sqT_same hpn11 s12
    have hv112 := hv111.same s12
    have hv212 := hv211.same s12
    have ht12 := s12 _ _ ht11
    have hpl12 := s12 _ _ hpl11
    have hl112 := s12 _ _ hl111
    have hl212 := s12 _ _ hl211
    have htl12 := s12 _ _ htl11
    generalize upd H11 q0 _ = H12 at *
    refine ⟨fun σ H' => ∃ (q : Addr) (es : List Int) (tr : Tree), σ = [some (.ref a), some (.ref r), some (.ref tl), some (.ref D0), some (.ref q), some (.ref m), none, none, none, none, none] ∧ RowAt K H' r a ns ∧ MAt K H' m tk ⟨es, 0, 0, 0, none, false⟩ ∧ ChAt H' D0 l1 l2 L ∧ tr.At K H' q ∧ tr.Good ∧ tr.ht ≤ 4 ∧ ∀ B, tr.Starts B → SimC c ⟨es, 0, 0, 0, none, false⟩ (fun x => x) B, ?_, ?_⟩
    · refine ⟨_, rfl, r, a, ns, _, rfl, R12, by decide, w3, fun m0 H13 m1 m2 R13 kp13 => ⟨rfl, _, rfl, ite2 (fun z => ?_) (fun z => ?_)⟩⟩
      · -- a four
        refine ⟨_, rfl, r, a, ns, rfl, R13, fun p4 e4 H14 hp4 dr4 R14 kp14 => ?_⟩
        have em14 := kp14 _ _ (kp13 _ _ em12 nmr) nmr
        have ht14 := kp14 _ _ (kp13 _ _ ht12 ntkr) ntkr
        have hpl14 := kp14 _ _ (kp13 _ _ hpl12 nDr) nDr
        have hl114 := kp14 _ _ (kp13 _ _ hl112 nl1r) nl1r
        have hl214 := kp14 _ _ (kp13 _ _ hl212 nl2r) nl2r
        have htl14 := kp14 _ _ (kp13 _ _ htl12 ntr) ntr
        have hv114 := (hv112.row R12 kp13).row R13 kp14
        refine ⟨_, rfl, _, _, rfl, mp_numbers em14, ?_⟩
        have em15 := upd_same (H := H14) (a := m) (o := .dK (mD (.ref p4) (.int 0) (.ref tk) .non (.bl false)))
        have kp15 : ∀ b o, H14 b = some o → b ≠ m → (upd H14 m (.dK (mD (.ref p4) (.int 0) (.ref tk) .non (.bl false)))) b = some o := fun b o e n => by rw [upd_ne n]; exact e
        have tNo4 : ∀ b o, b = m → H14 b = some o → (∀ ys, o ≠ .tup ys) ∧ ∀ ob u, o ≠ .frz ob u := fun b o e z => by
          subst e
          rw [em14] at z
          cases z
          exact ⟨fun _ q => (by cases q), fun _ _ q => (by cases q)⟩
        have hp15 := sqT_but (N := fun b => b = m) hp4 kp15 tNo4
        have hv115 : Leaf.At K (upd H14 m (.dK (mD (.ref p4) (.int 0) (.ref tk) .non (.bl false)))) v1 (.ruled ps1 g1 t1) := by
          obtain ⟨p, q, u, e, hp, hq, hu⟩ := hv114
          exact ⟨p, q, u, sqT_but (N := fun b => b = m) e kp15 tNo4, sqT_but (N := fun b => b = m) hp kp15 tNo4, sqT_but (N := fun b => b = m) hq kp15 tNo4, sqT_but (N := fun b => b = m) hu kp15 tNo4⟩
        have R15 : RowAt K (upd H14 m (.dK (mD (.ref p4) (.int 0) (.ref tk) .non (.bl false)))) r a ns := by
          obtain ⟨⟨i, l, mx, e, z⟩, hS⟩ := R14
          refine ⟨⟨i, l, mx, kp15 _ _ e nmr.symm, z⟩, ?_⟩
          rcases hS with ⟨o, h⟩ | h
          · refine .inl ⟨o, kp15 _ _ h fun q => ?_⟩
            rw [q, em14] at h
            cases h
          · exact .inr h
        have ht15 := kp15 _ _ ht14 ntkm
        have hpl15 := kp15 _ _ hpl14 nDm
        have hl115 := kp15 _ _ hl114 nl1m
        have hl215 := kp15 _ _ hl214 nl2m
        have htl15 := kp15 _ _ htl14 ntlm
        generalize upd H14 m _ = H15 at *
        refine ⟨_, rfl, _, _, rfl, mg_numbers em15, _, rfl, tl, _, 0, _, rfl, rfl, SqL.of htl15, atI_nat (j := 0) rfl, (by show 3 ≤ sizeLine; decide), fun q nq => ?_⟩
        have s16 := same_upd (o := .tup [V.str "four", .ref p4, .ref v1]) nq
        obtain ⟨h4, hz4, hx4⟩ := dr4
        refine ⟨q, e4, .four e4 (.leaf (.ruled ps1 g1 t1)), rfl, R15.same s16, MAt.same ⟨⟨p4, .non, em15, hp15, rfl⟩, ht15⟩ s16, ⟨s16 _ _ hpl15, s16 _ _ hl115, s16 _ _ hl215⟩, ⟨p4, v1, SqT.of upd_same, sqT_same hp15 s16, hv115.same s16⟩, ⟨h4, (fun z hz => by have := hz4 z hz; exact ⟨by omega, by omega⟩), hx4, d1.toRuledGood⟩, (by show 0 + 1 ≤ 4; decide), fun B st => ?_⟩
        obtain ⟨X, ⟨ch, rfl, rfl⟩, rfl⟩ := st
        refine ⟨Nat.zero_le _, .inl rfl, .inr (.inl ⟨rfl, ?_, ?_⟩)⟩
        · match e4, h4 with
          | [x0, x1, x2, x3], _ =>
            have t0 := hz4 x0 (by simp)
            have t1 := hz4 x1 (by simp)
            have t2 := hz4 x2 (by simp)
            have t3 := hz4 x3 (by simp)
            refine ⟨_, _, _, _, rfl, ?_⟩
            constructor <;> (unfold Bd; show _ ≤ 2 ^ 5; omega)
        · show Box.four e4 false false (.leaf (.ruled ps1 g1 t1 0)) = Box.four e4 false false (.leaf (c 0 0))
          rw [hc0]
      · -- an eight
        have em13 := kp13 _ _ em12 nmr
        obtain ⟨h8, hz8, hx8⟩ := dr
        refine ⟨q0, es, .eight es (.leaf (.ruled ps1 g1 t1)) (.leaf (.ruled ps2 g2 t2)), rfl, R13, ⟨⟨pn, .non, em13, sqT_row hpn12 R12 kp13, rfl⟩, kp13 _ _ ht12 ntkr⟩, ⟨kp13 _ _ hpl12 nDr, kp13 _ _ hl112 nl1r, kp13 _ _ hl212 nl2r⟩, ⟨pn, v1, v2, sqT_row hq12 R12 kp13, sqT_row hpn12 R12 kp13, hv112.row R12 kp13, hv212.row R12 kp13⟩, ⟨h8, (fun z hz => by have := hz8 z hz; exact ⟨by omega, by omega⟩), hx8, d1.toRuledGood, d2.toRuledGood⟩, (by show max 0 0 + 1 ≤ 4; decide), fun B st => ?_⟩
        obtain ⟨X, Y, ⟨ch, rfl, rfl⟩, ⟨ch2, rfl, rfl⟩, rfl⟩ := st
        refine ⟨Nat.zero_le _, .inl rfl, .inl ⟨rfl, rfl, ?_, ?_⟩⟩
        · match es, h8 with
          | [x0, x1, x2, x3, x4, x5, x6, x7], _ =>
            have t0 := hz8 x0 (by simp)
            have t1 := hz8 x1 (by simp)
            have t2 := hz8 x2 (by simp)
            have t3 := hz8 x3 (by simp)
            have t4 := hz8 x4 (by simp)
            have t5 := hz8 x5 (by simp)
            have t6 := hz8 x6 (by simp)
            have t7 := hz8 x7 (by simp)
            refine ⟨_, _, _, _, _, _, _, _, rfl, ?_⟩
            constructor <;> (unfold Bd; show _ ≤ 2 ^ 5; omega)
        · show Box.eight es 0 0 false (.leaf (.ruled ps1 g1 t1 0)) (.leaf (.ruled ps2 g2 t2 0)) = Box.eight es 0 0 false (.leaf (c 0 0)) (.leaf (c 1 0))
          rw [hc0, hc1]
    rintro σ H16 ⟨q, es', tr, rfl, R16, hM16, hch16, hAt, hGood, hht, hSim⟩
    -- the reading
    refine ⟨_, rfl, q, tr, rfl, hAt, hGood, hht, fun rd ax mt fp B H17 RD st s17 nrd nmt nfp => ?_⟩
    have hS17 := hSim B st
    have out : ∀ {b o}, H16 b = some o → b ∉ fp ∧ b ≠ rd ∧ b ≠ mt := fun {b o} e => ⟨(fun z => by have e2 := e; rw [nfp b z] at e2; cases e2), ne_of_none e nrd, ne_of_none e nmt⟩
    obtain ⟨px, rvx, emx, _, _⟩ := hM16.ex
    obtain ⟨rx1, rxs1, er16⟩ := R16.at_
    have om := out emx
    have ot := out hM16.tk
    have oD := out hch16.1
    have o1 := out hch16.2.1
    have o2 := out hch16.2.2
    have orr := out er16
    refine ⟨60, rfl, by decide, by decide, for_range (lo := 0) (n := 60) (fun i σ H' => ∃ (M : LM) (F : Box → Box) (C : Box) (l : Int) (fp' : List Addr) (v7 v8 v9 v10 : Option V), σ = [some (.ref a), some (.ref r), some (.ref tl), some (.ref D0), some (.ref q), some (.ref m), some (.ref rd), v7, v8, v9, v10] ∧ RowAt K H' r a ns ∧ MAt K H' m tk M ∧ ChAt H' D0 l1 l2 L ∧ SimC c M F C ∧ ReadB A K H' rd ax mt fp' (F C) l ((M.i + M.j : Nat) : Int) ∧ (r ∉ fp' ∧ m ∉ fp' ∧ tk ∉ fp' ∧ D0 ∉ fp' ∧ l1 ∉ fp' ∧ l2 ∉ fp') ∧ M.i + M.j ≤ 2 * i ∧ M.i ≤ (L 0).length ∧ M.j ≤ (L 1).length)
      ⟨⟨es', 0, 0, 0, none, false⟩, (fun x => x), B, 0, fp, none, none, none, none, rfl, R16.same s17, hM16.same s17, ⟨s17 _ _ hch16.1, s17 _ _ hch16.2.1, s17 _ _ hch16.2.2⟩, hS17, RD, ⟨orr.1, om.1, ot.1, oD.1, o1.1, o2.1⟩, Nat.le_refl _, Nat.zero_le _, Nat.zero_le _⟩ ?_ ?_⟩
    · rintro i σ H' hi ⟨M, F, C, l, fp', v7, v8, v9, v10, rfl, R', hM', hch', hS', RD', ⟨f1, f2, f3, f4, f5, f6⟩, hn, hi0, hj0⟩
      refine ⟨_, rfl, r, a, ns, _, rfl, R', by decide, w3, fun mo H2 mo1 mo2 R2 kp2 => ?_⟩
      obtain ⟨qn, rfl⟩ := Int.eq_ofNat_of_zero_le mo1
      have hM2 := hM'.kept (N := fun b => b = r) kp2 (rowNo R') nmr ntkr
      have RD2 := RD'.row R' f1 kp2
      have hch2 : ChAt H2 D0 l1 l2 L := ⟨kp2 _ _ hch'.1 nDr, kp2 _ _ hch'.2.1 nl1r, kp2 _ _ hch'.2.2 nl2r⟩
      refine ⟨_, rfl, _, rfl, _, rfl, m, tk, D0, l1, l2, c, L, M, qn, F, C, rfl, hM2, hch2, ⟨ntkD, ntk1, ntk2⟩, hgc, hS', by omega, hi0, hj0, fun dt H3 M' F' C' o n l' hdt hM3 hS3 fr3 ha hsum hi3 hj3 => ?_⟩
      obtain ⟨n', ha'⟩ := wrap_some hS' ha
      have R3 : RowAt K H3 r a ns := by
        obtain ⟨p2, rv2, em2, _, _⟩ := hM2.ex
        obtain ⟨⟨i, l, mx, e, z⟩, hS⟩ := R2
        refine ⟨⟨i, l, mx, fr3 _ _ e nmr.symm ntkr.symm, z⟩, ?_⟩
        rcases hS with ⟨o, h⟩ | h
        · refine .inl ⟨o, fr3 _ _ h (fun q => ?_) (fun q => ?_)⟩
          · rw [q, em2] at h
            cases h
          · rw [q, hM2.tk] at h
            cases h
        · exact .inr h
      have RD3 : ReadB A K H3 rd ax mt fp' (F C) l ((M.i + M.j : Nat) : Int) := by
        refine RD2.kept (N := fun b => b = m ∨ b = tk) (fun b o e n => fr3 b o e (fun z => n (.inl z)) fun z => n (.inr z)) (fun b o e z => ?_) ?_ ?_ ?_
        · obtain ⟨p2, rv2, em2, _, _⟩ := hM2.ex
          rcases e with rfl | rfl
          · rw [em2] at z; cases z; exact ⟨fun _ q => (by cases q), fun _ _ q => (by cases q)⟩
          · rw [hM2.tk] at z; cases z; exact ⟨fun _ q => (by cases q), fun _ _ q => (by cases q)⟩
        · exact fun z => z.elim (fun y => om.2.1 y.symm) fun y => ot.2.1 y.symm
        · exact fun z => z.elim (fun y => om.2.2 y.symm) fun y => ot.2.2 y.symm
        · exact fun b hb z => z.elim (fun y => f2 (y ▸ hb)) fun y => f3 (y ▸ hb)
      have hch3 : ChAt H3 D0 l1 l2 L := ⟨fr3 _ _ hch2.1 nDm ntkD.symm, fr3 _ _ hch2.2.1 nl1m ntk1.symm, fr3 _ _ hch2.2.2 nl2m ntk2.symm⟩
      have ndt : dt ∉ fp' := fun z => by
        have := (RD3.bx.soft dt z).no hdt
        exact this.1 _ rfl
      obtain ⟨dm3, em3⟩ := RD3.mt
      have ndm : dt ≠ mt := ne_of hdt em3 (by intro z; cases z)
      have hsoft := RD3.bx.soft
      -- what is told
      refine ⟨fun σ H4 => ∃ (fp4 : List Addr) (tf : Addr), σ = [some (.ref a), some (.ref r), some (.ref tl), some (.ref D0), some (.ref q), some (.ref m), some (.ref rd), some (.int (0 + (i : Int))), some (.int (qn : Int)), some (.ref dt), some (.ref tf)] ∧ SqT K H4 tf (oVals o) ∧ ReadB A K H4 rd ax mt fp4 (F' C') l' (((M.i + M.j : Nat) : Int) + ((qn : Int) - (l' : Int))) ∧ (∀ c z, H3 c = some z → c ∉ fp' → c ≠ mt → H4 c = some z) ∧ ∀ c ∈ fp4, c ∈ fp' ∨ H3 c = none, ?_, ?_⟩
      · obtain ⟨rx, er⟩ := RD3.rd
        refine ⟨_, rfl, rd, rx, _, rfl, er, rfl, _, rfl, rd, ax, mt, fp', F C, l, _, qn, n', o, F' C', l', rfl, RD3, sim_wt hS', ha', fun H4 fp4 R4 fr4 sub4 => ?_⟩
        cases o with
        | some an =>
          intro v hv
          obtain ⟨tf, rfl, htf⟩ := hv.tup T
          exact ⟨fp4, tf, rfl, htf, R4, fr4, sub4⟩
        | none =>
          refine ⟨true, XM, fun _ a0 na => ?_, fun z => nomatch z⟩
          refine ⟨(by show 1 ≤ sizeLine; decide), fun t nt => ?_⟩
          have s2 := same_upd (o := .tup [V.str "none"]) nt
          exact ⟨fp4, t, rfl, SqT.of upd_same, R4.same s2, (fun c z e hc hcm => s2 _ _ (fr4 c z e hc hcm)), sub4⟩
      rintro σ H4 ⟨fp4, tf, rfl, htf, RD4, fr4, sub4⟩
      have hdt4 := fr4 _ _ hdt ndt ndm
      refine ⟨_, rfl, _, rfl, _, _, oDp _ htf, oDp _ (SqT.of hdt4), oShaped _, oShaped _, _, rfl, ?_⟩
      rw [SeqAt.eqv_refl _ (SeqAt.canLay_of_shaped (oShaped o))]
      refine iteF ?_
      obtain ⟨p3, rv3, em3', hp3, hrv3⟩ := hM3.ex
      have em4 := fr4 _ _ em3' f2 om.2.2
      have ht4 := fr4 _ _ hM3.tk f3 ot.2.2
      have hM4 : MAt K H4 m tk M' := by
        refine hM3.kept (N := fun b => b ∈ fp' ∨ b = mt) (fun b o e n => fr4 b o e (fun z => n (.inl z)) fun z => n (.inr z)) (fun b o e z => ?_) (fun z => z.elim f2 om.2.2) (fun z => z.elim f3 ot.2.2)
        rcases e with e | rfl
        · exact (hsoft b e).no z
        · rw [em3] at z; exact ins_no (Option.some.inj z).symm
      have R4 := R3.frame hsoft ⟨_, _, _, em3⟩ f1 fr4
      obtain ⟨rx4, er4⟩ := RD4.rd
      refine ⟨_, rfl, rd, rx4, _, rfl, er4, rfl, rd, ax, mt, fp4, _, _, _, rfl, RD4, ?_⟩
      refine ⟨_, rfl, _, _, rfl, mg_taken em4, tk, _, 0, _, rfl, rfl, SqL.of ht4, atI_nat (j := 0) rfl, _, rfl, _, _, rfl, mg_taken em4, tk, _, 1, _, rfl, rfl, SqL.of ht4, atI_nat (j := 1) rfl, _, _, rfl, rfl, rfl, _, rfl, ?_⟩
      have es4 : ((M.i + M.j : Nat) : Int) + ((qn : Int) - (l' : Int)) = ((M'.i + M'.j : Nat) : Int) := by omega
      have ek : (!decide (V.int (((M.i + M.j : Nat) : Int) + ((qn : Int) - (l' : Int))) = V.int ((M'.i : Int) + (M'.j : Int)))) = false := by
        rw [decide_eq_true (congrArg V.int (by omega))]
        rfl
      refine cast (congrArg (fun b : Bool => if b = true then _ else _) ek.symm) ?_
      refine iteF ?_
      rw [es4] at RD4
      have sub : ∀ {b o}, H3 b = some o → b ∉ fp' → b ∉ fp4 := fun {b o} e n z => by
        rcases sub4 b z with y | y
        · exact n y
        · rw [e] at y; cases y
      obtain ⟨rxr, rxsr, er3⟩ := R3.at_
      exact ⟨M', F', C', _, fp4, _, _, _, _, rfl, R4, hM4, ⟨fr4 _ _ hch3.1 f4 oD.2.2, fr4 _ _ hch3.2.1 f5 o1.2.2, fr4 _ _ hch3.2.2 f6 o2.2.2⟩, hS3, RD4, ⟨sub er3 f1, sub em3' f2, sub hM3.tk f3, sub hch3.1 f4, sub hch3.2.1 f5, sub hch3.2.2 f6⟩, by omega, hi3, hj3⟩
    · rintro σ H' ⟨M, F, C, l, fp', v7, v8, v9, v10, rfl, _⟩
      exact k _
end
theorem fun_ofD {K : PySem.W.Frag} {x qual : Str} {st : Stmt} {f : Addr} {fd : FuncData} (F : FunD K x qual (defArgs st) (defBody st) (defScope st) [] [] f fd) : Fun K x qual st f fd := by
  obtain ⟨⟨oc, od, dV, kV, doc, pm, an, cdv, ct, osl, rfl, lk, hcd, hd, hk⟩, kp⟩ := F
  rcases hd with ⟨_, rfl⟩ | ⟨z, _⟩
  · exact ⟨⟨oc, od, kV, doc, pm, an, cdv, ct, osl, rfl, lk, hcd⟩, kp⟩
  · exact absurd rfl z
def adOf (K : PySem.W.Frag) : Ad := ⟨He.ga K "Meter", He.ga K "FractionChain", He.ga K "RootChain", He.ga K "RuledChain", He.ga K "Leaf", He.ga K "FractionBox", He.ga K "FourBox", He.ga K "EightBox", He.ga K "Reading", He.ga K "END", He.ga K "WAITS", He.ga K "TIMES", He.ga K "LENGTHS", He.ga K "CHECKS", He.ga K "NoValue"⟩
section
variable {w : World} {K : PySem.W.Frag} {h : Heap} {mg : Str → Option Value}
theorem ct_of (X : K.In h) (G : h.Ns mainGlobals mg) (c : He.SaysX faL fnL tsL [] exL w h K) : CT K mg (adOf K) := by
  have d := c.t.d
  have ex : exL K = true := c.more
  obtain ⟨e0, ex⟩ := He.ba ex
  obtain ⟨e1, ex⟩ := He.ba ex
  obtain ⟨e2, ex⟩ := He.ba ex
  obtain ⟨e3, ex⟩ := He.ba ex
  have e4 := ex
  exact {
    b_len := He.free_ok X G (d.fact 0 (f := .free "len") (by rfl)),
    b_isinstance := He.free_ok X G (d.fact 1 (f := .free "isinstance") (by rfl)),
    b_range := He.free_ok X G (d.fact 2 (f := .free "range") (by rfl)),
    b_zip := He.free_ok X G (d.fact 3 (f := .free "zip") (by rfl)),
    b_abs := He.free_ok X G (d.fact 4 (f := .free "abs") (by rfl)),
    b_divmod := He.free_ok X G (d.fact 5 (f := .free "divmod") (by rfl)),
    b_min := He.free_ok X G (d.fact 6 (f := .free "min") (by rfl)),
    b_all := He.free_ok X G (d.fact 7 (f := .free "all") (by rfl)),
    b_any := He.free_ok X G (d.fact 8 (f := .free "any") (by rfl)),
    b_list := He.free_ok X G (d.fact 9 (f := .free "list") (by rfl)),
    b_tuple := He.free_ok X G (d.fact 10 (f := .free "tuple") (by rfl)),
    b_str := He.free_ok X G (d.fact 11 (f := .free "str") (by rfl)),
    b_int := He.free_ok X G (d.fact 12 (f := .free "int") (by rfl)),
    b_bool := He.free_ok X G (d.fact 13 (f := .free "bool") (by rfl)),
    b_sum := He.free_ok X G (d.fact 14 (f := .free "sum") (by rfl)),
    b_max := He.free_ok X G (d.fact 15 (f := .free "max") (by rfl)),
    cl_Meter := He.cls_ok (d.fact 26 (f := .cls "Meter") (by rfl)),
    n_Meter_left := He.noat_ok (d.fact 30 (f := .noat "Meter" "left") (by rfl)),
    n_Meter_spent := He.noat_ok (d.fact 31 (f := .noat "Meter" "spent") (by rfl)),
    g_Meter := He.glo_ok X G (d.fact 25 (f := .glo "Meter") (by rfl)),
    cl_FractionChain := He.cls_ok (d.fact 33 (f := .cls "FractionChain") (by rfl)),
    n_FractionChain_top := He.noat_ok (d.fact 37 (f := .noat "FractionChain" "top") (by rfl)),
    n_FractionChain_below := He.noat_ok (d.fact 38 (f := .noat "FractionChain" "below") (by rfl)),
    g_FractionChain := He.glo_ok X G (d.fact 32 (f := .glo "FractionChain") (by rfl)),
    cl_RootChain := He.cls_ok (d.fact 40 (f := .cls "RootChain") (by rfl)),
    n_RootChain_top := He.noat_ok (d.fact 45 (f := .noat "RootChain" "top") (by rfl)),
    n_RootChain_square := He.noat_ok (d.fact 46 (f := .noat "RootChain" "square") (by rfl)),
    n_RootChain_below := He.noat_ok (d.fact 47 (f := .noat "RootChain" "below") (by rfl)),
    n_RootChain_root := He.noat_ok (d.fact 48 (f := .noat "RootChain" "root") (by rfl)),
    g_RootChain := He.glo_ok X G (d.fact 39 (f := .glo "RootChain") (by rfl)),
    cl_RuledChain := He.cls_ok (d.fact 50 (f := .cls "RuledChain") (by rfl)),
    n_RuledChain_parts := He.noat_ok (d.fact 54 (f := .noat "RuledChain" "parts") (by rfl)),
    n_RuledChain_ring := He.noat_ok (d.fact 55 (f := .noat "RuledChain" "ring") (by rfl)),
    n_RuledChain_steps := He.noat_ok (d.fact 56 (f := .noat "RuledChain" "steps") (by rfl)),
    n_RuledChain_at := He.noat_ok (d.fact 57 (f := .noat "RuledChain" "at") (by rfl)),
    g_RuledChain := He.glo_ok X G (d.fact 49 (f := .glo "RuledChain") (by rfl)),
    cl_Leaf := He.cls_ok (d.fact 59 (f := .cls "Leaf") (by rfl)),
    n_Leaf_chain := He.noat_ok (d.fact 62 (f := .noat "Leaf" "chain") (by rfl)),
    g_Leaf := He.glo_ok X G (d.fact 58 (f := .glo "Leaf") (by rfl)),
    cl_FractionBox := He.cls_ok (d.fact 66 (f := .cls "FractionBox") (by rfl)),
    n_FractionBox_top := He.noat_ok (d.fact 70 (f := .noat "FractionBox" "top") (by rfl)),
    n_FractionBox_below := He.noat_ok (d.fact 71 (f := .noat "FractionBox" "below") (by rfl)),
    n_FractionBox_told := He.noat_ok (d.fact 72 (f := .noat "FractionBox" "told") (by rfl)),
    g_FractionBox := He.glo_ok X G (d.fact 65 (f := .glo "FractionBox") (by rfl)),
    cl_FourBox := He.cls_ok (d.fact 74 (f := .cls "FourBox") (by rfl)),
    n_FourBox_numbers := He.noat_ok (d.fact 79 (f := .noat "FourBox" "numbers") (by rfl)),
    n_FourBox_tree := He.noat_ok (d.fact 80 (f := .noat "FourBox" "tree") (by rfl)),
    n_FourBox_started := He.noat_ok (d.fact 81 (f := .noat "FourBox" "started") (by rfl)),
    n_FourBox_told := He.noat_ok (d.fact 82 (f := .noat "FourBox" "told") (by rfl)),
    n_FourBox_rest := He.noat_ok (d.fact 83 (f := .noat "FourBox" "rest") (by rfl)),
    g_FourBox := He.glo_ok X G (d.fact 73 (f := .glo "FourBox") (by rfl)),
    cl_EightBox := He.cls_ok (d.fact 85 (f := .cls "EightBox") (by rfl)),
    n_EightBox_numbers := He.noat_ok (d.fact 91 (f := .noat "EightBox" "numbers") (by rfl)),
    n_EightBox_trees := He.noat_ok (d.fact 92 (f := .noat "EightBox" "trees") (by rfl)),
    n_EightBox_taken := He.noat_ok (d.fact 93 (f := .noat "EightBox" "taken") (by rfl)),
    n_EightBox_told := He.noat_ok (d.fact 94 (f := .noat "EightBox" "told") (by rfl)),
    n_EightBox_rest := He.noat_ok (d.fact 95 (f := .noat "EightBox" "rest") (by rfl)),
    g_EightBox := He.glo_ok X G (d.fact 84 (f := .glo "EightBox") (by rfl)),
    cl_Reading := He.cls_ok (d.fact 123 (f := .cls "Reading") (by rfl)),
    n_Reading_box := He.noat_ok (d.fact 127 (f := .noat "Reading" "box") (by rfl)),
    n_Reading_meter := He.noat_ok (d.fact 128 (f := .noat "Reading" "meter") (by rfl)),
    g_Reading := He.glo_ok X G (d.fact 122 (f := .glo "Reading") (by rfl)),
    g_END := He.glo_ok X G (d.fact 23 (f := .glo "END") (by rfl)),
    t_END := fun H => He.tupB_ok e0 H,
    g_WAITS := He.glo_ok X G (d.fact 24 (f := .glo "WAITS") (by rfl)),
    t_WAITS := fun H => He.tupB_ok e1 H,
    g_TIMES := He.glo_ok X G (d.fact 121 (f := .glo "TIMES") (by rfl)),
    t_TIMES := fun H => He.tupB_ok e4 H,
    i_MOST_NUMBER := He.int_ok X G (d.fact 103 (f := .int "MOST_NUMBER" 1000000000000) (by rfl)),
    i_MOST_DEPTH := He.int_ok X G (d.fact 104 (f := .int "MOST_DEPTH" 5) (by rfl)),
    i_MOST_PARTS := He.int_ok X G (d.fact 105 (f := .int "MOST_PARTS" 12) (by rfl)),
    i_MOST_POWER := He.int_ok X G (d.fact 106 (f := .int "MOST_POWER" 4) (by rfl)),
    g_LENGTHS := He.glo_ok X G (d.fact 119 (f := .glo "LENGTHS") (by rfl)),
    g_CHECKS := He.glo_ok X G (d.fact 120 (f := .glo "CHECKS") (by rfl)),
    x_NoValue := ⟨He.glo_ok X G (d.fact 21 (f := .glo "NoValue") (by rfl)), (He.exc_ok (d.fact 16 (f := .exc "NoValue") (by rfl))).1, (He.exc_ok (d.fact 16 (f := .exc "NoValue") (by rfl))).2.1, (He.exc_ok (d.fact 16 (f := .exc "NoValue") (by rfl))).2.2.1, (He.exc_ok (d.fact 16 (f := .exc "NoValue") (by rfl))).2.2.2⟩ }
theorem tb_of (X : K.In h) (G : h.Ns mainGlobals mg) (c : He.SaysX faL fnL tsL [] exL w h K) : TB K w mg (adOf K) := by
  have d := c.t.d
  have ex : exL K = true := c.more
  obtain ⟨e0, ex⟩ := He.ba ex
  obtain ⟨e1, ex⟩ := He.ba ex
  obtain ⟨e2, ex⟩ := He.ba ex
  obtain ⟨e3, ex⟩ := He.ba ex
  have e4 := ex
  refine ⟨c.t.tab 0 (t := (fun K => He.ga K "LENGTHS", ["fraction", "root", "ruled", "four", "eight", "power"])) (by rfl), c.t.tab 1 (t := (fun K => He.ga K "CHECKS", ["fraction", "root", "ruled", "four", "eight", "power"])) (by rfl), fun x n hm => ?_, fun x y f hm hf => ?_⟩
  · simp only [List.mem_cons, Prod.mk.injEq, List.not_mem_nil, or_false] at hm
    rcases hm with ⟨rfl, rfl⟩ | ⟨rfl, rfl⟩ | ⟨rfl, rfl⟩ | ⟨rfl, rfl⟩ | ⟨rfl, rfl⟩ | ⟨rfl, rfl⟩
    · obtain ⟨u, e, t, rfl⟩ := He.valsB_ok e2 (q := ("fraction", .int 3)) (by simp)
      exact ⟨t, e⟩
    · obtain ⟨u, e, t, rfl⟩ := He.valsB_ok e2 (q := ("root", .int 4)) (by simp)
      exact ⟨t, e⟩
    · obtain ⟨u, e, t, rfl⟩ := He.valsB_ok e2 (q := ("ruled", .int 4)) (by simp)
      exact ⟨t, e⟩
    · obtain ⟨u, e, t, rfl⟩ := He.valsB_ok e2 (q := ("four", .int 3)) (by simp)
      exact ⟨t, e⟩
    · obtain ⟨u, e, t, rfl⟩ := He.valsB_ok e2 (q := ("eight", .int 4)) (by simp)
      exact ⟨t, e⟩
    · obtain ⟨u, e, t, rfl⟩ := He.valsB_ok e2 (q := ("power", .int 3)) (by simp)
      exact ⟨t, e⟩
  · simp only [List.mem_cons, Prod.mk.injEq, List.not_mem_nil, or_false] at hm
    rcases hm with ⟨rfl, rfl⟩ | ⟨rfl, rfl⟩ | ⟨rfl, rfl⟩ | ⟨rfl, rfl⟩ | ⟨rfl, rfl⟩ | ⟨rfl, rfl⟩
    · obtain ⟨u, e, r⟩ := He.valsB_ok e3 (q := ("fraction", .glo "check_fraction")) (by simp)
      have g := (He.glo_ok X G (d.fact 112 (f := .glo "check_fraction") (by rfl))).symm.trans hf
      cases g
      cases r
      exact e
    · obtain ⟨u, e, r⟩ := He.valsB_ok e3 (q := ("root", .glo "check_root")) (by simp)
      have g := (He.glo_ok X G (d.fact 113 (f := .glo "check_root") (by rfl))).symm.trans hf
      cases g
      cases r
      exact e
    · obtain ⟨u, e, r⟩ := He.valsB_ok e3 (q := ("ruled", .glo "check_ruled")) (by simp)
      have g := (He.glo_ok X G (d.fact 114 (f := .glo "check_ruled") (by rfl))).symm.trans hf
      cases g
      cases r
      exact e
    · obtain ⟨u, e, r⟩ := He.valsB_ok e3 (q := ("four", .glo "check_four")) (by simp)
      have g := (He.glo_ok X G (d.fact 115 (f := .glo "check_four") (by rfl))).symm.trans hf
      cases g
      cases r
      exact e
    · obtain ⟨u, e, r⟩ := He.valsB_ok e3 (q := ("eight", .glo "check_eight")) (by simp)
      have g := (He.glo_ok X G (d.fact 116 (f := .glo "check_eight") (by rfl))).symm.trans hf
      cases g
      cases r
      exact e
    · obtain ⟨u, e, r⟩ := He.valsB_ok e3 (q := ("power", .glo "check_power")) (by simp)
      have g := (He.glo_ok X G (d.fact 118 (f := .glo "check_power") (by rfl))).symm.trans hf
      cases g
      cases r
      exact e
theorem dt_of (X : K.In h) (G : h.Ns mainGlobals mg) (c : He.SaysX faL fnL tsL [] exL w h K) : DT K mg (adOf K) := by
  have d := c.t.d
  exact {
    wall := by
      obtain ⟨fd, F0⟩ := d.def_ 0 (d := d_wall) (by rfl)
      have F := fun_ofD (st := s_wall) F0
      exact ⟨_, fd, F, He.glo_ok X G (d.fact 18 (f := .glo "_wall") (by rfl)), (F.binds (ps := ["k"]) fun _ _ _ _ _ _ us hl => match us, hl with | [_], _ => rfl)⟩
    root_below := by
      obtain ⟨fd, F0⟩ := d.def_ 1 (d := d_root_below) (by rfl)
      have F := fun_ofD (st := s_root_below) F0
      exact ⟨_, fd, F, He.glo_ok X G (d.fact 22 (f := .glo "root_below") (by rfl)), (F.binds (ps := ["number"]) fun _ _ _ _ _ _ us hl => match us, hl with | [_], _ => rfl)⟩
    Meter_init := by
      obtain ⟨fd, F0⟩ := d.def_ 2 (d := d_Meter_init) (by rfl)
      have F := fun_ofD (st := s_Meter_init) F0
      exact ⟨_, fd, F, He.mkr_ok (d.fact 27 (f := .mkr "Meter") (by rfl)), (F.binds (ps := ["self"]) fun _ _ _ _ _ _ us hl => match us, hl with | [_], _ => rfl)⟩
    Meter_allow := by
      obtain ⟨fd, F0⟩ := d.def_ 3 (d := d_Meter_allow) (by rfl)
      have F := fun_ofD (st := s_Meter_allow) F0
      exact ⟨_, fd, F, He.meth_ok (d.fact 28 (f := .meth "Meter" "allow") (by rfl)), (F.binds (ps := ["self", "most"]) fun _ _ _ _ _ _ us hl => match us, hl with | [_, _], _ => rfl)⟩
    Meter_pay := by
      obtain ⟨fd, F0⟩ := d.def_ 4 (d := d_Meter_pay) (by rfl)
      have F := fun_ofD (st := s_Meter_pay) F0
      exact ⟨_, fd, F, He.meth_ok (d.fact 29 (f := .meth "Meter" "pay") (by rfl)), (F.binds (ps := ["self"]) fun _ _ _ _ _ _ us hl => match us, hl with | [_], _ => rfl)⟩
    FractionChain_init := by
      obtain ⟨fd, F0⟩ := d.def_ 5 (d := d_FractionChain_init) (by rfl)
      have F := fun_ofD (st := s_FractionChain_init) F0
      exact ⟨_, fd, F, He.mkr_ok (d.fact 34 (f := .mkr "FractionChain") (by rfl)), (F.binds (ps := ["self", "top", "below"]) fun _ _ _ _ _ _ us hl => match us, hl with | [_, _, _], _ => rfl)⟩
    FractionChain_has_ended := by
      obtain ⟨fd, F0⟩ := d.def_ 6 (d := d_FractionChain_has_ended) (by rfl)
      have F := fun_ofD (st := s_FractionChain_has_ended) F0
      exact ⟨_, fd, F, He.meth_ok (d.fact 35 (f := .meth "FractionChain" "has_ended") (by rfl)), (F.binds (ps := ["self"]) fun _ _ _ _ _ _ us hl => match us, hl with | [_], _ => rfl)⟩
    FractionChain_next_part := by
      obtain ⟨fd, F0⟩ := d.def_ 7 (d := d_FractionChain_next_part) (by rfl)
      have F := fun_ofD (st := s_FractionChain_next_part) F0
      exact ⟨_, fd, F, He.meth_ok (d.fact 36 (f := .meth "FractionChain" "next_part") (by rfl)), (F.binds (ps := ["self"]) fun _ _ _ _ _ _ us hl => match us, hl with | [_], _ => rfl)⟩
    RootChain_init := by
      obtain ⟨fd, F0⟩ := d.def_ 8 (d := d_RootChain_init) (by rfl)
      have F := fun_ofD (st := s_RootChain_init) F0
      exact ⟨_, fd, F, He.mkr_ok (d.fact 41 (f := .mkr "RootChain") (by rfl)), (F.binds (ps := ["self", "top", "square", "below"]) fun _ _ _ _ _ _ us hl => match us, hl with | [_, _, _, _], _ => rfl)⟩
    RootChain_has_ended := by
      obtain ⟨fd, F0⟩ := d.def_ 9 (d := d_RootChain_has_ended) (by rfl)
      have F := fun_ofD (st := s_RootChain_has_ended) F0
      exact ⟨_, fd, F, He.meth_ok (d.fact 42 (f := .meth "RootChain" "has_ended") (by rfl)), (F.binds (ps := ["self"]) fun _ _ _ _ _ _ us hl => match us, hl with | [_], _ => rfl)⟩
    RootChain_next_part := by
      obtain ⟨fd, F0⟩ := d.def_ 10 (d := d_RootChain_next_part) (by rfl)
      have F := fun_ofD (st := s_RootChain_next_part) F0
      exact ⟨_, fd, F, He.meth_ok (d.fact 43 (f := .meth "RootChain" "next_part") (by rfl)), (F.binds (ps := ["self"]) fun _ _ _ _ _ _ us hl => match us, hl with | [_], _ => rfl)⟩
    RootChain_what_is_left := by
      obtain ⟨fd, F0⟩ := d.def_ 11 (d := d_RootChain_what_is_left) (by rfl)
      have F := fun_ofD (st := s_RootChain_what_is_left) F0
      exact ⟨_, fd, F, He.meth_ok (d.fact 44 (f := .meth "RootChain" "what_is_left") (by rfl)), (F.binds (ps := ["self"]) fun _ _ _ _ _ _ us hl => match us, hl with | [_], _ => rfl)⟩
    RuledChain_init := by
      obtain ⟨fd, F0⟩ := d.def_ 12 (d := d_RuledChain_init) (by rfl)
      have F := fun_ofD (st := s_RuledChain_init) F0
      exact ⟨_, fd, F, He.mkr_ok (d.fact 51 (f := .mkr "RuledChain") (by rfl)), (F.binds (ps := ["self", "parts", "ring", "steps"]) fun _ _ _ _ _ _ us hl => match us, hl with | [_, _, _, _], _ => rfl)⟩
    RuledChain_has_ended := by
      obtain ⟨fd, F0⟩ := d.def_ 13 (d := d_RuledChain_has_ended) (by rfl)
      have F := fun_ofD (st := s_RuledChain_has_ended) F0
      exact ⟨_, fd, F, He.meth_ok (d.fact 52 (f := .meth "RuledChain" "has_ended") (by rfl)), (F.binds (ps := ["self"]) fun _ _ _ _ _ _ us hl => match us, hl with | [_], _ => rfl)⟩
    RuledChain_next_part := by
      obtain ⟨fd, F0⟩ := d.def_ 14 (d := d_RuledChain_next_part) (by rfl)
      have F := fun_ofD (st := s_RuledChain_next_part) F0
      exact ⟨_, fd, F, He.meth_ok (d.fact 53 (f := .meth "RuledChain" "next_part") (by rfl)), (F.binds (ps := ["self"]) fun _ _ _ _ _ _ us hl => match us, hl with | [_], _ => rfl)⟩
    Leaf_init := by
      obtain ⟨fd, F0⟩ := d.def_ 15 (d := d_Leaf_init) (by rfl)
      have F := fun_ofD (st := s_Leaf_init) F0
      exact ⟨_, fd, F, He.mkr_ok (d.fact 60 (f := .mkr "Leaf") (by rfl)), (F.binds (ps := ["self", "chain"]) fun _ _ _ _ _ _ us hl => match us, hl with | [_, _], _ => rfl)⟩
    Leaf_ask := by
      obtain ⟨fd, F0⟩ := d.def_ 16 (d := d_Leaf_ask) (by rfl)
      have F := fun_ofD (st := s_Leaf_ask) F0
      exact ⟨_, fd, F, He.meth_ok (d.fact 61 (f := .meth "Leaf" "ask") (by rfl)), (F.binds (ps := ["self", "meter"]) fun _ _ _ _ _ _ us hl => match us, hl with | [_, _], _ => rfl)⟩
    leaf_of := by
      obtain ⟨fd, F0⟩ := d.def_ 17 (d := d_leaf_of) (by rfl)
      have F := fun_ofD (st := s_leaf_of) F0
      exact ⟨_, fd, F, He.glo_ok X G (d.fact 63 (f := .glo "leaf_of") (by rfl)), (F.binds (ps := ["tree"]) fun _ _ _ _ _ _ us hl => match us, hl with | [_], _ => rfl)⟩
    root_chain := by
      obtain ⟨fd, F0⟩ := d.def_ 18 (d := d_root_chain) (by rfl)
      have F := fun_ofD (st := s_root_chain) F0
      exact ⟨_, fd, F, He.glo_ok X G (d.fact 64 (f := .glo "root_chain") (by rfl)), (F.binds (ps := ["top", "square", "below"]) fun _ _ _ _ _ _ us hl => match us, hl with | [_, _, _], _ => rfl)⟩
    FractionBox_init := by
      obtain ⟨fd, F0⟩ := d.def_ 19 (d := d_FractionBox_init) (by rfl)
      have F := fun_ofD (st := s_FractionBox_init) F0
      exact ⟨_, fd, F, He.mkr_ok (d.fact 67 (f := .mkr "FractionBox") (by rfl)), (F.binds (ps := ["self", "top", "below", "told"]) fun _ _ _ _ _ _ us hl => match us, hl with | [_, _, _, _], _ => rfl)⟩
    FractionBox_ask := by
      obtain ⟨fd, F0⟩ := d.def_ 20 (d := d_FractionBox_ask) (by rfl)
      have F := fun_ofD (st := s_FractionBox_ask) F0
      exact ⟨_, fd, F, He.meth_ok (d.fact 68 (f := .meth "FractionBox" "ask") (by rfl)), (F.binds (ps := ["self", "meter"]) fun _ _ _ _ _ _ us hl => match us, hl with | [_, _], _ => rfl)⟩
    FractionBox_nothing_left := by
      obtain ⟨fd, F0⟩ := d.def_ 21 (d := d_FractionBox_nothing_left) (by rfl)
      have F := fun_ofD (st := s_FractionBox_nothing_left) F0
      exact ⟨_, fd, F, He.meth_ok (d.fact 69 (f := .meth "FractionBox" "nothing_left") (by rfl)), (F.binds (ps := ["self"]) fun _ _ _ _ _ _ us hl => match us, hl with | [_], _ => rfl)⟩
    FourBox_init := by
      obtain ⟨fd, F0⟩ := d.def_ 22 (d := d_FourBox_init) (by rfl)
      have F := fun_ofD (st := s_FourBox_init) F0
      exact ⟨_, fd, F, He.mkr_ok (d.fact 75 (f := .mkr "FourBox") (by rfl)), (F.binds (ps := ["self", "numbers", "tree", "started", "told"]) fun _ _ _ _ _ _ us hl => match us, hl with | [_, _, _, _, _], _ => rfl)⟩
    FourBox_ask := by
      obtain ⟨fd, F0⟩ := d.def_ 23 (d := d_FourBox_ask) (by rfl)
      have F := fun_ofD (st := s_FourBox_ask) F0
      exact ⟨_, fd, F, He.meth_ok (d.fact 76 (f := .meth "FourBox" "ask") (by rfl)), (F.binds (ps := ["self", "meter"]) fun _ _ _ _ _ _ us hl => match us, hl with | [_, _], _ => rfl)⟩
    FourBox_tell := by
      obtain ⟨fd, F0⟩ := d.def_ 24 (d := d_FourBox_tell) (by rfl)
      have F := fun_ofD (st := s_FourBox_tell) F0
      exact ⟨_, fd, F, He.meth_ok (d.fact 77 (f := .meth "FourBox" "tell") (by rfl)), (F.binds (ps := ["self", "part"]) fun _ _ _ _ _ _ us hl => match us, hl with | [_, _], _ => rfl)⟩
    FourBox_take := by
      obtain ⟨fd, F0⟩ := d.def_ 25 (d := d_FourBox_take) (by rfl)
      have F := fun_ofD (st := s_FourBox_take) F0
      exact ⟨_, fd, F, He.meth_ok (d.fact 78 (f := .meth "FourBox" "take") (by rfl)), (F.binds (ps := ["self", "answer"]) fun _ _ _ _ _ _ us hl => match us, hl with | [_, _], _ => rfl)⟩
    EightBox_init := by
      obtain ⟨fd, F0⟩ := d.def_ 26 (d := d_EightBox_init) (by rfl)
      have F := fun_ofD (st := s_EightBox_init) F0
      exact ⟨_, fd, F, He.mkr_ok (d.fact 86 (f := .mkr "EightBox") (by rfl)), (F.binds (ps := ["self", "numbers", "one", "other"]) fun _ _ _ _ _ _ us hl => match us, hl with | [_, _, _, _], _ => rfl)⟩
    EightBox_ask := by
      obtain ⟨fd, F0⟩ := d.def_ 27 (d := d_EightBox_ask) (by rfl)
      have F := fun_ofD (st := s_EightBox_ask) F0
      exact ⟨_, fd, F, He.meth_ok (d.fact 87 (f := .meth "EightBox" "ask") (by rfl)), (F.binds (ps := ["self", "meter"]) fun _ _ _ _ _ _ us hl => match us, hl with | [_, _], _ => rfl)⟩
    EightBox_tell := by
      obtain ⟨fd, F0⟩ := d.def_ 28 (d := d_EightBox_tell) (by rfl)
      have F := fun_ofD (st := s_EightBox_tell) F0
      exact ⟨_, fd, F, He.meth_ok (d.fact 88 (f := .meth "EightBox" "tell") (by rfl)), (F.binds (ps := ["self", "part"]) fun _ _ _ _ _ _ us hl => match us, hl with | [_, _], _ => rfl)⟩
    EightBox_take := by
      obtain ⟨fd, F0⟩ := d.def_ 29 (d := d_EightBox_take) (by rfl)
      have F := fun_ofD (st := s_EightBox_take) F0
      exact ⟨_, fd, F, He.meth_ok (d.fact 89 (f := .meth "EightBox" "take") (by rfl)), (F.binds (ps := ["self", "which", "answer"]) fun _ _ _ _ _ _ us hl => match us, hl with | [_, _, _], _ => rfl)⟩
    EightBox_left_without := by
      obtain ⟨fd, F0⟩ := d.def_ 30 (d := d_EightBox_left_without) (by rfl)
      have F := fun_ofD (st := s_EightBox_left_without) F0
      exact ⟨_, fd, F, He.meth_ok (d.fact 90 (f := .meth "EightBox" "left_without") (by rfl)), (F.binds (ps := ["self", "which"]) fun _ _ _ _ _ _ us hl => match us, hl with | [_, _], _ => rfl)⟩
    box_of_one := by
      obtain ⟨fd, F0⟩ := d.def_ 31 (d := d_box_of_one) (by rfl)
      have F := fun_ofD (st := s_box_of_one) F0
      exact ⟨_, fd, F, He.glo_ok X G (d.fact 96 (f := .glo "box_of_one") (by rfl)), (F.binds (ps := ["numbers", "tree", "told"]) fun _ _ _ _ _ _ us hl => match us, hl with | [_, _, _], _ => rfl)⟩
    with_first_part := by
      obtain ⟨fd, F0⟩ := d.def_ 32 (d := d_with_first_part) (by rfl)
      have F := fun_ofD (st := s_with_first_part) F0
      exact ⟨_, fd, F, He.glo_ok X G (d.fact 97 (f := .glo "with_first_part") (by rfl)), (F.binds (ps := ["numbers", "part"]) fun _ _ _ _ _ _ us hl => match us, hl with | [_, _], _ => rfl)⟩
    with_second_part := by
      obtain ⟨fd, F0⟩ := d.def_ 33 (d := d_with_second_part) (by rfl)
      have F := fun_ofD (st := s_with_second_part) F0
      exact ⟨_, fd, F, He.glo_ok X G (d.fact 98 (f := .glo "with_second_part") (by rfl)), (F.binds (ps := ["numbers", "part"]) fun _ _ _ _ _ _ us hl => match us, hl with | [_, _], _ => rfl)⟩
    turned_over := by
      obtain ⟨fd, F0⟩ := d.def_ 34 (d := d_turned_over) (by rfl)
      have F := fun_ofD (st := s_turned_over) F0
      exact ⟨_, fd, F, He.glo_ok X G (d.fact 99 (f := .glo "turned_over") (by rfl)), (F.binds (ps := ["numbers", "part"]) fun _ _ _ _ _ _ us hl => match us, hl with | [_, _], _ => rfl)⟩
    four_corners := by
      obtain ⟨fd, F0⟩ := d.def_ 35 (d := d_four_corners) (by rfl)
      have F := fun_ofD (st := s_four_corners) F0
      exact ⟨_, fd, F, He.glo_ok X G (d.fact 100 (f := .glo "four_corners") (by rfl)), (F.binds (ps := ["numbers"]) fun _ _ _ _ _ _ us hl => match us, hl with | [_], _ => rfl)⟩
    eight_corners := by
      obtain ⟨fd, F0⟩ := d.def_ 36 (d := d_eight_corners) (by rfl)
      have F := fun_ofD (st := s_eight_corners) F0
      exact ⟨_, fd, F, He.glo_ok X G (d.fact 101 (f := .glo "eight_corners") (by rfl)), (F.binds (ps := ["numbers"]) fun _ _ _ _ _ _ us hl => match us, hl with | [_], _ => rfl)⟩
    sure_part := by
      obtain ⟨fd, F0⟩ := d.def_ 37 (d := d_sure_part) (by rfl)
      have F := fun_ofD (st := s_sure_part) F0
      exact ⟨_, fd, F, He.glo_ok X G (d.fact 102 (f := .glo "sure_part") (by rfl)), (F.binds (ps := ["corners"]) fun _ _ _ _ _ _ us hl => match us, hl with | [_], _ => rfl)⟩
    check_tree := by
      obtain ⟨fd, F0⟩ := d.def_ 38 (d := d_check_tree) (by rfl)
      have F := fun_ofD (st := s_check_tree) F0
      exact ⟨_, fd, F, He.glo_ok X G (d.fact 107 (f := .glo "check_tree") (by rfl)), (F.binds (ps := ["tree"]) fun _ _ _ _ _ _ us hl => match us, hl with | [_], _ => rfl)⟩
    check_at_depth := by
      obtain ⟨fd, F0⟩ := d.def_ 39 (d := d_check_at_depth) (by rfl)
      have F := fun_ofD (st := s_check_at_depth) F0
      exact ⟨_, fd, F, He.glo_ok X G (d.fact 108 (f := .glo "check_at_depth") (by rfl)), (F.binds (ps := ["tree", "depth"]) fun _ _ _ _ _ _ us hl => match us, hl with | [_, _], _ => rfl)⟩
    require := by
      obtain ⟨fd, F0⟩ := d.def_ 40 (d := d_require) (by rfl)
      have F := fun_ofD (st := s_require) F0
      exact ⟨_, fd, F, He.glo_ok X G (d.fact 109 (f := .glo "require") (by rfl)), (F.binds (ps := ["holds", "why"]) fun _ _ _ _ _ _ us hl => match us, hl with | [_, _], _ => rfl)⟩
    check_row := by
      obtain ⟨fd, F0⟩ := d.def_ 41 (d := d_check_row) (by rfl)
      have F := fun_ofD (st := s_check_row) F0
      exact ⟨_, fd, F, He.glo_ok X G (d.fact 110 (f := .glo "check_row") (by rfl)), (F.binds (ps := ["row", "fewest", "most"]) fun _ _ _ _ _ _ us hl => match us, hl with | [_, _, _], _ => rfl)⟩
    is_whole := by
      obtain ⟨fd, F0⟩ := d.def_ 42 (d := d_is_whole) (by rfl)
      have F := fun_ofD (st := s_is_whole) F0
      exact ⟨_, fd, F, He.glo_ok X G (d.fact 111 (f := .glo "is_whole") (by rfl)), (F.binds (ps := ["number"]) fun _ _ _ _ _ _ us hl => match us, hl with | [_], _ => rfl)⟩
    check_fraction := by
      obtain ⟨fd, F0⟩ := d.def_ 43 (d := d_check_fraction) (by rfl)
      have F := fun_ofD (st := s_check_fraction) F0
      exact ⟨_, fd, F, He.glo_ok X G (d.fact 112 (f := .glo "check_fraction") (by rfl)), (F.binds (ps := ["tree", "depth"]) fun _ _ _ _ _ _ us hl => match us, hl with | [_, _], _ => rfl)⟩
    check_root := by
      obtain ⟨fd, F0⟩ := d.def_ 44 (d := d_check_root) (by rfl)
      have F := fun_ofD (st := s_check_root) F0
      exact ⟨_, fd, F, He.glo_ok X G (d.fact 113 (f := .glo "check_root") (by rfl)), (F.binds (ps := ["tree", "depth"]) fun _ _ _ _ _ _ us hl => match us, hl with | [_, _], _ => rfl)⟩
    check_ruled := by
      obtain ⟨fd, F0⟩ := d.def_ 45 (d := d_check_ruled) (by rfl)
      have F := fun_ofD (st := s_check_ruled) F0
      exact ⟨_, fd, F, He.glo_ok X G (d.fact 114 (f := .glo "check_ruled") (by rfl)), (F.binds (ps := ["tree", "depth"]) fun _ _ _ _ _ _ us hl => match us, hl with | [_, _], _ => rfl)⟩
    check_four := by
      obtain ⟨fd, F0⟩ := d.def_ 46 (d := d_check_four) (by rfl)
      have F := fun_ofD (st := s_check_four) F0
      exact ⟨_, fd, F, He.glo_ok X G (d.fact 115 (f := .glo "check_four") (by rfl)), (F.binds (ps := ["tree", "depth"]) fun _ _ _ _ _ _ us hl => match us, hl with | [_, _], _ => rfl)⟩
    check_eight := by
      obtain ⟨fd, F0⟩ := d.def_ 47 (d := d_check_eight) (by rfl)
      have F := fun_ofD (st := s_check_eight) F0
      exact ⟨_, fd, F, He.glo_ok X G (d.fact 116 (f := .glo "check_eight") (by rfl)), (F.binds (ps := ["tree", "depth"]) fun _ _ _ _ _ _ us hl => match us, hl with | [_, _], _ => rfl)⟩
    check_line := by
      obtain ⟨fd, F0⟩ := d.def_ 48 (d := d_check_line) (by rfl)
      have F := fun_ofD (st := s_check_line) F0
      exact ⟨_, fd, F, He.glo_ok X G (d.fact 117 (f := .glo "check_line") (by rfl)), (F.binds (ps := ["numbers"]) fun _ _ _ _ _ _ us hl => match us, hl with | [_], _ => rfl)⟩
    check_power := by
      obtain ⟨fd, F0⟩ := d.def_ 49 (d := d_check_power) (by rfl)
      have F := fun_ofD (st := s_check_power) F0
      exact ⟨_, fd, F, He.glo_ok X G (d.fact 118 (f := .glo "check_power") (by rfl)), (F.binds (ps := ["tree", "depth"]) fun _ _ _ _ _ _ us hl => match us, hl with | [_, _], _ => rfl)⟩
    Reading_init := by
      obtain ⟨fd, F0⟩ := d.def_ 50 (d := d_Reading_init) (by rfl)
      have F := fun_ofD (st := s_Reading_init) F0
      exact ⟨_, fd, F, He.mkr_ok (d.fact 124 (f := .mkr "Reading") (by rfl)), (F.binds (ps := ["self", "box"]) fun _ _ _ _ _ _ us hl => match us, hl with | [_, _], _ => rfl)⟩
    Reading_part := by
      obtain ⟨fd, F0⟩ := d.def_ 51 (d := d_Reading_part) (by rfl)
      have F := fun_ofD (st := s_Reading_part) F0
      exact ⟨_, fd, F, He.meth_ok (d.fact 125 (f := .meth "Reading" "part") (by rfl)), (F.binds (ps := ["self", "most"]) fun _ _ _ _ _ _ us hl => match us, hl with | [_, _], _ => rfl)⟩
    Reading_took := by
      obtain ⟨fd, F0⟩ := d.def_ 52 (d := d_Reading_took) (by rfl)
      have F := fun_ofD (st := s_Reading_took) F0
      exact ⟨_, fd, F, He.meth_ok (d.fact 126 (f := .meth "Reading" "took") (by rfl)), (F.binds (ps := ["self"]) fun _ _ _ _ _ _ us hl => match us, hl with | [_], _ => rfl)⟩
    reader := by
      obtain ⟨fd, F0⟩ := d.def_ 53 (d := d_reader) (by rfl)
      have F := fun_ofD (st := s_reader) F0
      exact ⟨_, fd, F, He.glo_ok X G (d.fact 129 (f := .glo "reader") (by rfl)), (F.binds (ps := ["tree"]) fun _ _ _ _ _ _ us hl => match us, hl with | [_], _ => rfl)⟩
    box_of := by
      obtain ⟨fd, F0⟩ := d.def_ 54 (d := d_box_of) (by rfl)
      have F := fun_ofD (st := s_box_of) F0
      exact ⟨_, fd, F, He.glo_ok X G (d.fact 130 (f := .glo "box_of") (by rfl)), (F.binds (ps := ["tree"]) fun _ _ _ _ _ _ us hl => match us, hl with | [_], _ => rfl)⟩
    power_box := by
      obtain ⟨fd, F0⟩ := d.def_ 55 (d := d_power_box) (by rfl)
      have F := fun_ofD (st := s_power_box) F0
      exact ⟨_, fd, F, He.glo_ok X G (d.fact 131 (f := .glo "power_box") (by rfl)), (F.binds (ps := ["tree", "times"]) fun _ _ _ _ _ _ us hl => match us, hl with | [_, _], _ => rfl)⟩
    law_row := by
      obtain ⟨fd, F0⟩ := d.def_ 56 (d := d_law_row) (by rfl)
      have F := fun_ofD (st := s_law_row) F0
      exact ⟨_, fd, F, He.glo_ok X G (d.fact 132 (f := .glo "_law_row") (by rfl)), (F.binds (ps := ["_law_script"]) fun _ _ _ _ _ _ us hl => match us, hl with | [_], _ => rfl)⟩
    law_taken := by
      obtain ⟨fd, F0⟩ := d.def_ 57 (d := d_law_taken) (by rfl)
      have F := fun_ofD (st := s_law_taken) F0
      exact ⟨_, fd, F, He.glo_ok X G (d.fact 133 (f := .glo "_law_taken") (by rfl)), (F.binds (ps := ["_law_row_here", "_law_many"]) fun _ _ _ _ _ _ us hl => match us, hl with | [_, _], _ => rfl)⟩
    law_whole := by
      obtain ⟨fd, F0⟩ := d.def_ 58 (d := d_law_whole) (by rfl)
      have F := fun_ofD (st := s_law_whole) F0
      exact ⟨_, fd, F, He.glo_ok X G (d.fact 134 (f := .glo "_law_whole") (by rfl)), (F.binds (ps := ["_law_found"]) fun _ _ _ _ _ _ us hl => match us, hl with | [_], _ => rfl)⟩
    law_signed := by
      obtain ⟨fd, F0⟩ := d.def_ 59 (d := d_law_signed) (by rfl)
      have F := fun_ofD (st := s_law_signed) F0
      exact ⟨_, fd, F, He.glo_ok X G (d.fact 135 (f := .glo "_law_signed") (by rfl)), (F.binds (ps := ["_law_row_here", "_law_most"]) fun _ _ _ _ _ _ us hl => match us, hl with | [_, _], _ => rfl)⟩
    law_ruled := by
      obtain ⟨fd, F0⟩ := d.def_ 60 (d := d_law_ruled) (by rfl)
      have F := fun_ofD (st := s_law_ruled) F0
      exact ⟨_, fd, F, He.glo_ok X G (d.fact 136 (f := .glo "_law_ruled") (by rfl)), (F.binds (ps := ["_law_row_here"]) fun _ _ _ _ _ _ us hl => match us, hl with | [_], _ => rfl)⟩
    law_turns := by
      obtain ⟨fd, F0⟩ := d.def_ 61 (d := d_law_turns) (by rfl)
      have F := fun_ofD (st := s_law_turns) F0
      exact ⟨_, fd, F, He.glo_ok X G (d.fact 137 (f := .glo "_law_turns") (by rfl)), (F.binds (ps := ["_law_tree", "_law_many"]) fun _ _ _ _ _ _ us hl => match us, hl with | [_, _], _ => rfl)⟩
    law_four := by
      obtain ⟨fd, F0⟩ := d.def_ 62 (d := d_law_four) (by rfl)
      have F := fun_ofD (st := s_law_four) F0
      exact ⟨_, fd, F, He.glo_ok X G (d.fact 138 (f := .glo "_law_four") (by rfl)), (F.binds (ps := ["_law_row_here"]) fun _ _ _ _ _ _ us hl => match us, hl with | [_], _ => rfl)⟩
    law_eight := by
      obtain ⟨fd, F0⟩ := d.def_ 63 (d := d_law_eight) (by rfl)
      have F := fun_ofD (st := s_law_eight) F0
      exact ⟨_, fd, F, He.glo_ok X G (d.fact 139 (f := .glo "_law_eight") (by rfl)), (F.binds (ps := ["_law_row_here"]) fun _ _ _ _ _ _ us hl => match us, hl with | [_], _ => rfl)⟩
    law_corners := by
      obtain ⟨fd, F0⟩ := d.def_ 64 (d := d_law_corners) (by rfl)
      have F := fun_ofD (st := s_law_corners) F0
      exact ⟨_, fd, F, He.glo_ok X G (d.fact 140 (f := .glo "_law_corners") (by rfl)), (F.binds (ps := ["_law_numbers"]) fun _ _ _ _ _ _ us hl => match us, hl with | [_], _ => rfl)⟩
    law_sure := by
      obtain ⟨fd, F0⟩ := d.def_ 65 (d := d_law_sure) (by rfl)
      have F := fun_ofD (st := s_law_sure) F0
      exact ⟨_, fd, F, He.glo_ok X G (d.fact 141 (f := .glo "_law_sure") (by rfl)), (F.binds (ps := ["_law_corners_here"]) fun _ _ _ _ _ _ us hl => match us, hl with | [_], _ => rfl)⟩
    law_moved := by
      obtain ⟨fd, F0⟩ := d.def_ 66 (d := d_law_moved) (by rfl)
      have F := fun_ofD (st := s_law_moved) F0
      exact ⟨_, fd, F, He.glo_ok X G (d.fact 142 (f := .glo "_law_moved") (by rfl)), (F.binds (ps := ["_law_numbers", "_law_which", "_law_part"]) fun _ _ _ _ _ _ us hl => match us, hl with | [_, _, _], _ => rfl)⟩
    law_ended := by
      obtain ⟨fd, F0⟩ := d.def_ 67 (d := d_law_ended) (by rfl)
      have F := fun_ofD (st := s_law_ended) F0
      exact ⟨_, fd, F, He.glo_ok X G (d.fact 143 (f := .glo "_law_ended") (by rfl)), (F.binds (ps := ["_law_m", "_law_which"]) fun _ _ _ _ _ _ us hl => match us, hl with | [_, _], _ => rfl)⟩
    law_rest := by
      obtain ⟨fd, F0⟩ := d.def_ 68 (d := d_law_rest) (by rfl)
      have F := fun_ofD (st := s_law_rest) F0
      exact ⟨_, fd, F, He.glo_ok X G (d.fact 144 (f := .glo "_law_rest") (by rfl)), (F.binds (ps := ["_law_m"]) fun _ _ _ _ _ _ us hl => match us, hl with | [_], _ => rfl)⟩
    law_step := by
      obtain ⟨fd, F0⟩ := d.def_ 69 (d := d_law_step) (by rfl)
      have F := fun_ofD (st := s_law_step) F0
      exact ⟨_, fd, F, He.glo_ok X G (d.fact 145 (f := .glo "_law_step") (by rfl)), (F.binds (ps := ["_law_m", "_law_chains", "_law_may"]) fun _ _ _ _ _ _ us hl => match us, hl with | [_, _, _], _ => rfl)⟩
    law := by
      obtain ⟨fd, F0⟩ := d.def_ 70 (d := d_law) (by rfl)
      have F := fun_ofD (st := s_law) F0
      exact ⟨_, fd, F, He.glo_ok X G (d.fact 146 (f := .glo "law") (by rfl)), (F.binds (ps := ["_law_script"]) fun _ _ _ _ _ _ us hl => match us, hl with | [_], _ => rfl)⟩ }
theorem facts {P : Program} {fa : Addr} (X : K.In h) (G : h.Ns mainGlobals mg) (hfa : mg "law" = some (.ref fa)) (c : He.SaysX faL fnL tsL [] exL w h K) :
    ∃ fd : FuncData, (∀ (s : Shared) (v : Value), BindsTo s fd ⟨[v], []⟩ [("_law_script", v)]) ∧ ∀ base : Heap, K.In base → base.Ns mainGlobals mg → FnOk P w K mg base CX0 28 fa fd ["_law_script"] (sp_law K) := by
  have T := ct_of X G c
  have TT := tb_of X G c
  have D := dt_of X G c
  have XM : PySem.W.exmOne K (.ref (adOf K).c_NoValue) (.ref (adOf K).c_NoValue) = some true := He.exm_ok (c.t.d.fact 17 (f := .exm "NoValue" "NoValue" true) (by rfl))
  obtain ⟨fd0, F0⟩ := c.t.d.def_ 70 (d := d_law) (by rfl)
  have e := hfa.symm.trans (He.glo_ok X G (c.t.d.fact 146 (f := .glo "law") (by rfl)))
  cases e
  refine ⟨fd0, fun s v => ?_, fun base _ _ => ?_⟩
  · exact (FunD.bindsA (ps := ["_law_script"]) F0 fun _ _ _ _ _ _ us hl => match us, hl with | [_], _ => rfl) s [v] rfl
  · exact ok_law T TT XM D (fun_ofD (st := s_law) F0)
end
end Cp
open PySem PySem.W PySem.Calls PyProof.Rows
set_option maxRecDepth 100000 in
set_option maxHeartbeats 0 in
theorem PySem.Challenge.cw_chainparts_k25_step_by_step_holds : PySem.Challenge.rw_chainparts_k25_step_by_step.Holds := by
  w_on; o_law
  refine HandSHeadRun.head_any (r := OpenLaw.row PySem.Challenge.rw_chainparts_k25_step_by_step) (q := view (OpenLaw.row PySem.Challenge.rw_chainparts_k25_step_by_step).prog [68]) (H := Cp.hk) (ob := Cp.ob) (M := 7500) (loose := Cp.looseL) (d := HandSHeadRun.topDef (OpenLaw.row PySem.Challenge.rw_chainparts_k25_step_by_step).prog 68) (kwd := []) Cp.ob_eq
    (by kernel_rfl) (fun s => by kernel_rfl) Cp.run (by kernel_rfl) (by kernel_rfl) (by kernel_rfl) (by rfl) (by first | assumption | decide +kernel) (by decide +kernel) ⟨rfl, rfl, rfl, rfl, rfl, by decide +kernel⟩ ?hw ?hc
  case hw => w_witness2
  case hc =>
    refine L2.walk_ofE (l := PySem.Challenge.rw_chainparts_k25_step_by_step) (n := 63) (k := 28) (x := "_law_script") (CX := L2.CX0) rfl (by decide) (by kernel_rfl) ⟨rfl, by decide, by decide⟩ ?F (fun _ _ _ _ z => z)
    intro w mg fa h Y G hmg0
    obtain ⟨K, KX, c⟩ := Y
    have hmg : mg ("law" : PySem.Str) = some (.ref fa) := by
      have e : (HandSHeadRun.topDef (OpenLaw.row PySem.Challenge.rw_chainparts_k25_step_by_step).prog 68).name = ("law" : PySem.Str) := by kernel_rfl
      rw [← e]
      exact hmg0
    obtain ⟨fd, hb, hF⟩ := Cp.facts (P := (PySem.Challenge.rw_chainparts_k25_step_by_step).prog) (w := w) KX G hmg c
    exact ⟨K, fd, Cp.sp_law K, KX, hb, fun H a ns hl hO hS => ⟨a, ns, rfl, Cp.ScrAt.of hO hS, hl, fun _ => rfl⟩, hF⟩
