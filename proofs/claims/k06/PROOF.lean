import PyProof.Rows.All
import Wide.All
import OpenK.AllK
import Wide.FinOn
import HandS.RaiseMore
import HandS.TupMul
import HandS.ForMost
import HandS.Style
import KE.KRevSl
import KE.KEqSeq
import HandS.Wide
import HandS.WideBits
import HandS.IsInst
import HandS.Codes
import HandS.More
import HandS.CallLocal
import HandS.TupAny
import HandS.Zip
import HandS.ForExc
import HandS.ExcIs
import HandS.Deep
import HandS.TryOnly
import KE.KStateDown
import HandS.ForExc
import HandS.Defaults
import HandS.Head0
import HandS.Head1
import HandS.Head2
import HandS.HeadEnd
import HandS.HeadHook1
import HandS.HeadHook2
import HandS.HeadHook3
import HandS.HeadHook4
import PySem.Challenge.RW_chainparts_k06_rings_come_again
set_option Elab.async false
set_option linter.all false
set_option maxRecDepth 100000
set_option maxHeartbeats 4000000
namespace Cp
open PySem L2
def topS (i : Nat) : Stmt := PySem.Challenge.pw_chainparts_k06_rings_come_again.main.body.getD i (.Pass ⟨0, 0, 0, 0⟩)
abbrev s_root_below : Stmt := topS 6
theorem sc_root_below : FnScope ["number", "guess", "better"] ["number"] (defScope s_root_below) := ⟨rfl, rfl, rfl, by decide +kernel, rfl, by decide +kernel, by decide +kernel⟩
abbrev s_Meter_init : Stmt := inClass (topS 10) 0
theorem sc_Meter_init : FnScope ["self"] ["self"] (defScope s_Meter_init) := ⟨rfl, rfl, rfl, by decide +kernel, rfl, by decide +kernel, by decide +kernel⟩
abbrev s_Meter_allow : Stmt := inClass (topS 10) 1
theorem sc_Meter_allow : FnScope ["self", "most"] ["self", "most"] (defScope s_Meter_allow) := ⟨rfl, rfl, rfl, by decide +kernel, rfl, by decide +kernel, by decide +kernel⟩
abbrev s_Meter_pay : Stmt := inClass (topS 10) 2
theorem sc_Meter_pay : FnScope ["self"] ["self"] (defScope s_Meter_pay) := ⟨rfl, rfl, rfl, by decide +kernel, rfl, by decide +kernel, by decide +kernel⟩
abbrev s_FractionChain_init : Stmt := inClass (topS 11) 0
theorem sc_FractionChain_init : FnScope ["self", "top", "below"] ["self", "top", "below"] (defScope s_FractionChain_init) := ⟨rfl, rfl, rfl, by decide +kernel, rfl, by decide +kernel, by decide +kernel⟩
abbrev s_FractionChain_has_ended : Stmt := inClass (topS 11) 1
theorem sc_FractionChain_has_ended : FnScope ["self"] ["self"] (defScope s_FractionChain_has_ended) := ⟨rfl, rfl, rfl, by decide +kernel, rfl, by decide +kernel, by decide +kernel⟩
abbrev s_FractionChain_next_part : Stmt := inClass (topS 11) 2
theorem sc_FractionChain_next_part : FnScope ["self", "part"] ["self"] (defScope s_FractionChain_next_part) := ⟨rfl, rfl, rfl, by decide +kernel, rfl, by decide +kernel, by decide +kernel⟩
abbrev s_RootChain_init : Stmt := inClass (topS 12) 0
theorem sc_RootChain_init : FnScope ["self", "top", "square", "below", "wide"] ["self", "top", "square", "below"] (defScope s_RootChain_init) := ⟨rfl, rfl, rfl, by decide +kernel, rfl, by decide +kernel, by decide +kernel⟩
abbrev s_RootChain_has_ended : Stmt := inClass (topS 12) 1
theorem sc_RootChain_has_ended : FnScope ["self"] ["self"] (defScope s_RootChain_has_ended) := ⟨rfl, rfl, rfl, by decide +kernel, rfl, by decide +kernel, by decide +kernel⟩
abbrev s_RootChain_next_part : Stmt := inClass (topS 12) 2
theorem sc_RootChain_next_part : FnScope ["self", "upward", "part"] ["self"] (defScope s_RootChain_next_part) := ⟨rfl, rfl, rfl, by decide +kernel, rfl, by decide +kernel, by decide +kernel⟩
abbrev s_RootChain_what_is_left : Stmt := inClass (topS 12) 3
theorem sc_RootChain_what_is_left : FnScope ["self"] ["self"] (defScope s_RootChain_what_is_left) := ⟨rfl, rfl, rfl, by decide +kernel, rfl, by decide +kernel, by decide +kernel⟩
abbrev s_RuledChain_init : Stmt := inClass (topS 13) 0
theorem sc_RuledChain_init : FnScope ["self", "parts", "ring", "steps"] ["self", "parts", "ring", "steps"] (defScope s_RuledChain_init) := ⟨rfl, rfl, rfl, by decide +kernel, rfl, by decide +kernel, by decide +kernel⟩
abbrev s_RuledChain_has_ended : Stmt := inClass (topS 13) 1
theorem sc_RuledChain_has_ended : FnScope ["self"] ["self"] (defScope s_RuledChain_has_ended) := ⟨rfl, rfl, rfl, by decide +kernel, rfl, by decide +kernel, by decide +kernel⟩
abbrev s_RuledChain_next_part : Stmt := inClass (topS 13) 2
theorem sc_RuledChain_next_part : FnScope ["self", "at", "turn", "place"] ["self"] (defScope s_RuledChain_next_part) := ⟨rfl, rfl, rfl, by decide +kernel, rfl, by decide +kernel, by decide +kernel⟩
abbrev s_Leaf_init : Stmt := inClass (topS 14) 0
theorem sc_Leaf_init : FnScope ["self", "chain"] ["self", "chain"] (defScope s_Leaf_init) := ⟨rfl, rfl, rfl, by decide +kernel, rfl, by decide +kernel, by decide +kernel⟩
abbrev s_Leaf_ask : Stmt := inClass (topS 14) 1
theorem sc_Leaf_ask : FnScope ["self", "meter"] ["self", "meter"] (defScope s_Leaf_ask) := ⟨rfl, rfl, rfl, by decide +kernel, rfl, by decide +kernel, by decide +kernel⟩
abbrev s_leaf_of : Stmt := topS 15
theorem sc_leaf_of : FnScope ["tree"] ["tree"] (defScope s_leaf_of) := ⟨rfl, rfl, rfl, by decide +kernel, rfl, by decide +kernel, by decide +kernel⟩
abbrev s_root_chain : Stmt := topS 16
theorem sc_root_chain : FnScope ["top", "square", "below", "root"] ["top", "square", "below"] (defScope s_root_chain) := ⟨rfl, rfl, rfl, by decide +kernel, rfl, by decide +kernel, by decide +kernel⟩
abbrev s_check_tree : Stmt := topS 22
theorem sc_check_tree : FnScope ["tree"] ["tree"] (defScope s_check_tree) := ⟨rfl, rfl, rfl, by decide +kernel, rfl, by decide +kernel, by decide +kernel⟩
abbrev s_check_at_depth : Stmt := topS 23
theorem sc_check_at_depth : FnScope ["tree", "depth", "word", "check"] ["tree", "depth"] (defScope s_check_at_depth) := ⟨rfl, rfl, rfl, by decide +kernel, rfl, by decide +kernel, by decide +kernel⟩
abbrev s_require : Stmt := topS 24
theorem sc_require : FnScope ["holds", "why"] ["holds", "why"] (defScope s_require) := ⟨rfl, rfl, rfl, by decide +kernel, rfl, by decide +kernel, by decide +kernel⟩
abbrev s_check_row : Stmt := topS 25
theorem sc_check_row : FnScope ["row", "fewest", "most", "number"] ["row", "fewest", "most"] (defScope s_check_row) := ⟨rfl, rfl, rfl, by decide +kernel, rfl, by decide +kernel, by decide +kernel⟩
abbrev s_is_whole : Stmt := topS 26
theorem sc_is_whole : FnScope ["number"] ["number"] (defScope s_is_whole) := ⟨rfl, rfl, rfl, by decide +kernel, rfl, by decide +kernel, by decide +kernel⟩
abbrev s_check_fraction : Stmt := topS 27
theorem sc_check_fraction : FnScope ["tree", "depth"] ["tree", "depth"] (defScope s_check_fraction) := ⟨rfl, rfl, rfl, by decide +kernel, rfl, by decide +kernel, by decide +kernel⟩
abbrev s_check_root : Stmt := topS 28
theorem sc_check_root : FnScope ["tree", "depth"] ["tree", "depth"] (defScope s_check_root) := ⟨rfl, rfl, rfl, by decide +kernel, rfl, by decide +kernel, by decide +kernel⟩
abbrev s_check_ruled : Stmt := topS 29
theorem sc_check_ruled : FnScope ["tree", "depth", "parts", "ring", "steps", "part", "step", "ends"] ["tree", "depth"] (defScope s_check_ruled) := ⟨rfl, rfl, rfl, by decide +kernel, rfl, by decide +kernel, by decide +kernel⟩
abbrev s_check_four : Stmt := topS 30
theorem sc_check_four : FnScope ["tree", "depth"] ["tree", "depth"] (defScope s_check_four) := ⟨rfl, rfl, rfl, by decide +kernel, rfl, by decide +kernel, by decide +kernel⟩
abbrev s_check_eight : Stmt := topS 31
theorem sc_check_eight : FnScope ["tree", "depth"] ["tree", "depth"] (defScope s_check_eight) := ⟨rfl, rfl, rfl, by decide +kernel, rfl, by decide +kernel, by decide +kernel⟩
abbrev s_check_line : Stmt := topS 32
theorem sc_check_line : FnScope ["numbers", "half", "above", "below", "crossed", "i", "k"] ["numbers"] (defScope s_check_line) := ⟨rfl, rfl, rfl, by decide +kernel, rfl, by decide +kernel, by decide +kernel⟩
abbrev s_check_power : Stmt := topS 33
theorem sc_check_power : FnScope ["tree", "depth"] ["tree", "depth"] (defScope s_check_power) := ⟨rfl, rfl, rfl, by decide +kernel, rfl, by decide +kernel, by decide +kernel⟩
abbrev s_ring_of : Stmt := topS 37
theorem sc_ring_of : FnScope ["top", "square", "below", "most", "chain", "parts", "start"] ["top", "square", "below", "most"] (defScope s_ring_of) := ⟨rfl, rfl, rfl, by decide +kernel, rfl, by decide +kernel, by decide +kernel⟩
abbrev s_read_round : Stmt := topS 38
theorem sc_read_round : FnScope ["chain", "most", "parts", "places"] ["chain", "most"] (defScope s_read_round) := ⟨rfl, rfl, rfl, by decide +kernel, rfl, by decide +kernel, by decide +kernel⟩
abbrev s_FractionBox_init : Stmt := inClass (topS 40) 0
theorem sc_FractionBox_init : FnScope ["self", "top", "below", "told"] ["self", "top", "below", "told"] (defScope s_FractionBox_init) := ⟨rfl, rfl, rfl, by decide +kernel, rfl, by decide +kernel, by decide +kernel⟩
abbrev s_FractionBox_ask : Stmt := inClass (topS 40) 1
theorem sc_FractionBox_ask : FnScope ["self", "meter", "part"] ["self", "meter"] (defScope s_FractionBox_ask) := ⟨rfl, rfl, rfl, by decide +kernel, rfl, by decide +kernel, by decide +kernel⟩
abbrev s_FractionBox_nothing_left : Stmt := inClass (topS 40) 2
theorem sc_FractionBox_nothing_left : FnScope ["self"] ["self"] (defScope s_FractionBox_nothing_left) := ⟨rfl, rfl, rfl, by decide +kernel, rfl, by decide +kernel, by decide +kernel⟩
abbrev s_FourBox_init : Stmt := inClass (topS 41) 0
theorem sc_FourBox_init : FnScope ["self", "numbers", "tree", "started", "told"] ["self", "numbers", "tree", "started", "told"] (defScope s_FourBox_init) := ⟨rfl, rfl, rfl, by decide +kernel, rfl, by decide +kernel, by decide +kernel⟩
abbrev s_FourBox_ask : Stmt := inClass (topS 41) 1
theorem sc_FourBox_ask : FnScope ["self", "meter", "part", "answer"] ["self", "meter"] (defScope s_FourBox_ask) := ⟨rfl, rfl, rfl, by decide +kernel, rfl, by decide +kernel, by decide +kernel⟩
abbrev s_FourBox_tell : Stmt := inClass (topS 41) 2
theorem sc_FourBox_tell : FnScope ["self", "part"] ["self", "part"] (defScope s_FourBox_tell) := ⟨rfl, rfl, rfl, by decide +kernel, rfl, by decide +kernel, by decide +kernel⟩
abbrev s_FourBox_take : Stmt := inClass (topS 41) 3
theorem sc_FourBox_take : FnScope ["self", "answer", "a", "b", "c", "d", "part"] ["self", "answer"] (defScope s_FourBox_take) := ⟨rfl, rfl, rfl, by decide +kernel, rfl, by decide +kernel, by decide +kernel⟩
abbrev s_EightBox_init : Stmt := inClass (topS 42) 0
theorem sc_EightBox_init : FnScope ["self", "numbers", "one", "other"] ["self", "numbers", "one", "other"] (defScope s_EightBox_init) := ⟨rfl, rfl, rfl, by decide +kernel, rfl, by decide +kernel, by decide +kernel⟩
abbrev s_EightBox_ask : Stmt := inClass (topS 42) 1
theorem sc_EightBox_ask : FnScope ["self", "meter", "part", "which", "answer"] ["self", "meter"] (defScope s_EightBox_ask) := ⟨rfl, rfl, rfl, by decide +kernel, rfl, by decide +kernel, by decide +kernel⟩
abbrev s_EightBox_tell : Stmt := inClass (topS 42) 2
theorem sc_EightBox_tell : FnScope ["self", "part"] ["self", "part"] (defScope s_EightBox_tell) := ⟨rfl, rfl, rfl, by decide +kernel, rfl, by decide +kernel, by decide +kernel⟩
abbrev s_EightBox_take : Stmt := inClass (topS 42) 3
theorem sc_EightBox_take : FnScope ["self", "which", "answer"] ["self", "which", "answer"] (defScope s_EightBox_take) := ⟨rfl, rfl, rfl, by decide +kernel, rfl, by decide +kernel, by decide +kernel⟩
abbrev s_EightBox_left_without : Stmt := inClass (topS 42) 4
theorem sc_EightBox_left_without : FnScope ["self", "which", "a", "b", "c", "d", "e", "f", "g", "h"] ["self", "which"] (defScope s_EightBox_left_without) := ⟨rfl, rfl, rfl, by decide +kernel, rfl, by decide +kernel, by decide +kernel⟩
abbrev s_box_of_one : Stmt := topS 43
theorem sc_box_of_one : FnScope ["numbers", "tree", "told", "a", "b", "c", "d"] ["numbers", "tree", "told"] (defScope s_box_of_one) := ⟨rfl, rfl, rfl, by decide +kernel, rfl, by decide +kernel, by decide +kernel⟩
abbrev s_with_first_part : Stmt := topS 44
theorem sc_with_first_part : FnScope ["numbers", "part", "a", "b", "c", "d", "e", "f", "g", "h"] ["numbers", "part"] (defScope s_with_first_part) := ⟨rfl, rfl, rfl, by decide +kernel, rfl, by decide +kernel, by decide +kernel⟩
abbrev s_with_second_part : Stmt := topS 45
theorem sc_with_second_part : FnScope ["numbers", "part", "a", "b", "c", "d", "e", "f", "g", "h"] ["numbers", "part"] (defScope s_with_second_part) := ⟨rfl, rfl, rfl, by decide +kernel, rfl, by decide +kernel, by decide +kernel⟩
abbrev s_turned_over : Stmt := topS 46
theorem sc_turned_over : FnScope ["numbers", "part", "half", "above", "below", "left", "top", "under"] ["numbers", "part"] (defScope s_turned_over) := ⟨rfl, rfl, rfl, by decide +kernel, rfl, by decide +kernel, by decide +kernel⟩
abbrev s_four_corners : Stmt := topS 47
theorem sc_four_corners : FnScope ["numbers", "a", "b", "c", "d"] ["numbers"] (defScope s_four_corners) := ⟨rfl, rfl, rfl, by decide +kernel, rfl, by decide +kernel, by decide +kernel⟩
abbrev s_eight_corners : Stmt := topS 48
theorem sc_eight_corners : FnScope ["numbers", "a", "b", "c", "d", "e", "f", "g", "h"] ["numbers"] (defScope s_eight_corners) := ⟨rfl, rfl, rfl, by decide +kernel, rfl, by decide +kernel, by decide +kernel⟩
abbrev s_sure_part : Stmt := topS 49
theorem sc_sure_part : FnScope ["corners", "top", "below", "part"] ["corners"] (defScope s_sure_part) := ⟨rfl, rfl, rfl, by decide +kernel, rfl, by decide +kernel, by decide +kernel⟩
abbrev s_Reading_init : Stmt := inClass (topS 52) 0
theorem sc_Reading_init : FnScope ["self", "box"] ["self", "box"] (defScope s_Reading_init) := ⟨rfl, rfl, rfl, by decide +kernel, rfl, by decide +kernel, by decide +kernel⟩
abbrev s_Reading_part : Stmt := inClass (topS 52) 1
theorem sc_Reading_part : FnScope ["self", "most"] ["self", "most"] (defScope s_Reading_part) := ⟨rfl, rfl, rfl, by decide +kernel, rfl, by decide +kernel, by decide +kernel⟩
abbrev s_Reading_took : Stmt := inClass (topS 52) 2
theorem sc_Reading_took : FnScope ["self"] ["self"] (defScope s_Reading_took) := ⟨rfl, rfl, rfl, by decide +kernel, rfl, by decide +kernel, by decide +kernel⟩
abbrev s_reader : Stmt := topS 53
theorem sc_reader : FnScope ["tree"] ["tree"] (defScope s_reader) := ⟨rfl, rfl, rfl, by decide +kernel, rfl, by decide +kernel, by decide +kernel⟩
abbrev s_box_of : Stmt := topS 54
theorem sc_box_of : FnScope ["tree", "word"] ["tree"] (defScope s_box_of) := ⟨rfl, rfl, rfl, by decide +kernel, rfl, by decide +kernel, by decide +kernel⟩
abbrev s_power_box : Stmt := topS 55
theorem sc_power_box : FnScope ["tree", "times"] ["tree", "times"] (defScope s_power_box) := ⟨rfl, rfl, rfl, by decide +kernel, rfl, by decide +kernel, by decide +kernel⟩
abbrev s_first_parts : Stmt := topS 56
theorem sc_first_parts : FnScope ["tree", "many", "most", "reading", "parts", "answer"] ["tree", "many", "most"] (defScope s_first_parts) := ⟨rfl, rfl, rfl, by decide +kernel, rfl, by decide +kernel, by decide +kernel⟩
abbrev s_law_row : Stmt := topS 58
theorem sc_law_row : FnScope ["_law_script", "_law_mixed", "_law_cell"] ["_law_script"] (defScope s_law_row) := ⟨rfl, rfl, rfl, by decide +kernel, rfl, by decide +kernel, by decide +kernel⟩
abbrev s_law_taken : Stmt := topS 59
theorem sc_law_taken : FnScope ["_law_row_here", "_law_many", "_law_found", "_law_cell"] ["_law_row_here", "_law_many"] (defScope s_law_taken) := ⟨rfl, rfl, rfl, by decide +kernel, rfl, by decide +kernel, by decide +kernel⟩
abbrev s_law_whole : Stmt := topS 60
theorem sc_law_whole : FnScope ["_law_found"] ["_law_found"] (defScope s_law_whole) := ⟨rfl, rfl, rfl, by decide +kernel, rfl, by decide +kernel, by decide +kernel⟩
abbrev s_law_list : Stmt := topS 61
theorem sc_law_list : FnScope ["_law_found", "_law_due", "_law_number"] ["_law_found", "_law_due"] (defScope s_law_list) := ⟨rfl, rfl, rfl, by decide +kernel, rfl, by decide +kernel, by decide +kernel⟩
abbrev s_law_signed : Stmt := topS 62
theorem sc_law_signed : FnScope ["_law_row_here", "_law_most"] ["_law_row_here", "_law_most"] (defScope s_law_signed) := ⟨rfl, rfl, rfl, by decide +kernel, rfl, by decide +kernel, by decide +kernel⟩
abbrev s_law_root : Stmt := topS 63
theorem sc_law_root : FnScope ["_law_number", "_law_low", "_law_high", "_law_middle"] ["_law_number"] (defScope s_law_root) := ⟨rfl, rfl, rfl, by decide +kernel, rfl, by decide +kernel, by decide +kernel⟩
abbrev s_law_common : Stmt := topS 64
theorem sc_law_common : FnScope ["_law_one", "_law_other"] ["_law_one", "_law_other"] (defScope s_law_common) := ⟨rfl, rfl, rfl, by decide +kernel, rfl, by decide +kernel, by decide +kernel⟩
abbrev s_law_lowest : Stmt := topS 65
theorem sc_law_lowest : FnScope ["_law_top", "_law_below_here", "_law_part"] ["_law_top", "_law_below_here"] (defScope s_law_lowest) := ⟨rfl, rfl, rfl, by decide +kernel, rfl, by decide +kernel, by decide +kernel⟩
abbrev s_law_made : Stmt := topS 66
theorem sc_law_made : FnScope ["_law_a", "_law_b", "_law_c", "_law_part"] ["_law_a", "_law_b", "_law_c"] (defScope s_law_made) := ⟨rfl, rfl, rfl, by decide +kernel, rfl, by decide +kernel, by decide +kernel⟩
abbrev s_law_sum : Stmt := topS 67
theorem sc_law_sum : FnScope ["_law_one", "_law_other", "_law_by", "_law_a"] ["_law_one", "_law_other", "_law_by"] (defScope s_law_sum) := ⟨rfl, rfl, rfl, by decide +kernel, rfl, by decide +kernel, by decide +kernel⟩
abbrev s_law_product : Stmt := topS 68
theorem sc_law_product : FnScope ["_law_one", "_law_other", "_law_d", "_law_a"] ["_law_one", "_law_other", "_law_d"] (defScope s_law_product) := ⟨rfl, rfl, rfl, by decide +kernel, rfl, by decide +kernel, by decide +kernel⟩
abbrev s_law_quotient : Stmt := topS 69
theorem sc_law_quotient : FnScope ["_law_one", "_law_other", "_law_d", "_law_size"] ["_law_one", "_law_other", "_law_d"] (defScope s_law_quotient) := ⟨rfl, rfl, rfl, by decide +kernel, rfl, by decide +kernel, by decide +kernel⟩
abbrev s_law_below : Stmt := topS 70
theorem sc_law_below : FnScope ["_law_one", "_law_d", "_law_size", "_law_root_here"] ["_law_one", "_law_d"] (defScope s_law_below) := ⟨rfl, rfl, rfl, by decide +kernel, rfl, by decide +kernel, by decide +kernel⟩
abbrev s_law_parts : Stmt := topS 71
theorem sc_law_parts : FnScope ["_law_one", "_law_d", "_law_many", "_law_found", "_law_part"] ["_law_one", "_law_d", "_law_many"] (defScope s_law_parts) := ⟨rfl, rfl, rfl, by decide +kernel, rfl, by decide +kernel, by decide +kernel⟩
abbrev s_law_ring : Stmt := topS 72
theorem sc_law_ring : FnScope ["_law_one", "_law_d", "_law_seen", "_law_parts_here", "_law_part", "_law_first"] ["_law_one", "_law_d"] (defScope s_law_ring) := ⟨rfl, rfl, rfl, by decide +kernel, rfl, by decide +kernel, by decide +kernel⟩
abbrev s_law_why : Stmt := topS 73
theorem sc_law_why : FnScope ["_law_top", "_law_d", "_law_below_here", "_law_most", "e", "_law_kinds"] ["_law_top", "_law_d", "_law_below_here", "_law_most"] (defScope s_law_why) := ⟨rfl, rfl, rfl, by decide +kernel, rfl, by decide +kernel, by decide +kernel⟩
abbrev s_law : Stmt := topS 74
theorem sc_law : FnScope ["_law_script", "_law_row_here", "_law_top", "_law_d", "_law_below_here", "_law_way", "_law_root_here", "_law_due", "_law_many", "_law_found", "_law_parts_here", "_law_told"] ["_law_script"] (defScope s_law) := ⟨rfl, rfl, rfl, by decide +kernel, rfl, by decide +kernel, by decide +kernel⟩
/-! ### the head: facts by names, the run -/
def d_root_below : He.DefD := ⟨("root_below", none), "root_below", "root_below", defArgs s_root_below, defBody s_root_below, defScope s_root_below, [], []⟩
def d_Meter_init : He.DefD := ⟨("Meter", some "__init__"), "__init__", "Meter.__init__", defArgs s_Meter_init, defBody s_Meter_init, defScope s_Meter_init, [], []⟩
def d_Meter_allow : He.DefD := ⟨("Meter", some "allow"), "allow", "Meter.allow", defArgs s_Meter_allow, defBody s_Meter_allow, defScope s_Meter_allow, [], []⟩
def d_Meter_pay : He.DefD := ⟨("Meter", some "pay"), "pay", "Meter.pay", defArgs s_Meter_pay, defBody s_Meter_pay, defScope s_Meter_pay, [], []⟩
def d_FractionChain_init : He.DefD := ⟨("FractionChain", some "__init__"), "__init__", "FractionChain.__init__", defArgs s_FractionChain_init, defBody s_FractionChain_init, defScope s_FractionChain_init, [], []⟩
def d_FractionChain_has_ended : He.DefD := ⟨("FractionChain", some "has_ended"), "has_ended", "FractionChain.has_ended", defArgs s_FractionChain_has_ended, defBody s_FractionChain_has_ended, defScope s_FractionChain_has_ended, [], []⟩
def d_FractionChain_next_part : He.DefD := ⟨("FractionChain", some "next_part"), "next_part", "FractionChain.next_part", defArgs s_FractionChain_next_part, defBody s_FractionChain_next_part, defScope s_FractionChain_next_part, [], []⟩
def d_RootChain_init : He.DefD := ⟨("RootChain", some "__init__"), "__init__", "RootChain.__init__", defArgs s_RootChain_init, defBody s_RootChain_init, defScope s_RootChain_init, [], []⟩
def d_RootChain_has_ended : He.DefD := ⟨("RootChain", some "has_ended"), "has_ended", "RootChain.has_ended", defArgs s_RootChain_has_ended, defBody s_RootChain_has_ended, defScope s_RootChain_has_ended, [], []⟩
def d_RootChain_next_part : He.DefD := ⟨("RootChain", some "next_part"), "next_part", "RootChain.next_part", defArgs s_RootChain_next_part, defBody s_RootChain_next_part, defScope s_RootChain_next_part, [], []⟩
def d_RootChain_what_is_left : He.DefD := ⟨("RootChain", some "what_is_left"), "what_is_left", "RootChain.what_is_left", defArgs s_RootChain_what_is_left, defBody s_RootChain_what_is_left, defScope s_RootChain_what_is_left, [], []⟩
def d_RuledChain_init : He.DefD := ⟨("RuledChain", some "__init__"), "__init__", "RuledChain.__init__", defArgs s_RuledChain_init, defBody s_RuledChain_init, defScope s_RuledChain_init, [], []⟩
def d_RuledChain_has_ended : He.DefD := ⟨("RuledChain", some "has_ended"), "has_ended", "RuledChain.has_ended", defArgs s_RuledChain_has_ended, defBody s_RuledChain_has_ended, defScope s_RuledChain_has_ended, [], []⟩
def d_RuledChain_next_part : He.DefD := ⟨("RuledChain", some "next_part"), "next_part", "RuledChain.next_part", defArgs s_RuledChain_next_part, defBody s_RuledChain_next_part, defScope s_RuledChain_next_part, [], []⟩
def d_Leaf_init : He.DefD := ⟨("Leaf", some "__init__"), "__init__", "Leaf.__init__", defArgs s_Leaf_init, defBody s_Leaf_init, defScope s_Leaf_init, [], []⟩
def d_Leaf_ask : He.DefD := ⟨("Leaf", some "ask"), "ask", "Leaf.ask", defArgs s_Leaf_ask, defBody s_Leaf_ask, defScope s_Leaf_ask, [], []⟩
def d_leaf_of : He.DefD := ⟨("leaf_of", none), "leaf_of", "leaf_of", defArgs s_leaf_of, defBody s_leaf_of, defScope s_leaf_of, [], []⟩
def d_root_chain : He.DefD := ⟨("root_chain", none), "root_chain", "root_chain", defArgs s_root_chain, defBody s_root_chain, defScope s_root_chain, [], []⟩
def d_check_tree : He.DefD := ⟨("check_tree", none), "check_tree", "check_tree", defArgs s_check_tree, defBody s_check_tree, defScope s_check_tree, [], []⟩
def d_check_at_depth : He.DefD := ⟨("check_at_depth", none), "check_at_depth", "check_at_depth", defArgs s_check_at_depth, defBody s_check_at_depth, defScope s_check_at_depth, [], []⟩
def d_require : He.DefD := ⟨("require", none), "require", "require", defArgs s_require, defBody s_require, defScope s_require, [], []⟩
def d_check_row : He.DefD := ⟨("check_row", none), "check_row", "check_row", defArgs s_check_row, defBody s_check_row, defScope s_check_row, [], []⟩
def d_is_whole : He.DefD := ⟨("is_whole", none), "is_whole", "is_whole", defArgs s_is_whole, defBody s_is_whole, defScope s_is_whole, [], []⟩
def d_check_fraction : He.DefD := ⟨("check_fraction", none), "check_fraction", "check_fraction", defArgs s_check_fraction, defBody s_check_fraction, defScope s_check_fraction, [], []⟩
def d_check_root : He.DefD := ⟨("check_root", none), "check_root", "check_root", defArgs s_check_root, defBody s_check_root, defScope s_check_root, [], []⟩
def d_check_ruled : He.DefD := ⟨("check_ruled", none), "check_ruled", "check_ruled", defArgs s_check_ruled, defBody s_check_ruled, defScope s_check_ruled, [], []⟩
def d_check_four : He.DefD := ⟨("check_four", none), "check_four", "check_four", defArgs s_check_four, defBody s_check_four, defScope s_check_four, [], []⟩
def d_check_eight : He.DefD := ⟨("check_eight", none), "check_eight", "check_eight", defArgs s_check_eight, defBody s_check_eight, defScope s_check_eight, [], []⟩
def d_check_line : He.DefD := ⟨("check_line", none), "check_line", "check_line", defArgs s_check_line, defBody s_check_line, defScope s_check_line, [], []⟩
def d_check_power : He.DefD := ⟨("check_power", none), "check_power", "check_power", defArgs s_check_power, defBody s_check_power, defScope s_check_power, [], []⟩
def d_ring_of : He.DefD := ⟨("ring_of", none), "ring_of", "ring_of", defArgs s_ring_of, defBody s_ring_of, defScope s_ring_of, [], []⟩
def d_read_round : He.DefD := ⟨("read_round", none), "read_round", "read_round", defArgs s_read_round, defBody s_read_round, defScope s_read_round, [], []⟩
def d_FractionBox_init : He.DefD := ⟨("FractionBox", some "__init__"), "__init__", "FractionBox.__init__", defArgs s_FractionBox_init, defBody s_FractionBox_init, defScope s_FractionBox_init, [], []⟩
def d_FractionBox_ask : He.DefD := ⟨("FractionBox", some "ask"), "ask", "FractionBox.ask", defArgs s_FractionBox_ask, defBody s_FractionBox_ask, defScope s_FractionBox_ask, [], []⟩
def d_FractionBox_nothing_left : He.DefD := ⟨("FractionBox", some "nothing_left"), "nothing_left", "FractionBox.nothing_left", defArgs s_FractionBox_nothing_left, defBody s_FractionBox_nothing_left, defScope s_FractionBox_nothing_left, [], []⟩
def d_FourBox_init : He.DefD := ⟨("FourBox", some "__init__"), "__init__", "FourBox.__init__", defArgs s_FourBox_init, defBody s_FourBox_init, defScope s_FourBox_init, [], []⟩
def d_FourBox_ask : He.DefD := ⟨("FourBox", some "ask"), "ask", "FourBox.ask", defArgs s_FourBox_ask, defBody s_FourBox_ask, defScope s_FourBox_ask, [], []⟩
def d_FourBox_tell : He.DefD := ⟨("FourBox", some "tell"), "tell", "FourBox.tell", defArgs s_FourBox_tell, defBody s_FourBox_tell, defScope s_FourBox_tell, [], []⟩
def d_FourBox_take : He.DefD := ⟨("FourBox", some "take"), "take", "FourBox.take", defArgs s_FourBox_take, defBody s_FourBox_take, defScope s_FourBox_take, [], []⟩
def d_EightBox_init : He.DefD := ⟨("EightBox", some "__init__"), "__init__", "EightBox.__init__", defArgs s_EightBox_init, defBody s_EightBox_init, defScope s_EightBox_init, [], []⟩
def d_EightBox_ask : He.DefD := ⟨("EightBox", some "ask"), "ask", "EightBox.ask", defArgs s_EightBox_ask, defBody s_EightBox_ask, defScope s_EightBox_ask, [], []⟩
def d_EightBox_tell : He.DefD := ⟨("EightBox", some "tell"), "tell", "EightBox.tell", defArgs s_EightBox_tell, defBody s_EightBox_tell, defScope s_EightBox_tell, [], []⟩
def d_EightBox_take : He.DefD := ⟨("EightBox", some "take"), "take", "EightBox.take", defArgs s_EightBox_take, defBody s_EightBox_take, defScope s_EightBox_take, [], []⟩
def d_EightBox_left_without : He.DefD := ⟨("EightBox", some "left_without"), "left_without", "EightBox.left_without", defArgs s_EightBox_left_without, defBody s_EightBox_left_without, defScope s_EightBox_left_without, [], []⟩
def d_box_of_one : He.DefD := ⟨("box_of_one", none), "box_of_one", "box_of_one", defArgs s_box_of_one, defBody s_box_of_one, defScope s_box_of_one, [], []⟩
def d_with_first_part : He.DefD := ⟨("with_first_part", none), "with_first_part", "with_first_part", defArgs s_with_first_part, defBody s_with_first_part, defScope s_with_first_part, [], []⟩
def d_with_second_part : He.DefD := ⟨("with_second_part", none), "with_second_part", "with_second_part", defArgs s_with_second_part, defBody s_with_second_part, defScope s_with_second_part, [], []⟩
def d_turned_over : He.DefD := ⟨("turned_over", none), "turned_over", "turned_over", defArgs s_turned_over, defBody s_turned_over, defScope s_turned_over, [], []⟩
def d_four_corners : He.DefD := ⟨("four_corners", none), "four_corners", "four_corners", defArgs s_four_corners, defBody s_four_corners, defScope s_four_corners, [], []⟩
def d_eight_corners : He.DefD := ⟨("eight_corners", none), "eight_corners", "eight_corners", defArgs s_eight_corners, defBody s_eight_corners, defScope s_eight_corners, [], []⟩
def d_sure_part : He.DefD := ⟨("sure_part", none), "sure_part", "sure_part", defArgs s_sure_part, defBody s_sure_part, defScope s_sure_part, [], []⟩
def d_Reading_init : He.DefD := ⟨("Reading", some "__init__"), "__init__", "Reading.__init__", defArgs s_Reading_init, defBody s_Reading_init, defScope s_Reading_init, [], []⟩
def d_Reading_part : He.DefD := ⟨("Reading", some "part"), "part", "Reading.part", defArgs s_Reading_part, defBody s_Reading_part, defScope s_Reading_part, [], []⟩
def d_Reading_took : He.DefD := ⟨("Reading", some "took"), "took", "Reading.took", defArgs s_Reading_took, defBody s_Reading_took, defScope s_Reading_took, [], []⟩
def d_reader : He.DefD := ⟨("reader", none), "reader", "reader", defArgs s_reader, defBody s_reader, defScope s_reader, [], []⟩
def d_box_of : He.DefD := ⟨("box_of", none), "box_of", "box_of", defArgs s_box_of, defBody s_box_of, defScope s_box_of, [], []⟩
def d_power_box : He.DefD := ⟨("power_box", none), "power_box", "power_box", defArgs s_power_box, defBody s_power_box, defScope s_power_box, [], []⟩
def d_first_parts : He.DefD := ⟨("first_parts", none), "first_parts", "first_parts", defArgs s_first_parts, defBody s_first_parts, defScope s_first_parts, [], []⟩
def d_law_row : He.DefD := ⟨("_law_row", none), "_law_row", "_law_row", defArgs s_law_row, defBody s_law_row, defScope s_law_row, [], []⟩
def d_law_taken : He.DefD := ⟨("_law_taken", none), "_law_taken", "_law_taken", defArgs s_law_taken, defBody s_law_taken, defScope s_law_taken, [], []⟩
def d_law_whole : He.DefD := ⟨("_law_whole", none), "_law_whole", "_law_whole", defArgs s_law_whole, defBody s_law_whole, defScope s_law_whole, [], []⟩
def d_law_list : He.DefD := ⟨("_law_list", none), "_law_list", "_law_list", defArgs s_law_list, defBody s_law_list, defScope s_law_list, [], []⟩
def d_law_signed : He.DefD := ⟨("_law_signed", none), "_law_signed", "_law_signed", defArgs s_law_signed, defBody s_law_signed, defScope s_law_signed, [], []⟩
def d_law_root : He.DefD := ⟨("_law_root", none), "_law_root", "_law_root", defArgs s_law_root, defBody s_law_root, defScope s_law_root, [], []⟩
def d_law_common : He.DefD := ⟨("_law_common", none), "_law_common", "_law_common", defArgs s_law_common, defBody s_law_common, defScope s_law_common, [], []⟩
def d_law_lowest : He.DefD := ⟨("_law_lowest", none), "_law_lowest", "_law_lowest", defArgs s_law_lowest, defBody s_law_lowest, defScope s_law_lowest, [], []⟩
def d_law_made : He.DefD := ⟨("_law_made", none), "_law_made", "_law_made", defArgs s_law_made, defBody s_law_made, defScope s_law_made, [], []⟩
def d_law_sum : He.DefD := ⟨("_law_sum", none), "_law_sum", "_law_sum", defArgs s_law_sum, defBody s_law_sum, defScope s_law_sum, [], []⟩
def d_law_product : He.DefD := ⟨("_law_product", none), "_law_product", "_law_product", defArgs s_law_product, defBody s_law_product, defScope s_law_product, [], []⟩
def d_law_quotient : He.DefD := ⟨("_law_quotient", none), "_law_quotient", "_law_quotient", defArgs s_law_quotient, defBody s_law_quotient, defScope s_law_quotient, [], []⟩
def d_law_below : He.DefD := ⟨("_law_below", none), "_law_below", "_law_below", defArgs s_law_below, defBody s_law_below, defScope s_law_below, [], []⟩
def d_law_parts : He.DefD := ⟨("_law_parts", none), "_law_parts", "_law_parts", defArgs s_law_parts, defBody s_law_parts, defScope s_law_parts, [], []⟩
def d_law_ring : He.DefD := ⟨("_law_ring", none), "_law_ring", "_law_ring", defArgs s_law_ring, defBody s_law_ring, defScope s_law_ring, [], []⟩
def d_law_why : He.DefD := ⟨("_law_why", none), "_law_why", "_law_why", defArgs s_law_why, defBody s_law_why, defScope s_law_why, [], []⟩
def d_law : He.DefD := ⟨("law", none), "law", "law", defArgs s_law, defBody s_law, defScope s_law, [], []⟩
def fnL : List He.DefD := ([d_root_below, d_Meter_init, d_Meter_allow, d_Meter_pay, d_FractionChain_init, d_FractionChain_has_ended, d_FractionChain_next_part, d_RootChain_init, d_RootChain_has_ended, d_RootChain_next_part, d_RootChain_what_is_left, d_RuledChain_init, d_RuledChain_has_ended, d_RuledChain_next_part, d_Leaf_init, d_Leaf_ask, d_leaf_of, d_root_chain, d_check_tree, d_check_at_depth, d_require, d_check_row, d_is_whole, d_check_fraction, d_check_root, d_check_ruled, d_check_four, d_check_eight, d_check_line, d_check_power] : List He.DefD) ++ ([d_ring_of, d_read_round, d_FractionBox_init, d_FractionBox_ask, d_FractionBox_nothing_left, d_FourBox_init, d_FourBox_ask, d_FourBox_tell, d_FourBox_take, d_EightBox_init, d_EightBox_ask, d_EightBox_tell, d_EightBox_take, d_EightBox_left_without, d_box_of_one, d_with_first_part, d_with_second_part, d_turned_over, d_four_corners, d_eight_corners, d_sure_part, d_Reading_init, d_Reading_part, d_Reading_took, d_reader, d_box_of, d_power_box, d_first_parts, d_law_row, d_law_taken] : List He.DefD) ++ ([d_law_whole, d_law_list, d_law_signed, d_law_root, d_law_common, d_law_lowest, d_law_made, d_law_sum, d_law_product, d_law_quotient, d_law_below, d_law_parts, d_law_ring, d_law_why, d_law] : List He.DefD)
def faL : List He.Fa := ([.free "len", .free "isinstance", .free "range", .free "zip", .free "abs", .free "divmod", .free "min", .free "all", .free "any", .free "list", .free "tuple", .free "str", .free "int", .free "bool", .free "sum", .free "max", .exc "BadTree", .exc "NoValue", .exc "TooLong", .free "ValueError", .exm "BadTree" "PartError" true, .exm "TooLong" "PartError" true, .glo "PartError", .glo "BadTree", .glo "NoValue", .glo "TooLong", .glo "root_below", .glo "END", .glo "WAITS", .glo "Meter"] : List He.Fa) ++ ([.cls "Meter", .mkr "Meter", .meth "Meter" "allow", .meth "Meter" "pay", .noat "Meter" "left", .noat "Meter" "spent", .glo "FractionChain", .cls "FractionChain", .mkr "FractionChain", .meth "FractionChain" "has_ended", .meth "FractionChain" "next_part", .noat "FractionChain" "top", .noat "FractionChain" "below", .glo "RootChain", .cls "RootChain", .mkr "RootChain", .meth "RootChain" "has_ended", .meth "RootChain" "next_part", .meth "RootChain" "what_is_left", .noat "RootChain" "top", .noat "RootChain" "square", .noat "RootChain" "below", .noat "RootChain" "root", .glo "RuledChain", .cls "RuledChain", .mkr "RuledChain", .meth "RuledChain" "has_ended", .meth "RuledChain" "next_part", .noat "RuledChain" "parts", .noat "RuledChain" "ring"] : List He.Fa) ++ ([.noat "RuledChain" "steps", .noat "RuledChain" "at", .glo "Leaf", .cls "Leaf", .mkr "Leaf", .meth "Leaf" "ask", .noat "Leaf" "chain", .glo "leaf_of", .glo "root_chain", .int "MOST_NUMBER" 1000000000000, .int "MOST_DEPTH" 5, .int "MOST_PARTS" 12, .int "MOST_POWER" 4, .glo "check_tree", .glo "check_at_depth", .glo "require", .glo "check_row", .glo "is_whole", .glo "check_fraction", .glo "check_root", .glo "check_ruled", .glo "check_four", .glo "check_eight", .glo "check_line", .glo "check_power", .glo "LENGTHS", .glo "CHECKS", .glo "ring_of", .glo "read_round", .glo "FractionBox"] : List He.Fa) ++ ([.cls "FractionBox", .mkr "FractionBox", .meth "FractionBox" "ask", .meth "FractionBox" "nothing_left", .noat "FractionBox" "top", .noat "FractionBox" "below", .noat "FractionBox" "told", .glo "FourBox", .cls "FourBox", .mkr "FourBox", .meth "FourBox" "ask", .meth "FourBox" "tell", .meth "FourBox" "take", .noat "FourBox" "numbers", .noat "FourBox" "tree", .noat "FourBox" "started", .noat "FourBox" "told", .noat "FourBox" "rest", .glo "EightBox", .cls "EightBox", .mkr "EightBox", .meth "EightBox" "ask", .meth "EightBox" "tell", .meth "EightBox" "take", .meth "EightBox" "left_without", .noat "EightBox" "numbers", .noat "EightBox" "trees", .noat "EightBox" "taken", .noat "EightBox" "told", .noat "EightBox" "rest"] : List He.Fa) ++ ([.glo "box_of_one", .glo "with_first_part", .glo "with_second_part", .glo "turned_over", .glo "four_corners", .glo "eight_corners", .glo "sure_part", .glo "TIMES", .glo "Reading", .cls "Reading", .mkr "Reading", .meth "Reading" "part", .meth "Reading" "took", .noat "Reading" "box", .noat "Reading" "meter", .glo "reader", .glo "box_of", .glo "power_box", .glo "first_parts", .glo "_law_row", .glo "_law_taken", .glo "_law_whole", .glo "_law_list", .glo "_law_signed", .glo "_law_root", .glo "_law_common", .glo "_law_lowest", .glo "_law_made", .glo "_law_sum", .glo "_law_product"] : List He.Fa) ++ ([.glo "_law_quotient", .glo "_law_below", .glo "_law_parts", .glo "_law_ring", .glo "_law_why", .glo "law"] : List He.Fa)
def tsL : List He.Tab := [(fun K => He.ga K "LENGTHS", ["fraction", "root", "ruled", "four", "eight", "power"]), (fun K => He.ga K "CHECKS", ["fraction", "root", "ruled", "four", "eight", "power"])]
def excCB (K : PySem.W.Frag) (x : Str) : Bool := He.eqO (PySem.W.findIn K (.ref (He.ga K x)) "__getattribute__") (some (some (.builtin "BaseException.__getattribute__"))) && (He.eqO (PySem.W.findIn K (.ref (He.ga K x)) "__getattr__") (some none) &&
  (decide (PySem.W.subIn K (.ref (He.ga K x)) (.type "BaseException") = some true) && (PySem.W.hasDictIn K (He.ga K x) && (He.eqO (PySem.W.findIn K (.ref (He.ga K x)) "__class__") (some (some (.builtin "object.__class__"))) &&
  (He.eqO (PySem.W.specialIn K (.builtin "object.__class__") "__get__") (some (some (.builtin "getset_descriptor.__get__"))) && (decide (PySem.W.takesIn K (.builtin "object.__class__") = some true) && decide (PySem.W.mroIn K (He.ga K x) (.type "object") = some true)))))))
def clsB (K : PySem.W.Frag) (x : Str) : Bool := He.eqO (PySem.W.findIn K (.ref (He.ga K x)) "__class__") (some (some (.builtin "object.__class__"))) && decide (PySem.W.mroIn K (He.ga K x) (.type "object") = some true)
theorem clsB_ok {K : PySem.W.Frag} {x : Str} (h : clsB K x = true) : PySem.W.findIn K (.ref (He.ga K x)) "__class__" = some (some (.builtin "object.__class__")) ∧ PySem.W.mroIn K (He.ga K x) (.type "object") = some true := by
  obtain ⟨h1, h2⟩ := He.ba h
  exact ⟨He.eqO_ok h1, of_decide_eq_true h2⟩
def kitC (K : PySem.W.Frag) (x y : Str) (b : Bool) : Bool := decide (PySem.W.kitOne K (.ref (He.ga K x)) (.ref (He.ga K y)) = some b)
def kitV (K : PySem.W.Frag) (x : Str) : Bool := decide (PySem.W.kitOne K (.ref (He.ga K x)) (.type "ValueError") = some true)
def xetB (K : PySem.W.Frag) : Bool := excCB K "BadTree" && (excCB K "TooLong" && (kitC K "BadTree" "BadTree" true && (kitC K "BadTree" "TooLong" false && (kitC K "BadTree" "NoValue" false && (kitV K "BadTree" && (kitC K "TooLong" "BadTree" false && (kitC K "TooLong" "TooLong" true && (kitC K "TooLong" "NoValue" false && (kitV K "TooLong" &&
  (clsB K "FractionChain" && (clsB K "RootChain" && (kitC K "FractionChain" "FractionChain" true && kitC K "RootChain" "FractionChain" false))))))))))))
theorem excC_of {K : PySem.W.Frag} {x : Str} (h : excCB K x = true) : ExcC K (He.ga K x) := by
  obtain ⟨h1, h⟩ := He.ba h
  obtain ⟨h2, h⟩ := He.ba h
  obtain ⟨h3, h⟩ := He.ba h
  obtain ⟨h4, h⟩ := He.ba h
  obtain ⟨h5, h⟩ := He.ba h
  obtain ⟨h6, h⟩ := He.ba h
  obtain ⟨h7, h8⟩ := He.ba h
  exact ⟨He.eqO_ok h1, He.eqO_ok h2, of_decide_eq_true h3, h4, He.eqO_ok h5, He.eqO_ok h6, of_decide_eq_true h7, of_decide_eq_true h8⟩
open He in
def exL (K : PySem.W.Frag) : Bool := tupB K "END" [.str "end"] && (tupB K "WAITS" [.str "waits"] && (valsB K (ga K "LENGTHS") [("fraction", .int 3), ("root", .int 4), ("ruled", .int 4), ("four", .int 3), ("eight", .int 4), ("power", .int 3)] && (valsB K (ga K "CHECKS") [("fraction", .glo "check_fraction"), ("root", .glo "check_root"), ("ruled", .glo "check_ruled"), ("four", .glo "check_four"), ("eight", .glo "check_eight"), ("power", .glo "check_power")] && (tupB K "TIMES" [.int 1, .int 0, .int 0, .int 0, .int 0, .int 0, .int 0, .int 1] && (xetB K)))))
def looseL : List Str := (["PartError", "BadTree", "NoValue", "TooLong", "root_below", "END", "WAITS", "Meter", "FractionChain", "RootChain", "RuledChain", "Leaf", "leaf_of", "root_chain", "MOST_NUMBER", "MOST_DEPTH", "MOST_PARTS", "MOST_POWER", "check_tree", "check_at_depth", "require", "check_row", "is_whole", "check_fraction", "check_root", "check_ruled", "check_four", "check_eight", "check_line", "check_power"] : List Str) ++ (["LENGTHS", "CHECKS", "ring_of", "read_round", "FractionBox", "FourBox", "EightBox", "box_of_one", "with_first_part", "with_second_part", "turned_over", "four_corners", "eight_corners", "sure_part", "TIMES", "Reading", "reader", "box_of", "power_box", "first_parts", "_law_row", "_law_taken", "_law_whole", "_law_list", "_law_signed", "_law_root", "_law_common", "_law_lowest", "_law_made", "_law_sum"] : List Str) ++ (["_law_product", "_law_quotient", "_law_below", "_law_parts", "_law_ring", "_law_why"] : List Str)
abbrev hk : PySem.W.Hook := He.hookX 4 faL fnL tsL [] exL
def ob (s : PySem.W.SharedT) : He.AlX := He.obsX 4 faL fnL tsL [] exL (HandSHeadRun.getT s)
theorem ob_eq (s : PySem.W.SharedT) : ob s = hk.obs s.abs := He.obsX_eq (HandSHeadRun.getT_eq s)
section
open PySem PySem.W PySem.Calls PyProof.Rows HandSHeadRun
theorem map3 {α β γ δ : Type _} {o : Option α} {f : α → β} {g : α → γ} {h : α → δ} {x : β} {y : γ} {z : δ} (a : o.map f = some x) (b : o.map g = some y) (c : o.map h = some z) : o.map (fun s => (f s, g s, h s)) = some (x, y, z) := by
  cases o with
  | none => cases a
  | some s => cases a; cases b; cases c; rfl
def RunA (r : OpenRow) (M : Nat) (w : World) : Prop := ∀ os : OsState, (endF (stepQ (denQ tabQ) r.prog w) M r.prog w os).map (fun s => looksF r.prog (boot_heap w.params) s.abs) = some true
def RunB (r : OpenRow) (q : Program) (M : Nat) (loose : List PySem.Str) (w : World) : Prop := ∀ os : OsState, (endF (stepQ (denQ tabQ) r.prog w) M r.prog w os).map (fun s => seenQ q loose (importedModules r.prog.main.body) (fun s => xlAt q [] s && recOk r.toRowW.records s) s.abs) = some (openGood q loose)
def RunC (r : OpenRow) (H : Hook) (ob : SharedT → H.α) (M : Nat) (w : World) : Prop := ∀ os : OsState, (endF (stepQ (denQ tabQ) r.prog w) M r.prog w os).map (fun s => ob s) = some (H.val w)
theorem run_of {r : OpenRow} {q : Program} {H : Hook} {ob : SharedT → H.α} {M : Nat} {loose : List PySem.Str} {w : World} (a : RunA r M w) (b : RunB r q M loose w) (c : RunC r H ob M w) : RunEq r q H ob M loose w := fun os => map3 (a os) (b os) (c os)
end
set_option maxHeartbeats 0 in
theorem run0a (w : World) : RunA (PySem.W.OpenLaw.row PySem.Challenge.rw_chainparts_k06_rings_come_again) 7500 (w.withFollow "special-get-raises" false) := by
  intro os
  kernel_rfl
set_option maxHeartbeats 0 in
theorem run0b (w : World) : RunB (PySem.W.OpenLaw.row PySem.Challenge.rw_chainparts_k06_rings_come_again) (PySem.W.view (PySem.W.OpenLaw.row PySem.Challenge.rw_chainparts_k06_rings_come_again).prog [74]) 7500 looseL (w.withFollow "special-get-raises" false) := by
  intro os
  kernel_rfl
set_option maxHeartbeats 0 in
theorem run0c (w : World) : RunC (PySem.W.OpenLaw.row PySem.Challenge.rw_chainparts_k06_rings_come_again) hk ob 7500 (w.withFollow "special-get-raises" false) := by
  intro os
  kernel_rfl
theorem run0 (w : World) : HandSHeadRun.RunEq (PySem.W.OpenLaw.row PySem.Challenge.rw_chainparts_k06_rings_come_again) (PySem.W.view (PySem.W.OpenLaw.row PySem.Challenge.rw_chainparts_k06_rings_come_again).prog [74]) hk ob 7500 looseL (w.withFollow "special-get-raises" false) := run_of (run0a w) (run0b w) (run0c w)
set_option maxHeartbeats 0 in
theorem run1a (w : World) : RunA (PySem.W.OpenLaw.row PySem.Challenge.rw_chainparts_k06_rings_come_again) 7500 (w.withFollow "special-get-raises" true) := by
  intro os
  kernel_rfl
set_option maxHeartbeats 0 in
theorem run1b (w : World) : RunB (PySem.W.OpenLaw.row PySem.Challenge.rw_chainparts_k06_rings_come_again) (PySem.W.view (PySem.W.OpenLaw.row PySem.Challenge.rw_chainparts_k06_rings_come_again).prog [74]) 7500 looseL (w.withFollow "special-get-raises" true) := by
  intro os
  kernel_rfl
set_option maxHeartbeats 0 in
theorem run1c (w : World) : RunC (PySem.W.OpenLaw.row PySem.Challenge.rw_chainparts_k06_rings_come_again) hk ob 7500 (w.withFollow "special-get-raises" true) := by
  intro os
  kernel_rfl
theorem run1 (w : World) : HandSHeadRun.RunEq (PySem.W.OpenLaw.row PySem.Challenge.rw_chainparts_k06_rings_come_again) (PySem.W.view (PySem.W.OpenLaw.row PySem.Challenge.rw_chainparts_k06_rings_come_again).prog [74]) hk ob 7500 looseL (w.withFollow "special-get-raises" true) := run_of (run1a w) (run1b w) (run1c w)
theorem run (w : World) : HandSHeadRun.RunEq (PySem.W.OpenLaw.row PySem.Challenge.rw_chainparts_k06_rings_come_again) (PySem.W.view (PySem.W.OpenLaw.row PySem.Challenge.rw_chainparts_k06_rings_come_again).prog [74]) hk ob 7500 looseL w := PySem.W.byRow2 "special-get-raises" (P := fun w => HandSHeadRun.RunEq (PySem.W.OpenLaw.row PySem.Challenge.rw_chainparts_k06_rings_come_again) (PySem.W.view (PySem.W.OpenLaw.row PySem.Challenge.rw_chainparts_k06_rings_come_again).prog [74]) hk ob 7500 looseL w) run0 run1 w
/-! ### calls of defs, in short -/
/-- the def x of the text stands at f, no one else bears its name -/
structure DefAt (K : PySem.W.Frag) (mg : Str → Option Value) (x : Str) (st : Stmt) (ps : List Str) (f : Addr) (fd : FuncData) : Prop where
  fn : Fun K x x st f fd
  mgx : mg x = some (.ref f)
  bd : Binds K fd ps []
/-- the def x keeps the promise sp, at level k -/
def COk (P : Program) (w : World) (K : PySem.W.Frag) (mg : Str → Option Value) (base : Heap) (CX : CXT) (k : Nat) (x : Str) (ps : List Str) (sp : Sp) : Prop :=
  ∃ (f : Addr) (fd : FuncData), FnOk P w K mg base CX k f fd ps sp ∧ mg x = some (.ref f) ∧ PySem.W.keepIn K (.ref f) = true ∧ Binds K fd ps []
theorem COk.of {P : Program} {w : World} {K : PySem.W.Frag} {mg : Str → Option Value} {base : Heap} {CX : CXT} {k : Nat} {x : Str} {st : Stmt} {ps : List Str} {sp : Sp} {f : Addr} {fd : FuncData}
    (D : DefAt K mg x st ps f fd) (h : FnOk P w K mg base CX k f fd ps sp) : COk P w K mg base CX k x ps sp := ⟨f, fd, h, D.mgx, D.fn.kp, D.bd⟩
theorem COk.mono {P : Program} {w : World} {K : PySem.W.Frag} {mg : Str → Option Value} {base : Heap} {CX : CXT} {k j : Nat} {x : Str} {ps : List Str} {sp : Sp}
    (h : COk P w K mg base CX k x ps sp) (hk : k ≤ j) : COk P w K mg base CX j x ps sp := by
  obtain ⟨f, fd, F, a, b, c⟩ := h
  exact ⟨f, fd, F.mono hk, a, b, c⟩
section
variable {X : Cx} {k : Nat} {x : Str} {ps : List Str} {sp : Sp} {e : Expr} {es : List Expr} {t : TA} {p pos : Pos}
theorem pe_c (C : COk X.prog X.w X.K X.mg X.base CX0 k x ps sp) (hr : Room k X.A) (ha : PA X (e :: es) t) (hg : Gl X x := by rfl)
    (hdb : (x == ("__debug__" : Str)) = false := by decide) (he : starEach (e :: es) X.env = (false, eval e X.env) :: starEach es X.env := by rfl) (hpl : (backTo pos (starEach es X.env)).any (·.1) = false := by rfl) :
    PE X (.Call (.Name x p) (e :: es) [] pos) (tCall sp [] E0 t) := by
  obtain ⟨f, fd, F, a, b, c⟩ := C
  exact pe_call F hr hg a b c .nil pass0 ha hdb he hpl
/-- one of two readings -/
theorem pe_alt {e : Expr} {t u : TE} (h : PE X e t) (h' : PE X e u) : PE X e (fun σ H Q => t σ H Q ∨ u σ H Q) :=
  ⟨fun pins s σ H Q I q => q.elim (h.run pins s σ H Q I) (h'.run pins s σ H Q I)⟩
/-- // by any divisor but nought -/
def CDivS (_ j : Int) : Prop := j ≠ 0 ∧ j.natAbs < 2 ^ 8000
theorem op_fdivS : OpR X (binaryOp .FloorDiv) (rI CDivS fun i j => .int (i.fdiv j)) := opI fun _ _ _ _ _ _ _ hc q =>
  PyProof.Rows.floordiv_int hc.1 q (.inl (PyProof.noPylong_of_log2 (Nat.lt_of_lt_of_le (PySem.Flt.log2_lt_of (k := 8000) (by decide) hc.2) (by decide))))
/-- ** of great ints -/
def CPowW (i j : Int) : Prop := 0 ≤ j ∧ (Builtin.Int.intBits i : Int) * j ≤ 2 ^ 27
/-- a written power -/
theorem pe_powc {a n v : Int} {j j' : Nat} {p p' pos : Pos} (h : a ^ n.toNat = v) (hc : CPow a n) : PE X (.BinOp (.Constant (.int a) j p) .Pow (.Constant (.int n) j' p') pos) (tC (.int v)) := by
  refine ⟨fun pins s σ H Q I q => ?_⟩
  have q' : Q (.int (a ^ n.toNat)) H := by rw [h]; exact q
  exact (pe_op op_pow pe_int pe_int).run pins s σ H Q I ⟨a, n, rfl, rfl, hc, q'⟩
/-- x ** 2 -/
def CSq (i : Int) : Prop := (Builtin.Int.intBits i : Int) * 2 ≤ 2 ^ 27
theorem op_sq : OpR X (binaryOp .Pow) (fun x y H Q => ∃ i, x = .int i ∧ y = .int 2 ∧ CSq i ∧ Q (.int (i * i)) H) := by
  intro pins s σ H x y v u Q I rx ry h
  obtain ⟨i, rfl, rfl, hc, q⟩ := h
  have e : i ^ (2 : Int).toNat = i * i := by
    show i ^ 2 = i * i
    grind
  exact (opI fun _ _ _ _ _ _ _ hc q => PyProof.Rows.pow_int hc.1 hc.2 q : OpR X (binaryOp .Pow) (rI CPowW fun i j => .int (i ^ j.toNat))) pins s σ H _ _ v u Q I rx ry ⟨i, 2, rfl, rfl, ⟨by decide, hc⟩, by show Q (.int (i ^ (2 : Int).toNat)) H; rw [e]; exact q⟩
theorem op_powW : OpR X (binaryOp .Pow) (rI CPowW fun i j => .int (i ^ j.toNat)) := opI fun _ _ _ _ _ _ _ hc q => PyProof.Rows.pow_int hc.1 hc.2 q
end
theorem same_upd {H : Hp} {p : Addr} {o : HO} (h : H p = none) : Same H (upd H p o) := fun b x e => by
  rw [upd_ne (ne_of_none e h)]
  exact e
theorem defAt_mk {K : PySem.W.Frag} {mg : Str → Option Value} {h : Heap} {x : Str} {st : Stmt} {ps : List Str} {f : Addr} {oc : Value} {od an : Option Addr} {osl : Array (Option Value)} {kV doc pm cdv ct : Value}
    (X : K.In h) (G : h.Ns mainGlobals mg) (a : PySem.W.nsIn K mainGlobals x = some (some (.ref f)))
    (l : K.lookup f = some ⟨oc, od, .func (PySem.W.fnOf x x (defArgs st) (defBody st) (defScope st) .none kV doc pm an cdv ct), osl⟩) (c : PySem.W.codeIn K cdv x = true) (k : PySem.W.keepIn K (.ref f) = true)
    (hb : ∀ (kV doc pm : Value) (an : Option Addr) (cdv ct : Value) (us : List Value), us.length = ps.length → bindArgs (PySem.W.fnOf x x (defArgs st) (defBody st) (defScope st) .none kV doc pm an cdv ct) ⟨us, []⟩ = pure (ps.zip us)) :
    DefAt K mg x st ps f (PySem.W.fnOf x x (defArgs st) (defBody st) (defScope st) .none kV doc pm an cdv ct) :=
  ⟨fun_mk l c k, PySem.W.mg_of X G a, (fun_mk (st := st) l c k).binds hb⟩
/-- the built-ins' names are still their own -/
structure BT (mg : Str → Option Value) : Prop where
  b_len : mg "len" = none
  b_isinstance : mg "isinstance" = none
  b_range : mg "range" = none
  b_zip : mg "zip" = none
  b_abs : mg "abs" = none
  b_divmod : mg "divmod" = none
  b_min : mg "min" = none
  b_all : mg "all" = none
  b_any : mg "any" = none
  b_list : mg "list" = none
  b_tuple : mg "tuple" = none
  b_str : mg "str" = none
  b_int : mg "int" = none
  b_bool : mg "bool" = none
  b_sum : mg "sum" = none
  b_max : mg "max" = none
/-! ### what the laws' own helpers do: a row of numbers is drawn from the script -/
/-- the script at a: known, never written -/
def ScrAt (K : PySem.W.Frag) (H : Hp) (a : Addr) (ns : List Int) : Prop := (∃ o, H a = some (.frz o (.lst (ns.map V.int)))) ∨ ∀ H', SqL K H' a (ns.map V.int)
theorem ScrAt.seq {K : PySem.W.Frag} {H : Hp} {a : Addr} {ns : List Int} (h : ScrAt K H a ns) : SqL K H a (ns.map V.int) := by
  rcases h with ⟨o, h⟩ | h
  · exact .inl (.inr ⟨o, h⟩)
  · exact h H
theorem ScrAt.of {K : PySem.W.Frag} {H : Hp} {a : Addr} {ns : List Int} (hO : Only H) (h : SqL K H a (ns.map V.int)) : ScrAt K H a ns := by
  rcases h with (h | ⟨o, h⟩) | h
  · rcases hO a with z | ⟨o, xs, z⟩
    · rw [z] at h; cases h
    · rw [z] at h; cases h
  · exact .inl ⟨o, h⟩
  · exact .inr fun _ => .inr h
theorem ScrAt.same {K : PySem.W.Frag} {H H' : Hp} {a : Addr} {ns : List Int} (h : ScrAt K H a ns) (s : Same H H') : ScrAt K H' a ns := by
  rcases h with ⟨o, h⟩ | h
  · exact .inl ⟨o, s _ _ h⟩
  · exact .inr h
/-- what is no locked thing may be written -/
theorem ScrAt.but {K : PySem.W.Frag} {H H' : Hp} {a r : Addr} {ns : List Int} (h : ScrAt K H a ns) (hr : ∀ o u, H r ≠ some (.frz o u)) (k : ∀ b o, H b = some o → b ≠ r → H' b = some o) : ScrAt K H' a ns := by
  rcases h with ⟨o, h⟩ | h
  · exact .inl ⟨o, k _ _ h fun z => by rw [z] at h; exact hr _ _ h⟩
  · exact .inr h
theorem no_frz {H : Hp} {r : Addr} {xs : List V} (h : H r = some (.lst xs)) : ∀ o u, H r ≠ some (.frz o u) := fun o u z => by rw [h] at z; cases z
/-- the row at r: the script at a (ns), a place in it, what is left of a great number, a mixed number -/
structure RowAt (K : PySem.W.Frag) (H : Hp) (r a : Addr) (ns : List Int) : Prop where
  row : ∃ (i : Nat) (left mixed : Int), H r = some (.lst [.ref a, .int i, .int left, .int mixed]) ∧ i ≤ ns.length ∧ 0 ≤ left ∧ 0 ≤ mixed ∧ mixed < 2147483647
  scr : ScrAt K H a ns
theorem ref_ne {a : Addr} {xs : List V} (ns : List Int) : V.ref a :: xs ≠ ns.map V.int := by
  cases ns with
  | nil => intro z; cases z
  | cons n r => intro z; rw [List.map_cons] at z; cases (List.cons.inj z).1
theorem RowAt.same {K : PySem.W.Frag} {H H' : Hp} {r a : Addr} {ns : List Int} (R : RowAt K H r a ns) (s : Same H H') : RowAt K H' r a ns := by
  obtain ⟨⟨i, l, m, e, z⟩, hS⟩ := R
  exact ⟨⟨i, l, m, s _ _ e, z⟩, hS.same s⟩
/-- a list other than the row is written -/
theorem RowAt.put {K : PySem.W.Frag} {H : Hp} {r a d : Addr} {ns : List Int} {xs ys : List V} (R : RowAt K H r a ns) (hd : H d = some (.lst xs)) (ne : d ≠ r) : RowAt K (upd H d (.lst ys)) r a ns := by
  obtain ⟨⟨i, l, m, e, z⟩, hS⟩ := R
  exact ⟨⟨i, l, m, by rw [upd_ne ne.symm]; exact e, z⟩, hS.but (no_frz hd) fun b o h hb => by rw [upd_ne hb]; exact h⟩
theorem RowAt.at_ {K : PySem.W.Frag} {H : Hp} {r a : Addr} {ns : List Int} (R : RowAt K H r a ns) : ∃ x xs, H r = some (.lst (.ref x :: xs)) := by
  obtain ⟨⟨i, l, m, e, z⟩, hS⟩ := R
  exact ⟨_, _, e⟩
def sp_law_row (K : PySem.W.Frag) : Sp := fun vs H Q _ => ∃ (a : Addr) (ns : List Int), vs = [.ref a] ∧ ScrAt K H a ns ∧ ns.length ≤ 63 ∧
  ∀ r H', H r = none → Same H H' → RowAt K H' r a ns → Q (.ref r) H'
/-- a drawn number: any one below many; only the row's list changes -/
def sp_law_taken (K : PySem.W.Frag) : Sp := fun vs H Q _ => ∃ (r a : Addr) (ns : List Int) (many : Int), vs = [.ref r, .int many] ∧ RowAt K H r a ns ∧ 0 < many ∧ many < 2 ^ 8000 ∧
  ∀ v H', 0 ≤ v → v < many → RowAt K H' r a ns → (∀ b o, H b = some o → b ≠ r → H' b = some o) → Q (.int v) H'
section
variable {P : Program} {w : World} {K : PySem.W.Frag} {mg : Str → Option Value} {base : Heap}
theorem ok_law_row {f : Addr} {fd : FuncData} (F : Fun K "_law_row" "_law_row" s_law_row f fd) : FnOk P w K mg base CX0 1 f fd ["_law_script"] (sp_law_row K) := by
  refine F.ok sc_law_row (fun vs H Q E h => ?_) (fun cdv A outer s H vs Q E hr h => ?_)
  · obtain ⟨a, ns, rfl, _⟩ := h
    rfl
  · obtain ⟨a, ns, rfl, hC, hlen, k⟩ := h
    have hS := hC.seq
    refine ⟨_, (pss_cons (ps_set (i := 1) sc_law_row.nd rfl (Or.inl rfl) pe_int)
    (pss_cons (ps_for PassesOwn.never rfl (pi_list (pv 0)) (pg_name (i := 2) sc_law_row.nd rfl (Or.inl rfl))
      (pss_one (ps_set (i := 1) sc_law_row.nd rfl (Or.inl rfl) (pe_op op_mod (pe_op op_add (pe_op op_add (pe_op op_mul (pv 1) pe_int) (pv 2)) pe_int) pe_int))))
    (pss_one (ps_ret (pe_lst (pa_cons (pv 0) (pa_cons pe_int (pa_cons pe_int (pa_cons (pv 1) pa_nil))))))))), ?_⟩
    refine ⟨_, rfl, a, rfl, ⟨_, hS⟩, for_list (K := K) (a := a) (xs := ns.map V.int) (fun i σ H2 => ∃ (m : Int) (v : Option V), σ = [some (.ref a), some (.int m), v] ∧ 0 ≤ m ∧ m < 2147483647 ∧ H2 = H)
      ⟨7, none, rfl, by decide, by decide, rfl⟩ (fun i σ H2 _ ⟨_, _, _, _, _, e⟩ => by rw [e]; exact hS) ?_ ?_⟩
    · rintro i y σ H2 hi ⟨m, v, rfl, h0, h1, rfl⟩
      obtain ⟨z, rfl⟩ : ∃ z, y = V.int z := by
        rw [List.getElem?_map] at hi
        cases e : ns[i]? with
        | none => rw [e] at hi; cases hi
        | some z => rw [e] at hi; exact ⟨z, (Option.some.inj hi).symm⟩
      refine ⟨_, rfl, _, _, rfl, rfl, .inl ⟨by omega, by omega⟩, _, rfl, _, _, rfl, rfl, _, _, rfl, rfl, _, _, rfl, rfl, (by show (0 : Int) < 2147483647; decide), ?_⟩
      exact ⟨_, _, rfl, Int.emod_nonneg _ (by decide), Int.emod_lt_of_pos _ (by decide), rfl⟩
    · rintro σ H2 ⟨m, v, rfl, h0, h1, rfl⟩
      refine ⟨_, rfl, _, rfl, (by show 4 ≤ sizeLine; decide), fun p hp => ?_⟩
      exact k p _ hp (same_upd hp) ⟨⟨0, 0, m, upd_same, Nat.zero_le _, by decide, h0, h1⟩, hC.same (same_upd hp)⟩
theorem natAbs_lt_pow {z : Int} {n : Nat} (h0 : 0 ≤ z) (h : z < 2 ^ n) : z.natAbs < 2 ^ n := by
  have e : ((2 ^ n : Nat) : Int) = 2 ^ n := by norm_cast
  omega
theorem ok_law_taken {f : Addr} {fd : FuncData} (F : Fun K "_law_taken" "_law_taken" s_law_taken f fd) (T : BT mg) : FnOk P w K mg base CX0 1 f fd ["_law_row_here", "_law_many"] (sp_law_taken K) := by
  refine F.ok sc_law_taken (fun vs H Q E h => ?_) (fun cdv A outer s H vs Q E hr h => ?_)
  · obtain ⟨r, a, ns, many, rfl, _⟩ := h
    rfl
  · obtain ⟨r, a, ns, many, rfl, ⟨⟨i, left, mixed, hr0, hi, hl, hm0, hm1⟩, hC⟩, hm, hmw, k⟩ := h
    have hS := hC.seq
    have mw : ∀ z, CDivW z many := fun z => wide_div (b := 8000) hm (natAbs_lt_pow (Int.le_of_lt hm) hmw) (by decide) (by decide)
    have nra : ∀ o, ScrAt K (upd H r o) a ns := fun o => hC.but (no_frz hr0) fun b z e hb => by rw [upd_ne hb]; exact e
    have kp : ∀ o b z, H b = some z → b ≠ r → (upd H r o) b = some z := fun o b z e hb => by rw [upd_ne hb]; exact e
    refine ⟨_, (pss_cons (ps_if (pt_cmpR op_gt (pe_ix ix_list (pv 0) pe_int (fun _ _ => rfl)) pe_int (nomark _))
      (pss_cons (ps_set (i := 2) sc_law_taken.nd rfl (Or.inl rfl) (pe_op op_mod (pe_ix ix_list (pv 0) pe_int (fun _ _ => rfl)) (pv 1)))
    (pss_cons (ps_asg (pe_op op_fdivW (pe_ix ix_list (pv 0) pe_int (fun _ _ => rfl)) (pv 1)) (pg_sub (pv 0) pe_int set_list))
    (pss_one (ps_ret (pv 2))))) pss_nil)
    (pss_cons (ps_if (pt_cmpR op_lt (pe_ix ix_list (pv 0) pe_int (fun _ _ => rfl)) (pe_callB call_len_seq (by rfl) T.b_len (by decide +kernel) (pa_cons (pe_ix ix_list (pv 0) pe_int (fun _ _ => rfl)) pa_nil)) (nomark _))
      (pss_cons (ps_set (i := 3) sc_law_taken.nd rfl (Or.inl rfl) (pe_ix ix_list (pe_ix ix_list (pv 0) pe_int (fun _ _ => rfl)) (pe_ix ix_list (pv 0) pe_int (fun _ _ => rfl)) (fun _ _ => rfl)))
    (pss_cons (ps_asg (pe_op op_add (pe_ix ix_list (pv 0) pe_int (fun _ _ => rfl)) pe_int) (pg_sub (pv 0) pe_int set_list))
    (pss_cons (ps_if (pt_cmpR op_ge (pv 3) (pe_powc (v := 1000000000000000000) (by decide) ⟨by decide, by decide, by decide⟩) (nomark _))
      (pss_one (ps_asg (pe_op op_fdivW (pv 3) (pv 1)) (pg_sub (pv 0) pe_int set_list))) pss_nil)
    (pss_one (ps_ret (pe_op op_mod (pv 3) (pv 1))))))) pss_nil)
    (pss_cons (ps_asg (pe_op op_mod (pe_op op_add (pe_op op_mul (pe_ix ix_list (pv 0) pe_int (fun _ _ => rfl)) pe_int) pe_int) pe_int) (pg_sub (pv 0) pe_int set_list))
    (pss_one (ps_ret (pe_op op_mod (pe_op op_fdiv (pe_ix ix_list (pv 0) pe_int (fun _ _ => rfl)) pe_int) (pv 1))))))), ?_⟩
    refine ⟨_, rfl, r, _, 2, .int left, rfl, rfl, SqL.of hr0, atI_nat (j := 2) rfl, _, _, rfl, rfl, _, rfl, ite2 (fun c => ?_) (fun c => ?_)⟩
    · -- what is left of a great number
      refine ⟨_, rfl, r, _, 2, .int left, rfl, rfl, SqL.of hr0, atI_nat (j := 2) rfl, _, rfl, _, _, rfl, rfl, hm, ?_⟩
      refine ⟨_, rfl, r, _, 2, .int left, rfl, rfl, SqL.of hr0, atI_nat (j := 2) rfl, _, rfl, _, _, rfl, rfl, mw _, ?_⟩
      refine ⟨_, rfl, r, _, 2, 2, rfl, rfl, hr0, rfl, ?_⟩
      refine ⟨_, rfl, k _ _ (Int.emod_nonneg _ (by omega)) (Int.emod_lt_of_pos _ hm) ⟨⟨i, left / many, mixed, upd_same, hi, Int.ediv_nonneg hl (by omega), hm0, hm1⟩, nra _⟩ (kp _)⟩
    · refine ⟨_, rfl, r, _, 1, .int i, rfl, rfl, SqL.of hr0, atI_nat (j := 1) rfl, _, rfl, r, _, 0, .ref a, rfl, rfl, SqL.of hr0, atI_nat (j := 0) rfl, a, _, rfl, .inl hS, _, _, rfl, rfl, _, rfl, ite2 (fun c2 => ?_) (fun c2 => ?_)⟩
      · have hi2 : i < ns.length := by
          have := of_decide_eq_true c2
          rw [List.length_map] at this
          omega
        have hz : (ns.map V.int)[i]? = some (.int ns[i]) := by
          rw [List.getElem?_map, List.getElem?_eq_getElem hi2]
          rfl
        refine ⟨_, rfl, r, _, 0, .ref a, rfl, rfl, SqL.of hr0, atI_nat (j := 0) rfl, _, rfl, r, _, 1, .int i, rfl, rfl, SqL.of hr0, atI_nat (j := 1) rfl, a, _, i, _, rfl, rfl, hS, atI_nat hz, ?_⟩
        generalize ns[i] = cell
        refine ⟨_, rfl, r, _, 1, .int i, rfl, rfl, SqL.of hr0, atI_nat (j := 1) rfl, _, _, rfl, rfl, _, rfl, r, _, 1, 1, rfl, rfl, hr0, rfl, ?_⟩
        have h1 : (upd H r (.lst [V.ref a, .int ((i : Int) + 1), .int left, .int mixed])) r = _ := upd_same
        refine ⟨_, rfl, _, _, rfl, rfl, _, rfl, ite2 (fun c3 => ?_) (fun c3 => ?_)⟩
        · have hc : 0 ≤ cell := by
            have := of_decide_eq_true c3
            omega
          refine ⟨_, rfl, _, rfl, _, _, rfl, rfl, mw _, _, rfl, r, _, 2, 2, rfl, rfl, h1, rfl, ?_⟩
          refine ⟨_, rfl, _, rfl, _, _, rfl, rfl, hm, ?_⟩
          rw [upd_upd]
          exact k _ _ (Int.emod_nonneg _ (by omega)) (Int.emod_lt_of_pos _ hm) ⟨⟨i + 1, cell / many, mixed, upd_same, hi2, Int.ediv_nonneg hc (by omega), hm0, hm1⟩, nra _⟩ (kp _)
        · refine ⟨_, rfl, _, rfl, _, _, rfl, rfl, hm, ?_⟩
          exact k _ _ (Int.emod_nonneg _ (by omega)) (Int.emod_lt_of_pos _ hm) ⟨⟨i + 1, left, mixed, upd_same, hi2, hl, hm0, hm1⟩, nra _⟩ (kp _)
      · refine ⟨_, rfl, r, _, 3, .int mixed, rfl, rfl, SqL.of hr0, atI_nat (j := 3) rfl, _, _, rfl, rfl, .inl ⟨by omega, by omega⟩, _, _, rfl, rfl, _, _, rfl, rfl, (by show (0 : Int) < 2147483647; decide), _, rfl, r, _, 3, 3, rfl, rfl, hr0, rfl, ?_⟩
        have h1 : (upd H r (.lst [V.ref a, .int (i : Int), .int left, .int ((mixed * 48271 + 12345) % 2147483647)])) r = _ := upd_same
        refine ⟨_, rfl, r, _, 3, _, rfl, rfl, SqL.of h1, atI_nat (j := 3) rfl, _, _, rfl, rfl, ⟨by decide, by decide⟩, _, rfl, _, _, rfl, rfl, hm, ?_⟩
        exact k _ _ (Int.emod_nonneg _ (by omega)) (Int.emod_lt_of_pos _ hm) ⟨⟨i, left, _, upd_same, hi, hl, Int.emod_nonneg _ (by decide), Int.emod_lt_of_pos _ (by decide)⟩, nra _⟩ (kp _)
def sp_law_whole : Sp := fun vs H Q _ => ∃ i : Int, vs = [.int i] ∧ Q (.bl true) H
theorem ok_law_whole {f : Addr} {fd : FuncData} (F : Fun K "_law_whole" "_law_whole" s_law_whole f fd) (T : BT mg) : FnOk P w K mg base CX0 1 f fd ["_law_found"] sp_law_whole := by
  refine F.ok sc_law_whole (fun vs H Q E h => ?_) (fun cdv A outer s H vs Q E hr h => ?_)
  · obtain ⟨i, rfl, _⟩ := h
    rfl
  · obtain ⟨i, rfl, k⟩ := h
    refine ⟨_, (pss_one (ps_ret (pe_and (pe_callB call_isi (by rfl) T.b_isinstance (by decide +kernel) (pa_cons (pv 0) (pa_cons (pe_bltn (v := .ty "int") (by rfl) T.b_int (by decide +kernel) rfl) pa_nil))) (pe_one (pe_not (pe_callB call_isi (by rfl) T.b_isinstance (by decide +kernel) (pa_cons (pv 0) (pa_cons (pe_bltn (v := .ty "bool") (by rfl) T.b_bool (by decide +kernel) rfl) pa_nil)))))))), ?_⟩
    refine ⟨_, rfl, _, _, _, _, true, rfl, .ty "int", .base (.int i), kit_ty (by decide +kernel), _, rfl, iteT ?_⟩
    exact ⟨_, rfl, _, _, _, _, false, rfl, .ty "bool", .base (.int i), kit_ty (by decide +kernel), _, rfl, k⟩
def sp_law_signed (K : PySem.W.Frag) : Sp := fun vs H Q _ => ∃ (r a : Addr) (ns : List Int) (most : Int), vs = [.ref r, .int most] ∧ RowAt K H r a ns ∧ 0 ≤ most ∧ most < 2 ^ 60 ∧
  ∀ v H', -most ≤ v → v ≤ most → RowAt K H' r a ns → (∀ b o, H b = some o → b ≠ r → H' b = some o) → Q (.int v) H'
theorem ok_law_signed {f : Addr} {fd : FuncData} (F : Fun K "_law_signed" "_law_signed" s_law_signed f fd) (G_law_taken : COk P w K mg base CX0 1 "_law_taken" ["_law_row_here", "_law_many"] (sp_law_taken K)) : FnOk P w K mg base CX0 2 f fd ["_law_row_here", "_law_most"] (sp_law_signed K) := by
  refine F.ok sc_law_signed (fun vs H Q E h => ?_) (fun cdv A outer s H vs Q E hr h => ?_)
  · obtain ⟨r, a, ns, most, rfl, _⟩ := h
    rfl
  · obtain ⟨r, a, ns, most, rfl, R, h0, h1, k⟩ := h
    refine ⟨_, (pss_one (ps_ret (pe_op op_sub (pe_c G_law_taken (hr.mono (by first | decide | omega)) (pa_cons (pv 0) (pa_cons (pe_op op_add (pe_op op_mul pe_int (pv 1)) pe_int) pa_nil))) (pv 1)))), ?_⟩
    have b60 : (2 : Int) ^ 60 = 1152921504606846976 := by decide
    have b8 : (2 : Int) ^ 62 < 2 ^ 8000 := by decide +kernel
    have b62 : (2 : Int) ^ 62 = 4611686018427387904 := by decide
    refine ⟨_, rfl, _, rfl, _, _, rfl, rfl, .inl ⟨by decide, by decide⟩, _, _, rfl, rfl, r, a, ns, _, rfl, R, by omega, by omega, fun v H' v0 v1 R' kp => ?_⟩
    exact ⟨_, rfl, _, _, rfl, rfl, k _ _ (by omega) (by omega) R' kp⟩
end

/-! ### root_below -/
/-- r is the greatest whole number whose square is no greater than n -/
def IsRoot (n r : Int) : Prop := 0 ≤ r ∧ r * r ≤ n ∧ n < (r + 1) * (r + 1)
theorem sq_nonneg (x : Int) : 0 ≤ x * x := by
  rcases Int.le_total 0 x with h | h
  · exact Int.mul_nonneg h h
  · exact Int.mul_nonneg_of_nonpos_of_nonpos h h
theorem IsRoot.unique {n r s : Int} (a : IsRoot n r) (b : IsRoot n s) : r = s := by
  obtain ⟨a0, a1, a2⟩ := a
  obtain ⟨b0, b1, b2⟩ := b
  have key : ∀ x y : Int, 0 ≤ x → 0 ≤ y → x * x ≤ n → n < (y + 1) * (y + 1) → x ≤ y := fun x y hx hy h1 h2 => by
    rcases Int.lt_or_le y x with h | h
    · have := Int.mul_le_mul (show y + 1 ≤ x by omega) (show y + 1 ≤ x by omega) (by omega) hx
      omega
    · exact h
  have h1 := key r s a0 b0 a1 b2
  have h2 := key s r b0 a0 b1 a2
  omega
theorem newton {n g q b : Int} (hg : 0 < g) (hq : q = n / g) (hb : b = (g + q) / 2) : n < (b + 1) * (b + 1) := by
  have h1 : n < g * (q + 1) := by
    have := Int.lt_mul_ediv_self_add (x := n) (k := g) hg
    rw [← hq] at this
    have e : g * (q + 1) = g * q + g := by grind
    omega
  have h2 : g + q + 1 ≤ 2 * (b + 1) := by omega
  have h3 : 4 * (g * (q + 1)) ≤ (g + q + 1) * (g + q + 1) := by
    have h : (g + q + 1) * (g + q + 1) - 4 * (g * (q + 1)) = (g - q - 1) * (g - q - 1) := by grind
    have := sq_nonneg (g - q - 1)
    omega
  rcases Int.lt_or_le n 0 with hn | hn
  · have := sq_nonneg (b + 1)
    omega
  · have hq0 : 0 ≤ q := by rw [hq]; exact Int.ediv_nonneg hn (by omega)
    have h4 : (g + q + 1) * (g + q + 1) ≤ (2 * (b + 1)) * (2 * (b + 1)) := Int.mul_le_mul h2 h2 (by omega) (by omega)
    have h5 : (2 * (b + 1)) * (2 * (b + 1)) = 4 * ((b + 1) * (b + 1)) := by grind
    omega
theorem newton_end {n g : Int} (hg : 0 < g) (hn : 0 ≤ n) (h : g ≤ (g + n / g) / 2) : g * g ≤ n := by
  have h1 : g ≤ n / g := by omega
  have h2 := Int.mul_le_mul_of_nonneg_left h1 (show 0 ≤ g by omega)
  have h3 := Int.mul_ediv_self_le (x := n) (k := g) (by omega)
  omega
theorem first_guess {n : Int} (h : 0 ≤ n) : n < ((2 : Int) ^ ((Builtin.Int.intBits n + 1) / 2) + 1) * ((2 : Int) ^ ((Builtin.Int.intBits n + 1) / 2) + 1) := by
  have hb : n < (2 : Int) ^ Builtin.Int.intBits n := by
    unfold Builtin.Int.intBits
    split
    · rename_i z
      have : n = 0 := by simpa using z
      subst this
      decide
    · have := Nat.lt_log2_self (n := n.natAbs)
      have e : ((2 ^ (n.natAbs.log2 + 1) : Nat) : Int) = 2 ^ (n.natAbs.log2 + 1) := by norm_cast
      omega
  generalize Builtin.Int.intBits n = m at *
  have hp : ∀ k : Nat, (0 : Int) < 2 ^ k := fun k => Int.pow_pos (by decide)
  have h1 : (2 : Int) ^ m ≤ 2 ^ ((m + 1) / 2) * 2 ^ ((m + 1) / 2) := by
    rw [← Int.pow_add]
    have z := Nat.pow_le_pow_right (n := 2) (by decide) (show m ≤ (m + 1) / 2 + (m + 1) / 2 by omega)
    exact_mod_cast z
  have h2 := hp ((m + 1) / 2)
  generalize (2 : Int) ^ ((m + 1) / 2) = g at *
  have e : (g + 1) * (g + 1) = g * g + 2 * g + 1 := by grind
  omega
def sp_root_below : Sp := fun vs H Q _ => ∃ n : Int, vs = [.int n] ∧ 0 ≤ n ∧ n < 2 ^ 4000 ∧ ∀ r, IsRoot n r → Q (.int r) H
section
variable {P : Program} {w : World} {K : PySem.W.Frag} {mg : Str → Option Value} {base : Heap}
theorem ok_root_below {f : Addr} {fd : FuncData} (F : Fun K "root_below" "root_below" s_root_below f fd) : FnOk P w K mg base CX0 1 f fd ["number"] sp_root_below := by
  refine F.ok sc_root_below (fun vs H Q E h => ?_) (fun cdv A outer s H vs Q E hr h => ?_)
  · obtain ⟨n, rfl, _⟩ := h
    rfl
  · obtain ⟨n, rfl, h0, hw, k⟩ := h
    refine ⟨_, (pss_cons (ps_if (pt_cmpR op_eq (pv 0) pe_int (nomark _))
      (pss_one (ps_ret pe_int)) pss_nil)
    (pss_cons (ps_set (i := 1) sc_root_below.nd rfl (Or.inl rfl) (pe_op op_shl pe_int (pe_op op_fdiv (pe_op op_add (pe_bits (pv 0)) pe_int) pe_int)))
    (pss_one (ps_while PassesOwn.never (pt_val pe_bl)
      (pss_cons (ps_set (i := 2) sc_root_below.nd rfl (Or.inl rfl) (pe_op op_fdiv (pe_op op_add (pv 1) (pe_op op_fdivW (pv 0) (pv 1))) pe_int))
    (pss_cons (ps_if (pt_cmpR op_ge (pv 2) (pv 1) (nomark _))
      (pss_one (ps_ret (pv 1))) pss_nil)
    (pss_one (ps_set (i := 1) sc_root_below.nd rfl (Or.inl rfl) (pv 2))))))))), ?_⟩
    refine ⟨_, rfl, rfl, _, rfl, ite2 (fun c => ?_) (fun c => ?_)⟩
    · have e : n = 0 := V.int.inj (of_decide_eq_true c)
      subst e
      exact k 0 ⟨by decide, by decide, by decide⟩
    · have hn : 0 < n := by
        have : n ≠ 0 := fun z => c (decide_eq_true (by rw [z]))
        omega
      have hbits : Builtin.Int.intBits n ≤ 4000 := PyProof.Rows.intBits_le (natAbs_lt_pow h0 hw)
      refine ⟨_, rfl, _, rfl, _, _, rfl, rfl, _, _, rfl, rfl, ⟨by decide, by decide⟩, _, _, rfl, rfl, ⟨by omega, by omega, by decide⟩, ?_⟩
      have e0 : (((Builtin.Int.intBits n : Nat) : Int) + 1) / 2 = (((Builtin.Int.intBits n + 1) / 2 : Nat) : Int) := by omega
      have e1 : (1 : Int) * 2 ^ ((((Builtin.Int.intBits n : Nat) : Int) + 1) / 2).toNat = 2 ^ ((Builtin.Int.intBits n + 1) / 2) := by rw [e0, Int.toNat_natCast, Int.one_mul]
      show tWhile _ _ _ [some (V.int n), some (V.int ((1 : Int) * 2 ^ ((((Builtin.Int.intBits n : Nat) : Int) + 1) / 2).toNat)), none] H
      rw [e1]
      refine while_by (fun σ H2 => ∃ (g : Int) (b : Option V), σ = [some (.int n), some (.int g), b] ∧ 0 < g ∧ g < 2 ^ 4001 ∧ n < (g + 1) * (g + 1) ∧ H2 = H)
        (fun σ _ => match σ with | [_, some (.int g), _] => g.toNat | _ => 0) ⟨_, none, rfl, Int.pow_pos (by decide), ?_, first_guess h0, rfl⟩ ?_ ?_
      · exact Int.pow_lt_pow_of_lt (by decide) (by omega)
      · rintro σ H2 ⟨g, b, rfl, hg, hgw, hlt, rfl⟩
        refine ⟨_, rfl, iteT ?_⟩
        refine ⟨_, rfl, _, rfl, _, rfl, _, _, rfl, rfl, wide_div (b := 4001) hg (natAbs_lt_pow (Int.le_of_lt hg) hgw) (by decide) (by decide), _, _, rfl, rfl, _, _, rfl, rfl, ⟨by decide, by decide⟩, ?_⟩
        have hb := newton (n := n) hg rfl rfl
        refine ⟨_, rfl, _, rfl, _, _, rfl, rfl, _, rfl, ite2 (fun c2 => ?_) (fun c2 => ?_)⟩
        · exact ⟨_, rfl, k g ⟨by omega, newton_end hg h0 (of_decide_eq_true c2), hlt⟩⟩
        · have c3 : ¬ g ≤ (g + n / g) / 2 := fun z => c2 (decide_eq_true z)
          have hd : 0 ≤ n / g := Int.ediv_nonneg h0 (by omega)
          have hb0 : 0 < (g + n / g) / 2 := by
            rcases Int.lt_or_le 0 ((g + n / g) / 2) with z | z
            · exact z
            · exfalso
              have e1 : g = 1 := by omega
              subst e1
              have : n / 1 = n := Int.ediv_one n
              omega
          exact ⟨_, rfl, ⟨_, _, rfl, hb0, by omega, hb, rfl⟩, by show ((g + n / g) / 2).toNat < g.toNat; omega⟩
      · intro σ H2 Q1 Q2 im hq
        exact hq.elim fun c ⟨e, z⟩ => ⟨c, e, im _ _ z⟩
end
/-! ### chains of fractions, in plain Lean -/
theorem fmod_pos {a b : Int} (h : 0 < b) : 0 ≤ a.fmod b ∧ a.fmod b < b := ⟨Int.fmod_nonneg_of_pos a h, Int.fmod_lt_of_pos a h⟩
theorem fmod_neg {a b : Int} (h : b < 0) : b < a.fmod b ∧ a.fmod b ≤ 0 := by
  have h1 := Int.fmod_nonneg_of_pos (-a) (show 0 < -b by omega)
  have h2 := Int.fmod_lt_of_pos (-a) (show 0 < -b by omega)
  rw [Int.neg_fmod_neg] at h1 h2
  omega
theorem fmod_abs {a b : Int} (h : b ≠ 0) : (a.fmod b).natAbs < b.natAbs := by
  rcases Int.lt_or_gt_of_ne h with h | h
  · have := fmod_neg (a := a) h; omega
  · have := fmod_pos (a := a) h; omega
theorem fdm (a b : Int) : b * a.fdiv b + a.fmod b = a := Int.mul_fdiv_add_fmod a b
theorem fmod_eq (a b : Int) : a - a.fdiv b * b = a.fmod b := by
  have := fdm a b
  rw [Int.mul_comm] at this
  omega
/-- the parts of the fraction t / b -/
def chain (t b : Int) : List Int := if h : b = 0 then [] else t.fdiv b :: chain b (t.fmod b)
termination_by b.natAbs
decreasing_by exact fmod_abs h
theorem chain_zero (t : Int) : chain t 0 = [] := by rw [chain, dif_pos rfl]
theorem chain_cons {t b : Int} (h : b ≠ 0) : chain t b = t.fdiv b :: chain b (t.fmod b) := by rw [chain, dif_neg h]
theorem chain_len : ∀ (n : Nat) (t b : Int), b.natAbs < 2 ^ n → (chain t b).length ≤ 2 * n
  | 0, t, b, h => by
    have e : b = 0 := by simp at h; exact h
    rw [e, chain_zero]; simp
  | n + 1, t, b, h => by
    by_cases hb : b = 0
    · rw [hb, chain_zero]; simp
    · rw [chain_cons hb, List.length_cons]
      by_cases hr : t.fmod b = 0
      · rw [hr, chain_zero, List.length_nil]; omega
      · rw [chain_cons hr, List.length_cons]
        have key : (b.fmod (t.fmod b)).natAbs < 2 ^ n := by
          have h1 := fdm b (t.fmod b)
          have hrp : 0 < b → 0 ≤ t.fmod b ∧ t.fmod b < b := fun z => fmod_pos z
          have hrn : b < 0 → b < t.fmod b ∧ t.fmod b ≤ 0 := fun z => fmod_neg z
          generalize t.fmod b = r at *
          have hd : ∀ q s : Int, r * q + s = b → ((0 < b ∧ 0 ≤ r ∧ r < b) ∨ (b < 0 ∧ b < r ∧ r ≤ 0)) → ((0 ≤ s ∧ s < r) ∨ (r < s ∧ s ≤ 0)) → 2 * s.natAbs < b.natAbs := by
            intro q s e c1 c2
            rcases c1 with ⟨p1, p2, p3⟩ | ⟨p1, p2, p3⟩
            · rcases c2 with ⟨p4, p5⟩ | ⟨p4, p5⟩
              · have hq : 0 < q := by
                  rcases Int.lt_or_le 0 q with z | z
                  · exact z
                  · have := Int.mul_le_mul_of_nonneg_left z p2
                    rw [Int.mul_zero] at this
                    omega
                have := Int.mul_le_mul_of_nonneg_left (show 1 ≤ q from hq) p2
                omega
              · omega
            · rcases c2 with ⟨p4, p5⟩ | ⟨p4, p5⟩
              · omega
              · have hq : 0 < q := by
                  rcases Int.lt_or_le 0 q with z | z
                  · exact z
                  · have := Int.mul_nonneg_of_nonpos_of_nonpos p3 z
                    omega
                have := Int.mul_nonneg (show 0 ≤ -r by omega) (show 0 ≤ q - 1 by omega)
                have e3 : -r * (q - 1) = r - r * q := by grind
                omega
          have c1 : (0 < b ∧ 0 ≤ r ∧ r < b) ∨ (b < 0 ∧ b < r ∧ r ≤ 0) := by
            rcases Int.lt_or_gt_of_ne hb with z | z
            · exact .inr ⟨z, hrn z⟩
            · exact .inl ⟨z, hrp z⟩
          have c2 : (0 ≤ b.fmod r ∧ b.fmod r < r) ∨ (r < b.fmod r ∧ b.fmod r ≤ 0) := by
            rcases Int.lt_or_gt_of_ne hr with z | z
            · exact .inr (fmod_neg z)
            · exact .inl (fmod_pos z)
          have := hd _ _ h1 c1 c2
          have e2 : 2 ^ (n + 1) = 2 * 2 ^ n := by rw [Nat.pow_succ]; omega
          omega
        have := chain_len n (t.fmod b) (b.fmod (t.fmod b)) key
        omega
/-- what a row of parts comes to -/
def fold : List Int → Int × Int
  | [] => (1, 0)
  | p :: r => (p * (fold r).1 + (fold r).2, (fold r).1)
theorem fold_pos : ∀ r : List Int, (∀ p ∈ r, 1 ≤ p) → 1 ≤ (fold r).1 ∧ 0 ≤ (fold r).2 ∧ (r ≠ [] → 1 ≤ (fold r).2)
  | [], _ => ⟨by decide, by decide, fun h => absurd rfl h⟩
  | p :: r, h => by
    obtain ⟨h1, h2, _⟩ := fold_pos r fun q hq => h q (List.mem_cons_of_mem _ hq)
    have hp := h p List.mem_cons_self
    have := Int.mul_le_mul hp h1 (by decide) (by omega)
    show 1 ≤ p * (fold r).1 + (fold r).2 ∧ 0 ≤ (fold r).1 ∧ (_ → 1 ≤ (fold r).1)
    omega
/-- parts as a chain has them behind the first: 1 or more, the last 2 or more -/
def Tail (r : List Int) : Prop := (∀ p ∈ r, 1 ≤ p) ∧ ∀ x, r.getLast? = some x → 2 ≤ x
theorem Tail.tail {p : Int} {r : List Int} (h : Tail (p :: r)) : Tail r := by
  refine ⟨fun q hq => h.1 q (List.mem_cons_of_mem _ hq), fun x hx => h.2 x ?_⟩
  cases r with
  | nil => cases hx
  | cons y s => rw [List.getLast?_cons_cons]; exact hx
theorem fold_tail : ∀ r : List Int, r ≠ [] → Tail r → (fold r).2 < (fold r).1
  | [], h, _ => absurd rfl h
  | [p], _, h => by
    have := h.2 p rfl
    show (1 : Int) < p * 1 + 0
    omega
  | p :: q :: r, _, h => by
    obtain ⟨h1, h2, h3⟩ := fold_pos (q :: r) fun x hx => h.1 x (List.mem_cons_of_mem _ hx)
    have hp := h.1 p List.mem_cons_self
    have := Int.mul_le_mul_of_nonneg_right hp (show 0 ≤ (fold (q :: r)).1 by omega)
    have h4 := h3 (List.cons_ne_nil _ _)
    show (fold (q :: r)).1 < p * (fold (q :: r)).1 + (fold (q :: r)).2
    omega
theorem fdiv_unique {a b q r : Int} (hb : 0 < b) (h : a = q * b + r) (h0 : 0 ≤ r) (h1 : r < b) : a.fdiv b = q ∧ a.fmod b = r := by
  have e := fdm a b
  obtain ⟨m0, m1⟩ := fmod_pos (a := a) hb
  have k : a.fdiv b = q := by
    generalize a.fdiv b = x at *
    generalize a.fmod b = y at *
    rcases Int.lt_trichotomy x q with z | z | z
    · have := Int.mul_le_mul_of_nonneg_left (show x + 1 ≤ q by omega) (show 0 ≤ b by omega)
      have e1 : b * (x + 1) = b * x + b := by grind
      have e2 : b * q = q * b := Int.mul_comm _ _
      omega
    · exact z
    · have := Int.mul_le_mul_of_nonneg_left (show q + 1 ≤ x by omega) (show 0 ≤ b by omega)
      have e1 : b * (q + 1) = b * q + b := by grind
      have e2 : b * q = q * b := Int.mul_comm _ _
      omega
  refine ⟨k, ?_⟩
  rw [k, Int.mul_comm] at e
  omega
theorem chain_fold : ∀ (p : Int) (r : List Int), Tail r → chain (fold (p :: r)).1 (fold (p :: r)).2 = p :: r
  | p, [], _ => by
    show chain (p * 1 + 0) 1 = [p]
    obtain ⟨e1, e2⟩ := fdiv_unique (a := p * 1 + 0) (b := 1) (q := p) (r := 0) (by decide) (by omega) (by decide) (by decide)
    rw [chain_cons (by decide), e1, e2, chain_zero]
  | p, q :: r, h => by
    obtain ⟨h1, h2, h3⟩ := fold_pos (q :: r) h.1
    have h4 := fold_tail (q :: r) (List.cons_ne_nil _ _) h
    have ih := chain_fold q r h.tail
    show chain (p * (fold (q :: r)).1 + (fold (q :: r)).2) (fold (q :: r)).1 = p :: q :: r
    obtain ⟨e1, e2⟩ := fdiv_unique (a := p * (fold (q :: r)).1 + (fold (q :: r)).2) (b := (fold (q :: r)).1) (q := p) (r := (fold (q :: r)).2) (by omega) rfl h2 h4
    rw [chain_cons (by omega), e1, e2, ih]
theorem gcd_fold : ∀ r : List Int, Int.gcd (fold r).1 (fold r).2 = 1
  | [] => by decide
  | p :: r => by
    have ih := gcd_fold r
    show Int.gcd (p * (fold r).1 + (fold r).2) (fold r).1 = 1
    rw [Int.gcd_comm, Int.add_comm, Int.mul_comm, Int.gcd_add_mul_left_right]
    exact ih
/-- a fraction is what its chain comes to, but for a factor -/
theorem fold_chain : ∀ (n : Nat) (t b : Int), b.natAbs ≤ n → ∃ g : Int, t = g * (fold (chain t b)).1 ∧ b = g * (fold (chain t b)).2 ∧ (0 < b → 0 < g) ∧ (b < 0 → g < 0) ∧ (b = 0 → g = t)
  | n, t, b, hn => by
    by_cases hb : b = 0
    · subst hb
      rw [chain_zero]
      exact ⟨t, by show t = t * 1; omega, by show (0 : Int) = t * 0; omega, fun h => by omega, fun h => by omega, fun _ => rfl⟩
    · have hm := fmod_abs (a := t) hb
      match n, hn with
      | n + 1, hn =>
        obtain ⟨g, e1, e2, p1, p2, p3⟩ := fold_chain n b (t.fmod b) (by omega)
        rw [chain_cons hb]
        refine ⟨g, ?_, e1, fun z => ?_, fun z => ?_, fun z => absurd z hb⟩
        · have e := fdm t b
          show t = g * (t.fdiv b * (fold (chain b (t.fmod b))).1 + (fold (chain b (t.fmod b))).2)
          generalize fold (chain b (t.fmod b)) = x at *
          generalize t.fmod b = r at *
          generalize t.fdiv b = q at *
          grind
        · obtain ⟨m0, m1⟩ := fmod_pos (a := t) z
          rcases Int.lt_or_eq_of_le m0 with y | y
          · exact p1 y
          · rw [p3 y.symm]; exact z
        · obtain ⟨m0, m1⟩ := fmod_neg (a := t) z
          rcases Int.lt_or_eq_of_le m1 with y | y
          · exact p2 y
          · rw [p3 y]; exact z
      | 0, hn => omega
theorem fold_low {t b : Int} (hb : b ≠ 0) : ∃ g : Int, t = g * (fold (chain t b)).1 ∧ b = g * (fold (chain t b)).2 ∧ g ≠ 0 ∧ (0 < g ↔ 0 < b) ∧ (g.natAbs = Int.gcd t b) := by
  obtain ⟨g, e1, e2, p1, p2, p3⟩ := fold_chain b.natAbs t b (Nat.le_refl _)
  have hg : g ≠ 0 := by
    rcases Int.lt_or_gt_of_ne hb with z | z
    · have := p2 z; omega
    · have := p1 z; omega
  refine ⟨g, e1, e2, hg, ⟨fun z => ?_, p1⟩, ?_⟩
  · rcases Int.lt_or_gt_of_ne hb with y | y
    · have := p2 y; omega
    · exact y
  · have h := gcd_fold (chain t b)
    generalize fold (chain t b) = x at *
    rw [e1, e2, Int.gcd_mul_left, h, Nat.mul_one]
theorem fold_bound : ∀ (r : List Int), (∀ p ∈ r, p.natAbs ≤ 2 ^ 39) → (fold r).1.natAbs ≤ 2 ^ (40 * r.length) ∧ (fold r).2.natAbs ≤ 2 ^ (40 * r.length)
  | [], _ => ⟨by decide, by decide⟩
  | p :: r, h => by
    obtain ⟨h1, h2⟩ := fold_bound r fun q hq => h q (List.mem_cons_of_mem _ hq)
    have hp := h p List.mem_cons_self
    have e : 2 ^ (40 * (r.length + 1)) = 2 ^ 39 * 2 ^ (40 * r.length) + 2 ^ 39 * 2 ^ (40 * r.length) := by
      rw [Nat.mul_add, Nat.pow_add]
      omega
    have e3 : 2 ^ (40 * r.length) ≤ 2 ^ 39 * 2 ^ (40 * r.length) := Nat.le_mul_of_pos_left _ (by decide)
    show (p * (fold r).1 + (fold r).2).natAbs ≤ 2 ^ (40 * (r.length + 1)) ∧ (fold r).1.natAbs ≤ 2 ^ (40 * (r.length + 1))
    have e4 := Int.natAbs_add_le (p * (fold r).1) (fold r).2
    have e5 : (p * (fold r).1).natAbs ≤ 2 ^ 39 * 2 ^ (40 * r.length) := by
      rw [Int.natAbs_mul]
      exact Nat.mul_le_mul hp h1
    omega
/-! ### further helpers of the laws -/
section
variable {P : Program} {w : World} {K : PySem.W.Frag} {mg : Str → Option Value} {base : Heap}
theorem dpAll_ints {H : Hp} : ∀ ns : List Int, DpAll K H (ns.map V.int) (ns.map PyData.int)
  | [] => .nil
  | n :: r => .cons (.int n) (dpAll_ints r)
theorem shaped_ints (ns : List Int) : SeqAt.shaped (.list (ns.map PyData.int)) = true := PySem.W.ke_shaped_ints ns
def small (z : Int) : Prop := z.natAbs < 2 ^ 1000
theorem small_fdiv {z : Int} (h : small z) (h0 : z ≠ 0) (y : Int) : CDivS y z := ⟨h0, Nat.lt_of_lt_of_le h (Nat.pow_le_pow_right (by decide) (by decide))⟩
theorem small_mul {x y : Int} (h : small x) (h' : small y) : CMulW x y := wide_mul (a := 1000) (b := 1000) h h' (by decide) (by decide) (by decide)
theorem fdiv_abs {a b : Int} (hb : b ≠ 0) : (a.fdiv b).natAbs ≤ a.natAbs := by
  have key : ∀ (x y q r : Int), 0 < y → y * q + r = x → 0 ≤ r → r < y → q.natAbs ≤ x.natAbs := by
    intro x y q r hy e r0 r1
    rcases Int.lt_or_le q 0 with z | z
    · have := Int.mul_nonneg (show 0 ≤ y - 1 by omega) (show 0 ≤ -q - 1 by omega)
      have e2 : (y - 1) * (-q - 1) = -(y * q) - y + q + 1 := by grind
      omega
    · have := Int.mul_nonneg (show 0 ≤ y - 1 by omega) z
      have e2 : (y - 1) * q = y * q - q := by grind
      omega
  rcases Int.lt_or_gt_of_ne hb with z | z
  · have h1 := fdm (-a) (-b)
    rw [Int.neg_fdiv_neg] at h1
    have := fmod_pos (a := -a) (show 0 < -b by omega)
    have := key (-a) (-b) _ _ (by omega) h1 this.1 this.2
    omega
  · exact key a b _ _ z (fdm a b) (fmod_pos z).1 (fmod_pos z).2
theorem small_fd {a b : Int} (h : small a) (hb : b ≠ 0) : small (a.fdiv b) := Nat.lt_of_le_of_lt (fdiv_abs hb) h
theorem small_fm {a b : Int} (h : small b) (hb : b ≠ 0) : small (a.fmod b) := Nat.lt_trans (fmod_abs hb) h
def sp_law_common : Sp := fun vs H Q _ => ∃ x y : Int, vs = [.int x, .int y] ∧ Q (.int (Int.gcd x y : Nat)) H
theorem ok_law_common {f : Addr} {fd : FuncData} (F : Fun K "_law_common" "_law_common" s_law_common f fd) (T : BT mg) : FnOk P w K mg base CX0 1 f fd ["_law_one", "_law_other"] sp_law_common := by
  refine F.ok sc_law_common (fun vs H Q E h => ?_) (fun cdv A outer s H vs Q E hr h => ?_)
  · obtain ⟨x, y, rfl, _⟩ := h
    rfl
  · obtain ⟨x, y, rfl, k⟩ := h
    refine ⟨_, (pss_cons (ps_while PassesOwn.never (pt_cmpR op_ne (pv 1) pe_int (nomark _))
      (pss_one (ps_par (i := 0) (j := 1) (by rfl) sc_law_common.nd rfl rfl (by decide) rfl rfl (pa_cons (pv 1) (pa_cons (pe_op op_modN (pv 0) (pv 1)) pa_nil)) (by rfl))))
    (pss_one (ps_ret (pe_callB call_abs (by rfl) T.b_abs (by decide +kernel) (pa_cons (pv 0) pa_nil))))), ?_⟩
    refine while_by (fun σ H2 => ∃ x' y' : Int, σ = [some (.int x'), some (.int y')] ∧ Int.gcd x' y' = Int.gcd x y ∧ H2 = H) (fun σ _ => match σ with | [_, some (.int y')] => y'.natAbs | _ => 0) ⟨x, y, rfl, rfl, rfl⟩ ?_ ?_
    · rintro σ H2 ⟨x', y', rfl, eg, rfl⟩
      refine ⟨_, rfl, rfl, _, rfl, ?_⟩
      by_cases hz : y' = 0
      · subst hz
        rw [decide_eq_true rfl]
        refine iteF ⟨_, rfl, _, rfl, ?_⟩
        have e : (if x' < 0 then -x' else x') = ((Int.gcd x y : Nat) : Int) := by
          rw [← eg, Int.gcd_zero_right]
          split <;> omega
        show Q (.int (if x' < 0 then -x' else x')) H2
        rw [e]
        exact k
      · rw [decide_eq_false (fun z => hz (V.int.inj z))]
        refine iteT ⟨_, rfl, _, rfl, _, rfl, _, _, rfl, rfl, hz, _, _, rfl, ⟨_, _, rfl, ?_, rfl⟩, fmod_abs hz⟩
        rw [← eg, Int.gcd_comm x' y']
        have e := fdm x' y'
        have e2 := Int.gcd_add_mul_left_right y' (x'.fmod y') (x'.fdiv y')
        rw [show x'.fmod y' + y' * x'.fdiv y' = x' by omega] at e2
        exact e2.symm
    · intro σ H2 Q1 Q2 im hq
      obtain ⟨v, e, e2, c, e3, z⟩ := hq
      exact ⟨v, e, e2, c, e3, im _ _ z⟩
end
/-! ### methods and makers, in short -/
def MOk (P : Program) (w : World) (K : PySem.W.Frag) (mg : Str → Option Value) (base : Heap) (CX : CXT) (k : Nat) (C : Addr) (m : Str) (ps : List Str) (sp : Sp) : Prop :=
  Cls K C ∧ ∃ (f : Addr) (fd : FuncData), FnOk P w K mg base CX k f fd ps sp ∧ Meth K C m f ∧ Binds K fd ps []
def IOk (P : Program) (w : World) (K : PySem.W.Frag) (mg : Str → Option Value) (base : Heap) (k : Nat) (x : Str) (C : Addr) (ps : List Str) (sp : Sp) : Prop :=
  mg x = some (.ref C) ∧ ∃ (f : Addr) (fd : FuncData), FnOk P w K mg base CX0 k f fd ps sp ∧ Mk K C f ∧ Binds K fd ps []
theorem MOk.of {P : Program} {w : World} {K : PySem.W.Frag} {mg : Str → Option Value} {base : Heap} {CX : CXT} {k : Nat} {C : Addr} {m qual : Str} {ps : List Str} {sp : Sp} {st : Stmt}
    (c : Cls K C) (D : ∃ f fd, Fun K m qual st f fd ∧ Meth K C m f ∧ Binds K fd ps []) (h : ∀ f fd, Fun K m qual st f fd → FnOk P w K mg base CX k f fd ps sp) : MOk P w K mg base CX k C m ps sp := by
  obtain ⟨f, fd, F, M, B⟩ := D
  exact ⟨c, f, fd, h f fd F, M, B⟩
theorem IOk.of {P : Program} {w : World} {K : PySem.W.Frag} {mg : Str → Option Value} {base : Heap} {k : Nat} {x : Str} {C : Addr} {m qual : Str} {ps : List Str} {sp : Sp} {st : Stmt}
    (g : mg x = some (.ref C)) (D : ∃ f fd, Fun K m qual st f fd ∧ Mk K C f ∧ Binds K fd ps []) (h : ∀ f fd, Fun K m qual st f fd → FnOk P w K mg base CX0 k f fd ps sp) : IOk P w K mg base k x C ps sp := by
  obtain ⟨f, fd, F, M, B⟩ := D
  exact ⟨g, f, fd, h f fd F, M, B⟩
theorem COk.by {P : Program} {w : World} {K : PySem.W.Frag} {mg : Str → Option Value} {base : Heap} {CX : CXT} {k : Nat} {x : Str} {st : Stmt} {ps : List Str} {sp : Sp}
    (D : ∃ f fd, DefAt K mg x st ps f fd) (h : ∀ f fd, Fun K x x st f fd → FnOk P w K mg base CX k f fd ps sp) : COk P w K mg base CX k x ps sp := by
  obtain ⟨f, fd, F⟩ := D
  exact .of F (h f fd F.fn)
section
variable {X : Cx} {k : Nat} {x m : Str} {ps : List Str} {sp : Sp} {o e : Expr} {es : List Expr} {ta : TE} {t : TA} {p pos apos : Pos} {C : Addr}
theorem pe_m {pl : Sem Bool} (M : MOk X.prog X.w X.K X.mg X.base CX0 k C m ps sp) (hr : Room k X.A) (he : PE X o ta) (ha : PA X (e :: es) t)
    (hst : starEach (e :: es) X.env = (false, eval e X.env) :: starEach es X.env := by rfl) (hpl : (backTo pos (starEach es X.env)).any (·.1) = false := by rfl)
    (ht : eval (.Call (.Attribute o m apos) (e :: es) [] pos) X.env = (do
      let ov ← eval o X.env; standAt apos.atName
      let (f, first) ← holding [ov] (getMethod ov m pl)
      callWith pos f first (backTo pos (starEach (e :: es) X.env)) (backToKw pos (keywordEach [] X.env))) := by rfl) :
    PE X (.Call (.Attribute o m apos) (e :: es) [] pos) (tMeth C m sp [] E0 ta t) := by
  obtain ⟨c, f, fd, F, M, B⟩ := M
  exact pe_meth (pl := pl) he c M F hr B .nil pass0 ha hst hpl ht
theorem pe_m0 {pl : Sem Bool} (M : MOk X.prog X.w X.K X.mg X.base CX0 k C m ps sp) (hr : Room k X.A) (he : PE X o ta)
    (ht : eval (.Call (.Attribute o m apos) [] [] pos) X.env = (do
      let ov ← eval o X.env; standAt apos.atName
      let (f, first) ← holding [ov] (getMethod ov m pl)
      callWith pos f first (backTo pos (starEach [] X.env)) (backToKw pos (keywordEach [] X.env))) := by rfl) :
    PE X (.Call (.Attribute o m apos) [] [] pos) (tMeth C m sp [] E0 ta tNil) := by
  obtain ⟨c, f, fd, F, M, B⟩ := M
  exact pe_meth0 (pl := pl) he c M F hr B .nil pass0 ht
theorem pe_mk (I : IOk X.prog X.w X.K X.mg X.base k x C ps sp) (hr : Room (k + 1) X.A) (ha : PA X (e :: es) t) (hg : Gl X x := by rfl)
    (hdb : (x == ("__debug__" : Str)) = false := by decide) (he : starEach (e :: es) X.env = (false, eval e X.env) :: starEach es X.env := by rfl) (hpl : (backTo pos (starEach es X.env)).any (·.1) = false := by rfl) :
    PE X (.Call (.Name x p) (e :: es) [] pos) (tMake C sp [] E0 t) := by
  obtain ⟨g, f, fd, F, M, B⟩ := I
  exact pe_make M F hr hg g B .nil pass0 ha hdb he hpl
theorem pe_mk0 (I : IOk X.prog X.w X.K X.mg X.base k x C ps sp) (hr : Room (k + 1) X.A) (hg : Gl X x := by rfl) (hdb : (x == ("__debug__" : Str)) = false := by decide) :
    PE X (.Call (.Name x p) [] [] pos) (tMake C sp [] E0 tNil) := by
  obtain ⟨g, f, fd, F, M, B⟩ := I
  exact pe_make0 M F hr hg g B .nil pass0 hdb
/-- what a call lets out, the def lets out -/
theorem passes_tk {E : XK} (tk : Takes X (fun cls d _ H => E cls d H)) : Passes (L2.CX X.prog X.w) X E := fun pins σ H s e s' I c => passAt (W := fun cls d _ H => E cls d H) tk σ pins H s e s' I c
theorem pe_mX {E : XK} {pl : Sem Bool} (M : MOk X.prog X.w X.K X.mg X.base (L2.CX X.prog X.w) k C m ps sp) (hr : Room k X.A) (hx : Passes (L2.CX X.prog X.w) X E) (he : PE X o ta) (ha : PA X (e :: es) t)
    (hst : starEach (e :: es) X.env = (false, eval e X.env) :: starEach es X.env := by rfl) (hpl : (backTo pos (starEach es X.env)).any (·.1) = false := by rfl)
    (ht : eval (.Call (.Attribute o m apos) (e :: es) [] pos) X.env = (do
      let ov ← eval o X.env; standAt apos.atName
      let (f, first) ← holding [ov] (getMethod ov m pl)
      callWith pos f first (backTo pos (starEach (e :: es) X.env)) (backToKw pos (keywordEach [] X.env))) := by rfl) :
    PE X (.Call (.Attribute o m apos) (e :: es) [] pos) (tMeth C m sp [] E ta t) := by
  obtain ⟨c, f, fd, F, M, B⟩ := M
  exact pe_meth (pl := pl) he c M F hr B .nil hx ha hst hpl ht
theorem pe_mX0 {E : XK} {pl : Sem Bool} (M : MOk X.prog X.w X.K X.mg X.base (L2.CX X.prog X.w) k C m ps sp) (hr : Room k X.A) (hx : Passes (L2.CX X.prog X.w) X E) (he : PE X o ta)
    (ht : eval (.Call (.Attribute o m apos) [] [] pos) X.env = (do
      let ov ← eval o X.env; standAt apos.atName
      let (f, first) ← holding [ov] (getMethod ov m pl)
      callWith pos f first (backTo pos (starEach [] X.env)) (backToKw pos (keywordEach [] X.env))) := by rfl) :
    PE X (.Call (.Attribute o m apos) [] [] pos) (tMeth C m sp [] E ta tNil) := by
  obtain ⟨c, f, fd, F, M, B⟩ := M
  exact pe_meth0 (pl := pl) he c M F hr B .nil hx ht
/-- o.f as a target -/
def gFld (K : PySem.W.Frag) (to : TE) (f : Str) : TG := fun v σ H Q => to σ H fun x H1 => ∃ a C dx fs, x = .ref a ∧ H1 a = some (.ins C dx fs) ∧ Cls K C ∧ NoAttr K C f ∧ fs.length < 1000 ∧ Q σ (upd H1 a (.ins C dx (putF f v fs)))
open PySem.Spec PyProof.Rows in
theorem pg_fld {o : Expr} {to : TE} {f : Str} {pos : Pos} (ho : PE X o to)
    (ha : ∀ v, assign (.Attribute o f pos) X.env v = (do
      let ov ← holding [v] (eval o X.env); standAt pos.atName
      holding [v, ov] (setAttr ov f v); release [v, ov] []) := by intro _; rfl) : PG X (.Attribute o f pos) (gFld X.K to f) := by
  refine ⟨fun pins s σ H v u Q I r h => ?_⟩
  rw [ha]
  refine wpAny_bind (wpAny_holding (thn (ho.run pins s σ H _ I h) fun ov sA hA => ?_))
  obtain ⟨x, HA, IA, rA, a, C, dx, fs, rfl, ea, c, n, l, q⟩ := hA
  cases rA
  refine wpAny_bind (wpAny_standAt (wpAny_bind (wpAny_holding (setattr_ok IA ea c n l r fun sB IB => ?_))))
  exact wpAny_release ⟨σ, _, IB, q⟩
end
/-- an own class over ValueError -/
structure XC (K : PySem.W.Frag) (mg : Str → Option Value) (C : Addr) (n : Str) : Prop where
  g : mg n = some (.ref C)
  x : PySem.W.excIn K C [.type "ValueError", .type "Exception", .type "BaseException", .type "object"] "ValueError.__new__" = true
  k : PySem.W.keepIn K (.ref C) = true
  b : PySem.W.subIn K (.ref C) (.type "BaseException") = some true
  t : PySem.W.typeIn K (.ref C) = some (.type "type")
/-- where the classes and the tuples of the top stand -/
structure Ad where
  c_Meter : Addr
  c_FractionChain : Addr
  c_RootChain : Addr
  c_RuledChain : Addr
  c_Leaf : Addr
  c_FractionBox : Addr
  c_FourBox : Addr
  c_EightBox : Addr
  c_Reading : Addr
  k_END : Addr
  k_WAITS : Addr
  k_TIMES : Addr
  k_LENGTHS : Addr
  k_CHECKS : Addr
  c_BadTree : Addr
  c_NoValue : Addr
  c_TooLong : Addr
structure CT (K : PySem.W.Frag) (mg : Str → Option Value) (A : Ad) : Prop extends BT mg where
  cl_Meter : Cls K A.c_Meter
  n_Meter_left : NoAttr K A.c_Meter "left"
  n_Meter_spent : NoAttr K A.c_Meter "spent"
  g_Meter : mg "Meter" = some (.ref A.c_Meter)
  cl_FractionChain : Cls K A.c_FractionChain
  n_FractionChain_top : NoAttr K A.c_FractionChain "top"
  n_FractionChain_below : NoAttr K A.c_FractionChain "below"
  g_FractionChain : mg "FractionChain" = some (.ref A.c_FractionChain)
  cl_RootChain : Cls K A.c_RootChain
  n_RootChain_top : NoAttr K A.c_RootChain "top"
  n_RootChain_square : NoAttr K A.c_RootChain "square"
  n_RootChain_below : NoAttr K A.c_RootChain "below"
  n_RootChain_root : NoAttr K A.c_RootChain "root"
  g_RootChain : mg "RootChain" = some (.ref A.c_RootChain)
  cl_RuledChain : Cls K A.c_RuledChain
  n_RuledChain_parts : NoAttr K A.c_RuledChain "parts"
  n_RuledChain_ring : NoAttr K A.c_RuledChain "ring"
  n_RuledChain_steps : NoAttr K A.c_RuledChain "steps"
  n_RuledChain_at : NoAttr K A.c_RuledChain "at"
  g_RuledChain : mg "RuledChain" = some (.ref A.c_RuledChain)
  cl_Leaf : Cls K A.c_Leaf
  n_Leaf_chain : NoAttr K A.c_Leaf "chain"
  g_Leaf : mg "Leaf" = some (.ref A.c_Leaf)
  cl_FractionBox : Cls K A.c_FractionBox
  n_FractionBox_top : NoAttr K A.c_FractionBox "top"
  n_FractionBox_below : NoAttr K A.c_FractionBox "below"
  n_FractionBox_told : NoAttr K A.c_FractionBox "told"
  g_FractionBox : mg "FractionBox" = some (.ref A.c_FractionBox)
  cl_FourBox : Cls K A.c_FourBox
  n_FourBox_numbers : NoAttr K A.c_FourBox "numbers"
  n_FourBox_tree : NoAttr K A.c_FourBox "tree"
  n_FourBox_started : NoAttr K A.c_FourBox "started"
  n_FourBox_told : NoAttr K A.c_FourBox "told"
  n_FourBox_rest : NoAttr K A.c_FourBox "rest"
  g_FourBox : mg "FourBox" = some (.ref A.c_FourBox)
  cl_EightBox : Cls K A.c_EightBox
  n_EightBox_numbers : NoAttr K A.c_EightBox "numbers"
  n_EightBox_trees : NoAttr K A.c_EightBox "trees"
  n_EightBox_taken : NoAttr K A.c_EightBox "taken"
  n_EightBox_told : NoAttr K A.c_EightBox "told"
  n_EightBox_rest : NoAttr K A.c_EightBox "rest"
  g_EightBox : mg "EightBox" = some (.ref A.c_EightBox)
  cl_Reading : Cls K A.c_Reading
  n_Reading_box : NoAttr K A.c_Reading "box"
  n_Reading_meter : NoAttr K A.c_Reading "meter"
  g_Reading : mg "Reading" = some (.ref A.c_Reading)
  g_END : mg "END" = some (.ref A.k_END)
  t_END : ∀ H, SqT K H A.k_END [.str "end"]
  g_WAITS : mg "WAITS" = some (.ref A.k_WAITS)
  t_WAITS : ∀ H, SqT K H A.k_WAITS [.str "waits"]
  g_TIMES : mg "TIMES" = some (.ref A.k_TIMES)
  t_TIMES : ∀ H, SqT K H A.k_TIMES [.int 1, .int 0, .int 0, .int 0, .int 0, .int 0, .int 0, .int 1]
  i_MOST_NUMBER : ∃ t, mg "MOST_NUMBER" = some (.int 1000000000000 t)
  i_MOST_DEPTH : ∃ t, mg "MOST_DEPTH" = some (.int 5 t)
  i_MOST_PARTS : ∃ t, mg "MOST_PARTS" = some (.int 12 t)
  i_MOST_POWER : ∃ t, mg "MOST_POWER" = some (.int 4 t)
  g_LENGTHS : mg "LENGTHS" = some (.ref A.k_LENGTHS)
  g_CHECKS : mg "CHECKS" = some (.ref A.k_CHECKS)
  x_BadTree : XC K mg A.c_BadTree "BadTree"
  x_NoValue : XC K mg A.c_NoValue "NoValue"
  x_TooLong : XC K mg A.c_TooLong "TooLong"
structure DT (K : PySem.W.Frag) (mg : Str → Option Value) (A : Ad) : Prop where
  root_below : ∃ f fd, DefAt K mg "root_below" s_root_below ["number"] f fd
  Meter_init : ∃ f fd, Fun K "__init__" "Meter.__init__" s_Meter_init f fd ∧ Mk K A.c_Meter f ∧ Binds K fd ["self"] []
  Meter_allow : ∃ f fd, Fun K "allow" "Meter.allow" s_Meter_allow f fd ∧ Meth K A.c_Meter "allow" f ∧ Binds K fd ["self", "most"] []
  Meter_pay : ∃ f fd, Fun K "pay" "Meter.pay" s_Meter_pay f fd ∧ Meth K A.c_Meter "pay" f ∧ Binds K fd ["self"] []
  FractionChain_init : ∃ f fd, Fun K "__init__" "FractionChain.__init__" s_FractionChain_init f fd ∧ Mk K A.c_FractionChain f ∧ Binds K fd ["self", "top", "below"] []
  FractionChain_has_ended : ∃ f fd, Fun K "has_ended" "FractionChain.has_ended" s_FractionChain_has_ended f fd ∧ Meth K A.c_FractionChain "has_ended" f ∧ Binds K fd ["self"] []
  FractionChain_next_part : ∃ f fd, Fun K "next_part" "FractionChain.next_part" s_FractionChain_next_part f fd ∧ Meth K A.c_FractionChain "next_part" f ∧ Binds K fd ["self"] []
  RootChain_init : ∃ f fd, Fun K "__init__" "RootChain.__init__" s_RootChain_init f fd ∧ Mk K A.c_RootChain f ∧ Binds K fd ["self", "top", "square", "below"] []
  RootChain_has_ended : ∃ f fd, Fun K "has_ended" "RootChain.has_ended" s_RootChain_has_ended f fd ∧ Meth K A.c_RootChain "has_ended" f ∧ Binds K fd ["self"] []
  RootChain_next_part : ∃ f fd, Fun K "next_part" "RootChain.next_part" s_RootChain_next_part f fd ∧ Meth K A.c_RootChain "next_part" f ∧ Binds K fd ["self"] []
  RootChain_what_is_left : ∃ f fd, Fun K "what_is_left" "RootChain.what_is_left" s_RootChain_what_is_left f fd ∧ Meth K A.c_RootChain "what_is_left" f ∧ Binds K fd ["self"] []
  RuledChain_init : ∃ f fd, Fun K "__init__" "RuledChain.__init__" s_RuledChain_init f fd ∧ Mk K A.c_RuledChain f ∧ Binds K fd ["self", "parts", "ring", "steps"] []
  RuledChain_has_ended : ∃ f fd, Fun K "has_ended" "RuledChain.has_ended" s_RuledChain_has_ended f fd ∧ Meth K A.c_RuledChain "has_ended" f ∧ Binds K fd ["self"] []
  RuledChain_next_part : ∃ f fd, Fun K "next_part" "RuledChain.next_part" s_RuledChain_next_part f fd ∧ Meth K A.c_RuledChain "next_part" f ∧ Binds K fd ["self"] []
  Leaf_init : ∃ f fd, Fun K "__init__" "Leaf.__init__" s_Leaf_init f fd ∧ Mk K A.c_Leaf f ∧ Binds K fd ["self", "chain"] []
  Leaf_ask : ∃ f fd, Fun K "ask" "Leaf.ask" s_Leaf_ask f fd ∧ Meth K A.c_Leaf "ask" f ∧ Binds K fd ["self", "meter"] []
  leaf_of : ∃ f fd, DefAt K mg "leaf_of" s_leaf_of ["tree"] f fd
  root_chain : ∃ f fd, DefAt K mg "root_chain" s_root_chain ["top", "square", "below"] f fd
  check_tree : ∃ f fd, DefAt K mg "check_tree" s_check_tree ["tree"] f fd
  check_at_depth : ∃ f fd, DefAt K mg "check_at_depth" s_check_at_depth ["tree", "depth"] f fd
  require : ∃ f fd, DefAt K mg "require" s_require ["holds", "why"] f fd
  check_row : ∃ f fd, DefAt K mg "check_row" s_check_row ["row", "fewest", "most"] f fd
  is_whole : ∃ f fd, DefAt K mg "is_whole" s_is_whole ["number"] f fd
  check_fraction : ∃ f fd, DefAt K mg "check_fraction" s_check_fraction ["tree", "depth"] f fd
  check_root : ∃ f fd, DefAt K mg "check_root" s_check_root ["tree", "depth"] f fd
  check_ruled : ∃ f fd, DefAt K mg "check_ruled" s_check_ruled ["tree", "depth"] f fd
  check_four : ∃ f fd, DefAt K mg "check_four" s_check_four ["tree", "depth"] f fd
  check_eight : ∃ f fd, DefAt K mg "check_eight" s_check_eight ["tree", "depth"] f fd
  check_line : ∃ f fd, DefAt K mg "check_line" s_check_line ["numbers"] f fd
  check_power : ∃ f fd, DefAt K mg "check_power" s_check_power ["tree", "depth"] f fd
  ring_of : ∃ f fd, DefAt K mg "ring_of" s_ring_of ["top", "square", "below", "most"] f fd
  read_round : ∃ f fd, DefAt K mg "read_round" s_read_round ["chain", "most"] f fd
  FractionBox_init : ∃ f fd, Fun K "__init__" "FractionBox.__init__" s_FractionBox_init f fd ∧ Mk K A.c_FractionBox f ∧ Binds K fd ["self", "top", "below", "told"] []
  FractionBox_ask : ∃ f fd, Fun K "ask" "FractionBox.ask" s_FractionBox_ask f fd ∧ Meth K A.c_FractionBox "ask" f ∧ Binds K fd ["self", "meter"] []
  FractionBox_nothing_left : ∃ f fd, Fun K "nothing_left" "FractionBox.nothing_left" s_FractionBox_nothing_left f fd ∧ Meth K A.c_FractionBox "nothing_left" f ∧ Binds K fd ["self"] []
  FourBox_init : ∃ f fd, Fun K "__init__" "FourBox.__init__" s_FourBox_init f fd ∧ Mk K A.c_FourBox f ∧ Binds K fd ["self", "numbers", "tree", "started", "told"] []
  FourBox_ask : ∃ f fd, Fun K "ask" "FourBox.ask" s_FourBox_ask f fd ∧ Meth K A.c_FourBox "ask" f ∧ Binds K fd ["self", "meter"] []
  FourBox_tell : ∃ f fd, Fun K "tell" "FourBox.tell" s_FourBox_tell f fd ∧ Meth K A.c_FourBox "tell" f ∧ Binds K fd ["self", "part"] []
  FourBox_take : ∃ f fd, Fun K "take" "FourBox.take" s_FourBox_take f fd ∧ Meth K A.c_FourBox "take" f ∧ Binds K fd ["self", "answer"] []
  EightBox_init : ∃ f fd, Fun K "__init__" "EightBox.__init__" s_EightBox_init f fd ∧ Mk K A.c_EightBox f ∧ Binds K fd ["self", "numbers", "one", "other"] []
  EightBox_ask : ∃ f fd, Fun K "ask" "EightBox.ask" s_EightBox_ask f fd ∧ Meth K A.c_EightBox "ask" f ∧ Binds K fd ["self", "meter"] []
  EightBox_tell : ∃ f fd, Fun K "tell" "EightBox.tell" s_EightBox_tell f fd ∧ Meth K A.c_EightBox "tell" f ∧ Binds K fd ["self", "part"] []
  EightBox_take : ∃ f fd, Fun K "take" "EightBox.take" s_EightBox_take f fd ∧ Meth K A.c_EightBox "take" f ∧ Binds K fd ["self", "which", "answer"] []
  EightBox_left_without : ∃ f fd, Fun K "left_without" "EightBox.left_without" s_EightBox_left_without f fd ∧ Meth K A.c_EightBox "left_without" f ∧ Binds K fd ["self", "which"] []
  box_of_one : ∃ f fd, DefAt K mg "box_of_one" s_box_of_one ["numbers", "tree", "told"] f fd
  with_first_part : ∃ f fd, DefAt K mg "with_first_part" s_with_first_part ["numbers", "part"] f fd
  with_second_part : ∃ f fd, DefAt K mg "with_second_part" s_with_second_part ["numbers", "part"] f fd
  turned_over : ∃ f fd, DefAt K mg "turned_over" s_turned_over ["numbers", "part"] f fd
  four_corners : ∃ f fd, DefAt K mg "four_corners" s_four_corners ["numbers"] f fd
  eight_corners : ∃ f fd, DefAt K mg "eight_corners" s_eight_corners ["numbers"] f fd
  sure_part : ∃ f fd, DefAt K mg "sure_part" s_sure_part ["corners"] f fd
  Reading_init : ∃ f fd, Fun K "__init__" "Reading.__init__" s_Reading_init f fd ∧ Mk K A.c_Reading f ∧ Binds K fd ["self", "box"] []
  Reading_part : ∃ f fd, Fun K "part" "Reading.part" s_Reading_part f fd ∧ Meth K A.c_Reading "part" f ∧ Binds K fd ["self", "most"] []
  Reading_took : ∃ f fd, Fun K "took" "Reading.took" s_Reading_took f fd ∧ Meth K A.c_Reading "took" f ∧ Binds K fd ["self"] []
  reader : ∃ f fd, DefAt K mg "reader" s_reader ["tree"] f fd
  box_of : ∃ f fd, DefAt K mg "box_of" s_box_of ["tree"] f fd
  power_box : ∃ f fd, DefAt K mg "power_box" s_power_box ["tree", "times"] f fd
  first_parts : ∃ f fd, DefAt K mg "first_parts" s_first_parts ["tree", "many", "most"] f fd
  law_row : ∃ f fd, DefAt K mg "_law_row" s_law_row ["_law_script"] f fd
  law_taken : ∃ f fd, DefAt K mg "_law_taken" s_law_taken ["_law_row_here", "_law_many"] f fd
  law_whole : ∃ f fd, DefAt K mg "_law_whole" s_law_whole ["_law_found"] f fd
  law_list : ∃ f fd, DefAt K mg "_law_list" s_law_list ["_law_found", "_law_due"] f fd
  law_signed : ∃ f fd, DefAt K mg "_law_signed" s_law_signed ["_law_row_here", "_law_most"] f fd
  law_root : ∃ f fd, DefAt K mg "_law_root" s_law_root ["_law_number"] f fd
  law_common : ∃ f fd, DefAt K mg "_law_common" s_law_common ["_law_one", "_law_other"] f fd
  law_lowest : ∃ f fd, DefAt K mg "_law_lowest" s_law_lowest ["_law_top", "_law_below_here"] f fd
  law_made : ∃ f fd, DefAt K mg "_law_made" s_law_made ["_law_a", "_law_b", "_law_c"] f fd
  law_sum : ∃ f fd, DefAt K mg "_law_sum" s_law_sum ["_law_one", "_law_other", "_law_by"] f fd
  law_product : ∃ f fd, DefAt K mg "_law_product" s_law_product ["_law_one", "_law_other", "_law_d"] f fd
  law_quotient : ∃ f fd, DefAt K mg "_law_quotient" s_law_quotient ["_law_one", "_law_other", "_law_d"] f fd
  law_below : ∃ f fd, DefAt K mg "_law_below" s_law_below ["_law_one", "_law_d"] f fd
  law_parts : ∃ f fd, DefAt K mg "_law_parts" s_law_parts ["_law_one", "_law_d", "_law_many"] f fd
  law_ring : ∃ f fd, DefAt K mg "_law_ring" s_law_ring ["_law_one", "_law_d"] f fd
  law_why : ∃ f fd, DefAt K mg "_law_why" s_law_why ["_law_top", "_law_d", "_law_below_here", "_law_most"] f fd
  law : ∃ f fd, DefAt K mg "law" s_law ["_law_script"] f fd

/-! ### the leaves: what they are, in plain Lean -/
inductive Chain where
  | frac (t b : Int)
  | root (t s b r : Int)
  | ruled (ps ring steps : List Int) (i : Nat)
def Chain.ended : Chain → Bool
  | .frac _ b => decide (b = 0)
  | .root _ _ _ _ => false
  | .ruled ps ring _ i => decide (ring = []) && decide (ps.length ≤ i)
def ruledAt (ps ring steps : List Int) (i : Nat) : Int :=
  if i < ps.length then ps.getD i 0 else ring.getD ((i - ps.length) % ring.length) 0 + (((i - ps.length) / ring.length : Nat) : Int) * steps.getD ((i - ps.length) % ring.length) 0
def rootPart (t b r : Int) : Int := (t + r + (if b < 0 then 1 else 0)).fdiv b
def Chain.part : Chain → Int
  | .frac t b => t.fdiv b
  | .root t _ b r => rootPart t b r
  | .ruled ps ring steps i => ruledAt ps ring steps i
def Chain.next : Chain → Chain
  | .frac t b => .frac b (t.fmod b)
  | .root t s b r => .root (rootPart t b r * b - t) s ((s - (rootPart t b r * b - t) * (rootPart t b r * b - t)).fdiv b) r
  | .ruled ps ring steps i => .ruled ps ring steps (i + 1)
/-- numbers of a root's chain, bounded for good -/
structure RootOk (t s b r : Int) : Prop where
  rt : IsRoot s r
  ns : r * r ≠ s
  nz : b ≠ 0
  dv : ∃ q, s - t * t = q * b
  sw : s < 2 ^ 400
  bn : b < 0 → -b ≤ 2 ^ 150
  bp : 0 < b → b ≤ 2 * r + 1 + 2 ^ 150
  tw : t.natAbs < 2 ^ 300
def tame (z : Int) : Prop := -1000000000000 ≤ z ∧ z ≤ 1000000000000
structure RuledOk (ps ring steps : List Int) : Prop where
  p1 : ps ≠ []
  p12 : ps.length ≤ 12
  r12 : ring.length ≤ 12
  same : steps.length = ring.length
  tp : ∀ z ∈ ps, tame z
  tr : ∀ z ∈ ring, tame z
  ts : ∀ z ∈ steps, tame z
def Chain.Ok : Chain → Prop
  | .frac t b => small t ∧ small b
  | .root t s b r => RootOk t s b r
  | .ruled ps ring steps _ => RuledOk ps ring steps
/-! ### what stands in the heap -/
abbrev Flds := List (Str × V)
def chF (t b : Int) : Flds := [("top", .int t), ("below", .int b)]
def rtF (t s b r : Int) : Flds := [("top", .int t), ("square", .int s), ("below", .int b), ("root", .int r)]
def ruF (p q u : Addr) (i : Nat) : Flds := [("parts", .ref p), ("ring", .ref q), ("steps", .ref u), ("at", .int i)]
def meF (l s : Int) : Flds := [("left", .int l), ("spent", .int s)]
def leF (c : Addr) : Flds := [("chain", .ref c)]
def reF (b m : Addr) : Flds := [("box", .ref b), ("meter", .ref m)]
def Chain.At (A : Ad) (K : PySem.W.Frag) (H : Hp) (a : Addr) : Chain → Prop
  | .frac t b => ∃ dx, H a = some (.ins A.c_FractionChain dx (chF t b))
  | .root t s b r => ∃ dx, H a = some (.ins A.c_RootChain dx (rtF t s b r))
  | .ruled ps ring steps i => ∃ dx p q u, H a = some (.ins A.c_RuledChain dx (ruF p q u i)) ∧ SqT K H p (ps.map V.int) ∧ SqT K H q (ring.map V.int) ∧ SqT K H u (steps.map V.int)
def MeterAt (A : Ad) (H : Hp) (m : Addr) (l s : Int) : Prop := ∃ dx, H m = some (.ins A.c_Meter dx (meF l s))
/-- a tuple stays one where all that was tracked but some instances and lists stays -/
theorem sqT_but {K : PySem.W.Frag} {H H' : Hp} {a : Addr} {xs : List V} {N : Addr → Prop} (h : SqT K H a xs) (k : ∀ b o, H b = some o → ¬ N b → H' b = some o) (hN : ∀ b o, N b → H b = some o → (∀ ys, o ≠ .tup ys) ∧ ∀ ob u, o ≠ .frz ob u) : SqT K H' a xs := by
  rcases h with (h | ⟨o, h⟩) | h
  · exact .inl (.inl (k _ _ h fun z => (hN _ _ z h).1 _ rfl))
  · exact .inl (.inr ⟨o, k _ _ h fun z => (hN _ _ z h).2 _ _ rfl⟩)
  · exact .inr h
theorem sqT_same {K : PySem.W.Frag} {H H' : Hp} {a : Addr} {xs : List V} (h : SqT K H a xs) (k : Same H H') : SqT K H' a xs := by
  rcases h with (h | ⟨o, h⟩) | h
  · exact .inl (.inl (k _ _ h))
  · exact .inl (.inr ⟨o, k _ _ h⟩)
  · exact .inr h
theorem sqT_ins {K : PySem.W.Frag} {H : Hp} {a b C dx : Addr} {xs : List V} {fs : Flds} {o : HO} (h : SqT K H a xs) (hb : H b = some (.ins C dx fs)) : SqT K (upd H b o) a xs :=
  sqT_but (N := fun c => c = b) h (fun c u e n => by rw [upd_ne n]; exact e) fun c u e z => by
    subst e
    rw [hb] at z
    cases z
    exact ⟨fun _ q => (by cases q), fun _ _ q => (by cases q)⟩
/-- a maker that lays its arguments down -/
def sp_ini (C : Addr) (n : Nat) (mk : List V → Flds) : Sp := fun vs H Q _ => ∃ (p dx : Addr) (us : List V), vs = .ref p :: us ∧ us.length = n ∧ H p = some (.ins C dx []) ∧ Q .non (upd H p (.ins C dx (mk us)))
section
variable {P : Program} {w : World} {K : PySem.W.Frag} {mg : Str → Option Value} {base : Heap} {A : Ad}
theorem ok_FractionChain_init (T : CT K mg A) (D : DT K mg A) : IOk P w K mg base 1 "FractionChain" A.c_FractionChain ["self", "top", "below"] (sp_ini A.c_FractionChain 2 fun us => [("top", us.getD 0 .non), ("below", us.getD 1 .non)]) := by
  refine IOk.of T.g_FractionChain D.FractionChain_init fun f fd F => ?_
  refine F.ok sc_FractionChain_init (fun vs H Q E h => ?_) (fun cdv Ar outer s H vs Q E hr h => ?_)
  · obtain ⟨p, dx, us, rfl, hl, _⟩ := h
    show us.length + 1 = 3
    omega
  · obtain ⟨p, dx, us, rfl, hl, hp, k⟩ := h
    match us, hl with
    | [u0, u1], _ =>
      refine ⟨_, (pss_cons (ps_fld (pv 0) (pv 1) rfl)
    (pss_one (ps_fld (pv 0) (pv 2) rfl))), ?_⟩
      refine ⟨_, rfl, _, rfl, p, _, dx, [], rfl, hp, T.cl_FractionChain, T.n_FractionChain_top, (by show 0 < 1000; decide), ?_⟩
      refine ⟨_, rfl, _, rfl, p, _, dx, _, rfl, upd_same, T.cl_FractionChain, T.n_FractionChain_below, (by show 1 < 1000; decide), ?_⟩
      refine cast (congrArg (Q V.non) ?_) k
      rw [upd_upd]
      rfl
theorem ok_FractionChain_has_ended (T : CT K mg A) (D : DT K mg A) : MOk P w K mg base CX0 1 A.c_FractionChain "has_ended" ["self"] (fun vs H Q _ => ∃ a t b, vs = [.ref a] ∧ Chain.At A K H a (.frac t b) ∧ Q (.bl (decide (b = 0))) H) := by
  refine MOk.of T.cl_FractionChain D.FractionChain_has_ended fun f fd F => ?_
  refine F.ok sc_FractionChain_has_ended (fun vs H Q E h => ?_) (fun cdv Ar outer s H vs Q E hr h => ?_)
  · obtain ⟨a, t, b, rfl, _⟩ := h
    rfl
  · obtain ⟨a, t, b, rfl, ⟨dx, ha⟩, k⟩ := h
    refine ⟨_, (pss_one (ps_ret (pe_cmpR op_eq (pe_fld (pv 0) rfl) pe_int (nomark _)))), ?_⟩
    refine ⟨_, rfl, a, _, dx, _, _, rfl, ha, T.cl_FractionChain, T.n_FractionChain_below, rfl, rfl, ?_⟩
    show Q (.bl (decide (V.int b = V.int 0))) H
    rw [dec_int]
    exact cast (congrArg (fun z => Q (V.bl z) H) (by rw [Bool.beq_eq_decide_eq])) k
theorem ok_FractionChain_next_part (T : CT K mg A) (D : DT K mg A) : MOk P w K mg base CX0 1 A.c_FractionChain "next_part" ["self"] (fun vs H Q _ => ∃ a t b, vs = [.ref a] ∧ Chain.At A K H a (.frac t b) ∧ b ≠ 0 ∧ small t ∧ small b ∧
    ∀ H', Chain.At A K H' a (.frac b (t.fmod b)) → (∀ c o, H c = some o → c ≠ a → H' c = some o) → Q (.int (t.fdiv b)) H') := by
  refine MOk.of T.cl_FractionChain D.FractionChain_next_part fun f fd F => ?_
  refine F.ok sc_FractionChain_next_part (fun vs H Q E h => ?_) (fun cdv Ar outer s H vs Q E hr h => ?_)
  · obtain ⟨a, t, b, rfl, _⟩ := h
    rfl
  · obtain ⟨a, t, b, rfl, ⟨dx, ha⟩, hb, st, sb, k⟩ := h
    refine ⟨_, (pss_cons (ps_set (i := 1) sc_FractionChain_next_part.nd rfl (Or.inl rfl) (pe_op op_fdivS (pe_fld (pv 0) rfl) (pe_fld (pv 0) rfl)))
    (pss_cons (ps_asg (pe_tup (pa_cons (pe_fld (pv 0) rfl) (pa_cons (pe_op op_sub (pe_fld (pv 0) rfl) (pe_op op_mulW (pv 1) (pe_fld (pv 0) rfl))) pa_nil))) (pg_tup rfl (pgs_cons (pg_fld (pv 0)) (pgs_cons (pg_fld (pv 0)) pgs_nil))))
    (pss_one (ps_ret (pv 1))))), ?_⟩
    have cl := T.cl_FractionChain
    refine ⟨_, rfl, a, _, dx, _, _, rfl, ha, cl, T.n_FractionChain_top, rfl, _, rfl, a, _, dx, _, _, rfl, ha, cl, T.n_FractionChain_below, rfl, _, _, rfl, rfl, small_fdiv sb hb _, ?_⟩
    refine ⟨_, rfl, a, _, dx, _, _, rfl, ha, cl, T.n_FractionChain_below, rfl, _, rfl, a, _, dx, _, _, rfl, ha, cl, T.n_FractionChain_top, rfl, _, rfl, _, rfl, a, _, dx, _, _, rfl, ha, cl, T.n_FractionChain_below, rfl, _, _, rfl, rfl, small_mul (small_fd st hb) sb, _, _, rfl, rfl, ?_⟩
    refine ⟨(by show 2 ≤ sizeLine; decide), fun q nq => ?_⟩
    have s1 := same_upd (o := .tup [V.int b, .int (t - t.fdiv b * b)]) nq
    refine ⟨q, _, rfl, SqT.of upd_same, rfl, _, _, rfl, _, rfl, a, _, dx, _, rfl, s1 _ _ ha, cl, T.n_FractionChain_top, (by show 2 < 1000; decide), ?_⟩
    refine ⟨_, _, rfl, _, rfl, a, _, dx, _, rfl, upd_same, cl, T.n_FractionChain_below, (by show 2 < 1000; decide), rfl, ?_⟩
    refine ⟨_, rfl, k _ ⟨dx, ?_⟩ fun c o e hc => ?_⟩
    · rw [upd_same, ← fmod_eq t b]
      rfl
    · rw [upd_ne hc, upd_ne hc]
      exact s1 _ _ e
end
/-! ### a root's chain stays within its bounds -/
theorem IsRoot.abs {s t : Int} (h : t * t = s) : IsRoot s t.natAbs := by
  have e : (t.natAbs : Int) * t.natAbs = s := by rw [← h]; exact Int.natAbs_mul_self
  refine ⟨by omega, by omega, ?_⟩
  have e2 : ((t.natAbs : Int) + 1) * ((t.natAbs : Int) + 1) = t.natAbs * t.natAbs + 2 * t.natAbs + 1 := by grind
  omega
theorem lt_of_sq {r n : Int} {k : Nat} (h0 : 0 ≤ r) (h : r * r ≤ n) (hn : n < 2 ^ (k + k)) : r < 2 ^ k := by
  rcases Int.lt_or_le r (2 ^ k) with z | z
  · exact z
  · exfalso
    have h1 := Int.mul_le_mul z z (Int.le_of_lt (Int.pow_pos (by decide))) h0
    rw [← Int.pow_add] at h1
    omega
/-- x b < y b, b above nought -/
theorem lt_of_mul {x y b : Int} (hb : 0 < b) (h : x * b < y * b) : x < y := by
  rcases Int.lt_or_le x y with z | z
  · exact z
  · have := Int.mul_le_mul_of_nonneg_right z (Int.le_of_lt hb)
    omega
theorem le_of_mul {x y b : Int} (hb : 0 < b) (h : x * b ≤ y * b) : x ≤ y := by
  rcases Int.lt_or_le y x with z | z
  · have := Int.mul_le_mul_of_nonneg_right (show y + 1 ≤ x from z) (Int.le_of_lt hb)
    have e : (y + 1) * b = y * b + b := by grind
    omega
  · exact z
theorem root_step {t s b r a : Int} (h : RootOk t s b r) (ha : a = rootPart t b r) :
    (0 < b → a * b - t ≤ r ∧ r + 1 ≤ a * b - t + b) ∧ (b < 0 → r + 1 ≤ a * b - t ∧ a * b - t ≤ r - b) := by
  subst ha
  refine ⟨fun hb => ?_, fun hb => ?_⟩
  · have e := fdm (t + r + 0) b
    have := fmod_pos (a := t + r + 0) hb
    unfold rootPart
    rw [if_neg (by omega), Int.mul_comm]
    omega
  · have e := fdm (t + r + 1) b
    have := fmod_neg (a := t + r + 1) hb
    unfold rootPart
    rw [if_pos hb, Int.mul_comm]
    omega
theorem root_next {t s b r : Int} (h : RootOk t s b r) : RootOk (rootPart t b r * b - t) s ((s - (rootPart t b r * b - t) * (rootPart t b r * b - t)).fdiv b) r := by
  obtain ⟨sp, sn⟩ := root_step h rfl
  obtain ⟨rt, ns, nz, ⟨q, hq⟩, sw, bn, bp, tw⟩ := h
  generalize rootPart t b r = a at *
  obtain ⟨r0, r1, r2⟩ := rt
  have hr : r < 2 ^ 200 := lt_of_sq r0 r1 sw
  have p150 : (2 : Int) ^ 150 = 1427247692705959881058285969449495136382746624 := by decide
  have p200 : (2 : Int) ^ 200 = 1606938044258990275541962092341162602522202993782792835301376 := by decide
  have p300 : (2 : Nat) ^ 300 = 2037035976334486086268445688409378161051468393665936250636140449354381299763336706183397376 := by decide
  have hd : s - (a * b - t) * (a * b - t) = (q - a * (a * b - 2 * t)) * b := by
    have e : s - (a * b - t) * (a * b - t) = (s - t * t) - (a * (a * b - 2 * t)) * b := by grind
    rw [e, hq]
    grind
  have e2 : (s - (a * b - t) * (a * b - t)).fdiv b = q - a * (a * b - 2 * t) := by
    rw [hd]
    exact Int.mul_fdiv_cancel _ nz
  rw [e2]
  generalize q - a * (a * b - 2 * t) = c at *
  generalize a * b - t = u at *
  have ex : (r + 1) * (r + 1) = r * r + 2 * r + 1 := by grind
  have c0 : c ≠ 0 := fun z => by
    rw [z, Int.zero_mul] at hd
    have e : u * u = s := by omega
    have hu := (IsRoot.abs e).unique ⟨r0, r1, r2⟩
    have : (u.natAbs : Int) * u.natAbs = u * u := Int.natAbs_mul_self
    rw [hu] at this
    omega
  refine ⟨⟨r0, r1, r2⟩, ns, c0, ⟨b, by rw [hd, Int.mul_comm]⟩, sw, ?_, ?_, ?_⟩
  · intro hc
    rcases Int.lt_or_gt_of_ne nz with hb | hb
    · exfalso
      obtain ⟨u1, u2⟩ := sn hb
      have k1 := Int.mul_nonneg_of_nonpos_of_nonpos (Int.le_of_lt hc) (Int.le_of_lt hb)
      have k2 := Int.mul_le_mul u1 u1 (by omega) (by omega)
      omega
    · obtain ⟨u1, u2⟩ := sp hb
      have hu : u ≤ -r - 1 := by
        rcases Int.lt_or_le u (-r) with z | z
        · omega
        · exfalso
          have k1 : u * u ≤ r * r := by
            have := Int.mul_nonneg (show 0 ≤ r - u by omega) (show 0 ≤ r + u by omega)
            have e : (r - u) * (r + u) = r * r - u * u := by grind
            omega
          have k2 := Int.mul_nonneg (show 0 ≤ -c - 1 by omega) (Int.le_of_lt hb)
          have e3 : (-c - 1) * b = -(c * b) - b := by grind
          omega
      have k3 : (-c) * b ≤ (-u - r) * b := by
        have k4 := Int.mul_le_mul_of_nonneg_left (show -u + r ≤ b by omega) (show 0 ≤ -u - r by omega)
        have e4 : (-u - r) * (-u + r) = u * u - r * r := by grind
        have e5 : -c * b = -(c * b) := by grind
        omega
      have k5 := le_of_mul hb k3
      have := bp hb
      omega
  · intro hc
    rcases Int.lt_or_gt_of_ne nz with hb | hb
    · obtain ⟨u1, u2⟩ := sn hb
      have k3 : c * (-b) ≤ (u + r) * (-b) := by
        have k4 := Int.mul_le_mul_of_nonneg_left (show u - r ≤ -b by omega) (show 0 ≤ u + r by omega)
        have e4 : (u + r) * (u - r) = u * u - r * r := by grind
        have e5 : c * -b = -(c * b) := by grind
        omega
      have k5 := le_of_mul (show 0 < -b by omega) k3
      have := bn hb
      omega
    · obtain ⟨u1, u2⟩ := sp hb
      have hu : -r ≤ u := by
        rcases Int.lt_or_le u (-r) with z | z
        · exfalso
          have k1 := Int.mul_le_mul (show r + 1 ≤ -u by omega) (show r + 1 ≤ -u by omega) (by omega) (by omega)
          have e : -u * -u = u * u := by grind
          have k2 := Int.mul_nonneg (Int.le_of_lt hc) (Int.le_of_lt hb)
          omega
        · exact z
      have k3 : c * b < (r + 1 + u) * b := by
        have k4 := Int.mul_le_mul_of_nonneg_left (show r + 1 - u ≤ b by omega) (show 0 ≤ r + 1 + u by omega)
        have e4 : (r + 1 + u) * (r + 1 - u) = (r + 1) * (r + 1) - u * u := by grind
        omega
      have k5 := lt_of_mul hb k3
      omega
  · rcases Int.lt_or_gt_of_ne nz with hb | hb
    · obtain ⟨u1, u2⟩ := sn hb
      have := bn hb
      omega
    · obtain ⟨u1, u2⟩ := sp hb
      have := bp hb
      omega
theorem dvd_of_sq {w r s : Int} (hw : w ≠ 0) (h : r * r = s * (w * w)) : ∃ k, r = k * w := by
  have h1 : w ^ 2 ∣ r ^ 2 := ⟨s, by
    have e1 : r ^ 2 = r * r := by grind
    have e2 : w ^ 2 = w * w := by grind
    rw [e1, e2, h, Int.mul_comm]⟩
  have h2 : w ∣ r := (Int.pow_dvd_pow_iff (by decide)).mp h1
  obtain ⟨k, hk⟩ := h2
  exact ⟨k, by rw [hk, Int.mul_comm]⟩
/-- a root's first numbers, widened -/
theorem root_first {t s b r q : Int} (ht : tame t) (hs0 : 0 ≤ s) (hs : s ≤ 1000000000000) (hb : tame b) (h0 : b ≠ 0) (hr : IsRoot s r) (hn : r * r ≠ s) (hq : IsRoot (s * (b.natAbs : Int) * (b.natAbs : Int)) q) :
    RootOk (t * (b.natAbs : Int)) (s * (b.natAbs : Int) * (b.natAbs : Int)) (b * (b.natAbs : Int)) q := by
  obtain ⟨t1, t2⟩ := ht
  obtain ⟨b1, b2⟩ := hb
  have w0 : (0 : Int) < b.natAbs := by omega
  have w1 : (b.natAbs : Int) ≤ 1000000000000 := by omega
  have hbw : b = b.natAbs ∨ b = -(b.natAbs : Int) := by omega
  generalize (b.natAbs : Int) = w at *
  have ww : w * w ≤ 1000000000000 * 1000000000000 := Int.mul_le_mul w1 w1 (by omega) (by decide)
  have ww0 : 0 < w * w := Int.mul_pos w0 w0
  have sww : s * w * w ≤ 1000000000000 * (1000000000000 * 1000000000000) := by
    rw [Int.mul_assoc]
    exact Int.mul_le_mul hs ww (by omega) (by decide)
  have p150 : (2 : Int) ^ 150 = 1427247692705959881058285969449495136382746624 := by decide
  refine ⟨hq, fun z => ?_, ?_, ?_, Int.lt_of_le_of_lt sww (by decide +kernel), ?_, ?_, ?_⟩
  · obtain ⟨k, hk⟩ := dvd_of_sq (w := w) (r := q) (s := s) (by omega) (by rw [z, Int.mul_assoc])
    have e : k * k = s := by
      have e1 : (k * k - s) * (w * w) = 0 := by
        have : q * q = s * w * w := z
        rw [hk] at this
        grind
      rcases Int.mul_eq_zero.mp e1 with y | y <;> omega
    have hk2 := (IsRoot.abs e).unique hr
    have : (k.natAbs : Int) * k.natAbs = k * k := Int.natAbs_mul_self
    rw [hk2] at this
    omega
  · rcases hbw with e | e <;> rw [e]
    · omega
    · intro z
      have : -w * w = -(w * w) := by grind
      omega
  · rcases hbw with e | e <;> rw [e]
    · exact ⟨s - t * t, by grind⟩
    · exact ⟨-(s - t * t), by grind⟩
  · intro z
    have : -(b * w) ≤ w * w := by
      rcases hbw with e | e <;> rw [e]
      · omega
      · have : -w * w = -(w * w) := by grind
        omega
    omega
  · intro z
    have : b * w ≤ w * w := by
      rcases hbw with e | e <;> rw [e]
      · exact Int.le_refl _
      · have : -w * w = -(w * w) := by grind
        omega
    have := hq.1
    omega
  · rw [Int.natAbs_mul]
    have : t.natAbs * w.natAbs ≤ 1000000000000 * 1000000000000 := Nat.mul_le_mul (by omega) (by omega)
    exact Nat.lt_of_le_of_lt this (by decide +kernel)
section
variable {P : Program} {w : World} {K : PySem.W.Frag} {mg : Str → Option Value} {base : Heap} {A : Ad}
theorem root_small {t s b r : Int} (h : RootOk t s b r) : small t ∧ small b ∧ small r ∧ small s ∧ small (t + r + (if b < 0 then 1 else 0)) ∧ small (rootPart t b r) ∧ small (rootPart t b r * b - t) := by
  have n := root_next h
  obtain ⟨⟨r0, r1, r2⟩, ns, nz, dv, sw, bn, bp, tw⟩ := h
  have hr : r < 2 ^ 200 := lt_of_sq r0 r1 sw
  have p150 : (2 : Int) ^ 150 = 1427247692705959881058285969449495136382746624 := by decide
  have p200 : (2 : Int) ^ 200 = 1606938044258990275541962092341162602522202993782792835301376 := by decide
  have p300 : (2 : Nat) ^ 300 = 2037035976334486086268445688409378161051468393665936250636140449354381299763336706183397376 := by decide
  have up : ∀ z : Int, z.natAbs < 2 ^ 302 → small z := fun z hz => Nat.lt_trans hz (Nat.pow_lt_pow_right (by decide) (by decide))
  have p302 : (2 : Nat) ^ 302 = 4 * 2 ^ 300 := by decide
  have st : (t + r + (if b < 0 then 1 else 0)).natAbs < 2 ^ 302 := by split <;> omega
  have hs0 : 0 ≤ s := Int.le_trans (sq_nonneg r) r1
  refine ⟨up _ (by omega), up _ ?_, up _ (by omega), ?_, up _ st, ?_, up _ (by have := n.tw; omega)⟩
  · rcases Int.lt_or_gt_of_ne nz with z | z
    · have := bn z; omega
    · have := bp z; omega
  · exact Nat.lt_trans (natAbs_lt_pow hs0 sw) (Nat.pow_lt_pow_right (by decide) (by decide))
  · exact Nat.lt_of_le_of_lt (fdiv_abs nz) (up _ st)
def sp_RootChain_init (A : Ad) : Sp := fun vs H Q _ => ∃ (p dx : Addr) (t s b : Int), vs = [.ref p, .int t, .int s, .int b] ∧ H p = some (.ins A.c_RootChain dx []) ∧ tame t ∧ 0 ≤ s ∧ s ≤ 1000000000000 ∧ tame b ∧ b ≠ 0 ∧ (∀ r, IsRoot s r → r * r ≠ s) ∧
  ∀ q, RootOk (t * (b.natAbs : Int)) (s * (b.natAbs : Int) * (b.natAbs : Int)) (b * (b.natAbs : Int)) q → Q .non (upd H p (.ins A.c_RootChain dx (rtF (t * (b.natAbs : Int)) (s * (b.natAbs : Int) * (b.natAbs : Int)) (b * (b.natAbs : Int)) q)))
theorem small_tame {z : Int} (h : tame z) : small z := by
  obtain ⟨h1, h2⟩ := h
  have p40 : (2 : Nat) ^ 40 = 1099511627776 := by decide
  exact Nat.lt_trans (show z.natAbs < 2 ^ 40 by omega) (Nat.pow_lt_pow_right (by decide) (by decide))
theorem ok_RootChain_init (T : CT K mg A) (D : DT K mg A) (G_root_below : COk P w K mg base CX0 1 "root_below" ["number"] sp_root_below) (hroot : ∀ s : Int, 0 ≤ s → ∃ r, IsRoot s r) : IOk P w K mg base 2 "RootChain" A.c_RootChain ["self", "top", "square", "below"] (sp_RootChain_init A) := by
  refine IOk.of T.g_RootChain D.RootChain_init fun f fd F => ?_
  refine F.ok sc_RootChain_init (fun vs H Q E h => ?_) (fun cdv Ar outer s H vs Q E hr h => ?_)
  · obtain ⟨p, dx, t, s, b, rfl, _⟩ := h
    rfl
  · obtain ⟨p, dx, t, sq, b, rfl, hp, ht, hs0, hs1, hb, hb0, hns, k⟩ := h
    refine ⟨_, (pss_cons (ps_set (i := 4) sc_RootChain_init.nd rfl (Or.inl rfl) (pe_callB call_abs (by rfl) T.b_abs (by decide +kernel) (pa_cons (pv 3) pa_nil)))
    (pss_cons (ps_fld (pv 0) (pe_op op_mul (pv 1) (pv 4)) rfl)
    (pss_cons (ps_fld (pv 0) (pe_op op_mul (pe_op op_mul (pv 2) (pv 4)) (pv 4)) rfl)
    (pss_cons (ps_fld (pv 0) (pe_op op_mul (pv 3) (pv 4)) rfl)
    (pss_one (ps_fld (pv 0) (pe_c G_root_below (hr.mono (by first | decide | omega)) (pa_cons (pe_fld (pv 0) rfl) pa_nil)) rfl)))))), ?_⟩
    have cl := T.cl_RootChain
    have ew : (if b < 0 then -b else b) = (b.natAbs : Int) := by split <;> omega
    obtain ⟨b1, b2⟩ := id hb
    obtain ⟨t1, t2⟩ := id ht
    have w64 : -(2 ^ 64) < ((b.natAbs : Int)) ∧ ((b.natAbs : Int)) < 2 ^ 64 := by
      have : (2 : Int) ^ 64 = 18446744073709551616 := by decide
      omega
    refine ⟨_, rfl, b, rfl, ?_⟩
    show tSeq _ _ _ [some (V.ref p), some (V.int t), some (V.int sq), some (V.int b), some (V.int (if b < 0 then -b else b))] H
    rw [ew]
    refine ⟨_, rfl, _, rfl, _, _, rfl, rfl, .inr w64, _, rfl, p, _, dx, [], rfl, hp, cl, T.n_RootChain_top, (by show 0 < 1000; decide), ?_⟩
    refine ⟨_, rfl, _, rfl, _, _, rfl, rfl, .inr w64, _, rfl, _, _, rfl, rfl, .inr w64, _, rfl, p, _, dx, _, rfl, upd_same, cl, T.n_RootChain_square, (by show 1 < 1000; decide), ?_⟩
    refine ⟨_, rfl, _, rfl, _, _, rfl, rfl, .inr w64, _, rfl, p, _, dx, _, rfl, upd_same, cl, T.n_RootChain_below, (by show 2 < 1000; decide), ?_⟩
    have w1 : (b.natAbs : Int) ≤ 1000000000000 := by omega
    have ww : (b.natAbs : Int) * b.natAbs ≤ 1000000000000 * 1000000000000 := Int.mul_le_mul w1 w1 (by omega) (by decide)
    have ww0 : 0 ≤ (b.natAbs : Int) * b.natAbs := Int.mul_nonneg (by omega) (by omega)
    have sww : sq * (b.natAbs : Int) * b.natAbs ≤ 1000000000000 * (1000000000000 * 1000000000000) := by
      rw [Int.mul_assoc]
      exact Int.mul_le_mul hs1 ww ww0 (by decide)
    have sw0 : 0 ≤ sq * (b.natAbs : Int) * b.natAbs := by rw [Int.mul_assoc]; exact Int.mul_nonneg hs0 ww0
    refine ⟨_, rfl, p, _, dx, _, _, rfl, upd_same, cl, T.n_RootChain_square, rfl, _, rfl, sw0, Int.lt_of_le_of_lt sww (by decide +kernel), fun q hq => ?_⟩
    refine ⟨_, rfl, p, _, dx, _, rfl, upd_same, cl, T.n_RootChain_root, (by show 3 < 1000; decide), ?_⟩
    obtain ⟨r, hr0⟩ := hroot sq hs0
    refine cast (congrArg (Q V.non) ?_) (k q (root_first ht hs0 hs1 hb hb0 hr0 (hns r hr0) hq))
    rw [upd_upd, upd_upd, upd_upd]
    rfl
theorem ok_RootChain_has_ended (T : CT K mg A) (D : DT K mg A) : MOk P w K mg base CX0 1 A.c_RootChain "has_ended" ["self"] (fun vs H Q _ => ∃ a, vs = [.ref a] ∧ Q (.bl false) H) := by
  refine MOk.of T.cl_RootChain D.RootChain_has_ended fun f fd F => ?_
  refine F.ok sc_RootChain_has_ended (fun vs H Q E h => ?_) (fun cdv Ar outer s H vs Q E hr h => ?_)
  · obtain ⟨a, rfl, _⟩ := h
    rfl
  · obtain ⟨a, rfl, k⟩ := h
    exact ⟨_, (pss_one (ps_ret pe_bl)), k⟩
theorem ok_RootChain_next_part (T : CT K mg A) (D : DT K mg A) : MOk P w K mg base CX0 1 A.c_RootChain "next_part" ["self"] (fun vs H Q _ => ∃ a t s b r, vs = [.ref a] ∧ Chain.At A K H a (.root t s b r) ∧ RootOk t s b r ∧
    ∀ H', Chain.At A K H' a (Chain.next (.root t s b r)) → (∀ c o, H c = some o → c ≠ a → H' c = some o) → Q (.int (rootPart t b r)) H') := by
  refine MOk.of T.cl_RootChain D.RootChain_next_part fun f fd F => ?_
  refine F.ok sc_RootChain_next_part (fun vs H Q E h => ?_) (fun cdv Ar outer s H vs Q E hr h => ?_)
  · obtain ⟨a, t, s, b, r, rfl, _⟩ := h
    rfl
  · obtain ⟨a, t, sq, b, r, rfl, ⟨dx, ha⟩, ok, k⟩ := h
    refine ⟨_, (pss_cons (ps_set (i := 1) sc_RootChain_next_part.nd rfl (Or.inl rfl) (pe_ifExp (pt_cmpR op_lt (pe_fld (pv 0) rfl) pe_int (nomark _)) pe_int pe_int))
    (pss_cons (ps_set (i := 2) sc_RootChain_next_part.nd rfl (Or.inl rfl) (pe_op op_fdivS (pe_op op_add (pe_op op_add (pe_fld (pv 0) rfl) (pe_fld (pv 0) rfl)) (pv 1)) (pe_fld (pv 0) rfl)))
    (pss_cons (ps_fld (pv 0) (pe_op op_sub (pe_op op_mulW (pv 2) (pe_fld (pv 0) rfl)) (pe_fld (pv 0) rfl)) rfl)
    (pss_cons (ps_fld (pv 0) (pe_op op_fdivS (pe_op op_sub (pe_fld (pv 0) rfl) (pe_op op_mulW (pe_fld (pv 0) rfl) (pe_fld (pv 0) rfl))) (pe_fld (pv 0) rfl)) rfl)
    (pss_one (ps_ret (pv 2))))))), ?_⟩
    have cl := T.cl_RootChain
    obtain ⟨st, sb, sr, ss, sx, sp, su⟩ := root_small ok
    have nz := ok.nz
    refine ⟨_, rfl, a, _, dx, _, _, rfl, ha, cl, T.n_RootChain_below, rfl, _, _, rfl, rfl, _, rfl, ?_⟩
    have up : ∀ {Z : Int → Prop}, Z (if b < 0 then 1 else 0) → (if decide (b < 0) = true then Z 1 else Z 0) := fun {Z} hz => by
      by_cases c : b < 0
      · rw [decide_eq_true c, if_pos rfl]; rw [if_pos c] at hz; exact hz
      · rw [decide_eq_false c, if_neg (by decide)]; rw [if_neg c] at hz; exact hz
    refine up (Z := fun e => tSeq _ _ _ [some (V.ref a), some (V.int e), none] H) ?_
    refine ⟨_, rfl, a, _, dx, _, _, rfl, ha, cl, T.n_RootChain_top, rfl, _, rfl, a, _, dx, _, _, rfl, ha, cl, T.n_RootChain_root, rfl, _, _, rfl, rfl, _, rfl, _, _, rfl, rfl, _, rfl, a, _, dx, _, _, rfl, ha, cl, T.n_RootChain_below, rfl, _, _, rfl, rfl, small_fdiv sb nz _, ?_⟩
    refine ⟨_, rfl, _, rfl, a, _, dx, _, _, rfl, ha, cl, T.n_RootChain_below, rfl, _, _, rfl, rfl, small_mul sp sb, _, rfl, a, _, dx, _, _, rfl, ha, cl, T.n_RootChain_top, rfl, _, _, rfl, rfl, _, rfl, a, _, dx, _, rfl, ha, cl, T.n_RootChain_top, (by show 4 < 1000; decide), ?_⟩
    refine ⟨_, rfl, a, _, dx, _, _, rfl, upd_same, cl, T.n_RootChain_square, rfl, _, rfl, a, _, dx, _, _, rfl, upd_same, cl, T.n_RootChain_top, rfl, _, rfl, a, _, dx, _, _, rfl, upd_same, cl, T.n_RootChain_top, rfl, _, _, rfl, rfl, small_mul su su, _, _, rfl, rfl, _, rfl, a, _, dx, _, _, rfl, upd_same, cl, T.n_RootChain_below, rfl, _, _, rfl, rfl, small_fdiv sb nz _, _, rfl, a, _, dx, _, rfl, upd_same, cl, T.n_RootChain_below, (by show 4 < 1000; decide), ?_⟩
    refine ⟨_, rfl, k _ ⟨dx, ?_⟩ fun c o e hc => ?_⟩
    · rw [upd_same]
      rfl
    · rw [upd_ne hc, upd_ne hc]
      exact e
/-! ruled chains -/
theorem ok_RuledChain_init (T : CT K mg A) (D : DT K mg A) : IOk P w K mg base 1 "RuledChain" A.c_RuledChain ["self", "parts", "ring", "steps"] (sp_ini A.c_RuledChain 3 fun us => [("parts", us.getD 0 .non), ("ring", us.getD 1 .non), ("steps", us.getD 2 .non), ("at", .int 0)]) := by
  refine IOk.of T.g_RuledChain D.RuledChain_init fun f fd F => ?_
  refine F.ok sc_RuledChain_init (fun vs H Q E h => ?_) (fun cdv Ar outer s H vs Q E hr h => ?_)
  · obtain ⟨p, dx, us, rfl, hl, _⟩ := h
    show us.length + 1 = 4
    omega
  · obtain ⟨p, dx, us, rfl, hl, hp, k⟩ := h
    match us, hl with
    | [u0, u1, u2], _ =>
      refine ⟨_, (pss_cons (ps_fld (pv 0) (pv 1) rfl)
    (pss_cons (ps_fld (pv 0) (pv 2) rfl)
    (pss_cons (ps_fld (pv 0) (pv 3) rfl)
    (pss_one (ps_fld (pv 0) pe_int rfl))))), ?_⟩
      have cl := T.cl_RuledChain
      refine ⟨_, rfl, _, rfl, p, _, dx, [], rfl, hp, cl, T.n_RuledChain_parts, (by show 0 < 1000; decide), ?_⟩
      refine ⟨_, rfl, _, rfl, p, _, dx, _, rfl, upd_same, cl, T.n_RuledChain_ring, (by show 1 < 1000; decide), ?_⟩
      refine ⟨_, rfl, _, rfl, p, _, dx, _, rfl, upd_same, cl, T.n_RuledChain_steps, (by show 2 < 1000; decide), ?_⟩
      refine ⟨_, rfl, p, _, dx, _, rfl, upd_same, cl, T.n_RuledChain_at, (by show 3 < 1000; decide), ?_⟩
      refine cast (congrArg (Q V.non) ?_) k
      rw [upd_upd, upd_upd, upd_upd]
      rfl
theorem len_eq_nil {l : List Int} : decide (V.int (((l.map V.int).length : Nat) : Int) = V.int 0) = decide (l = []) := by
  cases l with
  | nil => rfl
  | cons x r =>
    rw [decide_eq_false (show ¬ (x :: r) = [] from List.cons_ne_nil _ _)]
    refine decide_eq_false fun z => ?_
    have := V.int.inj z
    rw [List.length_map, List.length_cons] at this
    omega
theorem ok_RuledChain_has_ended (T : CT K mg A) (D : DT K mg A) : MOk P w K mg base CX0 1 A.c_RuledChain "has_ended" ["self"] (fun vs H Q _ => ∃ a ps ring steps i, vs = [.ref a] ∧ Chain.At A K H a (.ruled ps ring steps i) ∧ Q (.bl (decide (ring = []) && decide (ps.length ≤ i))) H) := by
  refine MOk.of T.cl_RuledChain D.RuledChain_has_ended fun f fd F => ?_
  refine F.ok sc_RuledChain_has_ended (fun vs H Q E h => ?_) (fun cdv Ar outer s H vs Q E hr h => ?_)
  · obtain ⟨a, ps, ring, steps, i, rfl, _⟩ := h
    rfl
  · obtain ⟨a, ps, ring, steps, i, rfl, ⟨dx, p, q, u, ha, hp, hq, hu⟩, k⟩ := h
    refine ⟨_, (pss_one (ps_ret (pe_and (pe_cmpR op_eq (pe_callB call_len_seq (by rfl) T.b_len (by decide +kernel) (pa_cons (pe_fld (pv 0) rfl) pa_nil)) pe_int (nomark _)) (pe_one (pe_cmpR op_ge (pe_fld (pv 0) rfl) (pe_callB call_len_seq (by rfl) T.b_len (by decide +kernel) (pa_cons (pe_fld (pv 0) rfl) pa_nil)) (nomark _)))))), ?_⟩
    have cl := T.cl_RuledChain
    refine ⟨_, rfl, a, _, dx, _, _, rfl, ha, cl, T.n_RuledChain_ring, rfl, q, _, rfl, .inr hq, rfl, _, rfl, ?_⟩
    rw [len_eq_nil]
    by_cases c : ring = []
    · rw [decide_eq_true c] at k ⊢
      refine iteT ⟨_, rfl, a, _, dx, _, _, rfl, ha, cl, T.n_RuledChain_at, rfl, _, rfl, a, _, dx, _, _, rfl, ha, cl, T.n_RuledChain_parts, rfl, p, _, rfl, .inr hp, _, _, rfl, rfl, ?_⟩
      have e : decide ((((ps.map V.int).length : Nat) : Int) ≤ (i : Int)) = decide (ps.length ≤ i) := by
        rw [List.length_map]
        exact decide_eq_decide.mpr (by omega)
      show Q (.bl (decide ((((ps.map V.int).length : Nat) : Int) ≤ (i : Int)))) H
      rw [e]
      exact k
    · rw [decide_eq_false c] at k ⊢
      exact iteF k
theorem map_at {l : List Int} {i : Nat} (h : i < l.length) : (l.map V.int)[i]? = some (.int (l.getD i 0)) := by
  rw [List.getElem?_map, List.getElem?_eq_getElem h, List.getD_eq_getElem?_getD, List.getElem?_eq_getElem h]
  rfl
theorem mem_getD {l : List Int} {i : Nat} (h : i < l.length) : l.getD i 0 ∈ l := by
  rw [List.getD_eq_getElem?_getD, List.getElem?_eq_getElem h]
  exact List.getElem_mem h
theorem ok_RuledChain_next_part (T : CT K mg A) (D : DT K mg A) : MOk P w K mg base CX0 1 A.c_RuledChain "next_part" ["self"] (fun vs H Q _ => ∃ a ps ring steps i, vs = [.ref a] ∧ Chain.At A K H a (.ruled ps ring steps i) ∧ RuledOk ps ring steps ∧ (ring = [] → i < ps.length) ∧
    ∀ H', Chain.At A K H' a (.ruled ps ring steps (i + 1)) → (∀ c o, H c = some o → c ≠ a → H' c = some o) → Q (.int (ruledAt ps ring steps i)) H') := by
  refine MOk.of T.cl_RuledChain D.RuledChain_next_part fun f fd F => ?_
  refine F.ok sc_RuledChain_next_part (fun vs H Q E h => ?_) (fun cdv Ar outer s H vs Q E hr h => ?_)
  · obtain ⟨a, ps, ring, steps, i, rfl, _⟩ := h
    rfl
  · obtain ⟨a, ps, ring, steps, i, rfl, ⟨dx, p, q, u, ha, hp, hq, hu⟩, ok, hne, k⟩ := h
    refine ⟨_, (pss_cons (ps_set (i := 1) sc_RuledChain_next_part.nd rfl (Or.inl rfl) (pe_fld (pv 0) rfl))
    (pss_cons (ps_fldaug (pv 0) pe_int in_add)
    (pss_cons (ps_if (pt_cmpR op_lt (pv 1) (pe_callB call_len_seq (by rfl) T.b_len (by decide +kernel) (pa_cons (pe_fld (pv 0) rfl) pa_nil)) (nomark _))
      (pss_one (ps_ret (pe_ix ix_tup (pe_fld (pv 0) rfl) (pv 1) (fun _ _ => rfl)))) pss_nil)
    (pss_cons (ps_asg (pe_callB call_divmod (by rfl) T.b_divmod (by decide +kernel) (pa_cons (pe_op op_sub (pv 1) (pe_callB call_len_seq (by rfl) T.b_len (by decide +kernel) (pa_cons (pe_fld (pv 0) rfl) pa_nil))) (pa_cons (pe_callB call_len_seq (by rfl) T.b_len (by decide +kernel) (pa_cons (pe_fld (pv 0) rfl) pa_nil)) pa_nil))) (pg_tup rfl (pgs_cons (pg_name (i := 2) sc_RuledChain_next_part.nd rfl (Or.inl rfl)) (pgs_cons (pg_name (i := 3) sc_RuledChain_next_part.nd rfl (Or.inl rfl)) pgs_nil))))
    (pss_one (ps_ret (pe_op op_add (pe_ix ix_tup (pe_fld (pv 0) rfl) (pv 3) (fun _ _ => rfl)) (pe_op op_mul (pv 2) (pe_ix ix_tup (pe_fld (pv 0) rfl) (pv 3) (fun _ _ => rfl)))))))))), ?_⟩
    have cl := T.cl_RuledChain
    refine ⟨_, rfl, a, _, dx, _, _, rfl, ha, cl, T.n_RuledChain_at, rfl, ?_⟩
    refine ⟨_, rfl, a, _, dx, _, _, rfl, ha, cl, T.n_RuledChain_at, rfl, _, _, rfl, rfl, dx, _, ha, (by show 4 < 1000; decide), ?_⟩
    have h1 : ∀ o, (upd H a o) a = some o := fun o => upd_same
    have hp1 := sqT_ins (o := .ins A.c_RuledChain dx (putF "at" (.int ((i : Int) + 1)) (ruF p q u i))) hp ha
    have hq1 := sqT_ins (o := .ins A.c_RuledChain dx (putF "at" (.int ((i : Int) + 1)) (ruF p q u i))) hq ha
    have hu1 := sqT_ins (o := .ins A.c_RuledChain dx (putF "at" (.int ((i : Int) + 1)) (ruF p q u i))) hu ha
    have kp : ∀ c o, H c = some o → c ≠ a → (upd H a (.ins A.c_RuledChain dx (putF "at" (.int ((i : Int) + 1)) (ruF p q u i)))) c = some o := fun c o e hc => by rw [upd_ne hc]; exact e
    have ha1 : (upd H a (.ins A.c_RuledChain dx (putF "at" (.int ((i : Int) + 1)) (ruF p q u i)))) a = some (.ins A.c_RuledChain dx (ruF p q u (i + 1))) := upd_same
    generalize upd H a (.ins A.c_RuledChain dx (putF "at" (.int ((i : Int) + 1)) (ruF p q u i))) = H1 at *
    have hlp : (ps.map V.int).length = ps.length := List.length_map _
    have hlr : (ring.map V.int).length = ring.length := List.length_map _
    refine ⟨_, rfl, _, rfl, a, _, dx, _, _, rfl, ha1, cl, T.n_RuledChain_parts, rfl, p, _, rfl, .inr hp1, _, _, rfl, rfl, _, rfl, ite2 (fun c => ?_) (fun c => ?_)⟩
    · have hi : i < ps.length := by
        have := of_decide_eq_true c
        rw [hlp] at this
        omega
      refine ⟨_, rfl, a, _, dx, _, _, rfl, ha1, cl, T.n_RuledChain_parts, rfl, _, rfl, p, _, _, _, rfl, rfl, hp1, atI_nat (map_at hi), ?_⟩
      have e : ruledAt ps ring steps i = ps.getD i 0 := by unfold ruledAt; rw [if_pos hi]
      rw [← e]
      exact k _ ⟨dx, p, q, u, ha1, hp1, hq1, hu1⟩ kp
    · have hi : ps.length ≤ i := by
        rcases Nat.lt_or_ge i ps.length with z | z
        · exact absurd (decide_eq_true (by rw [hlp]; omega)) c
        · exact z
      have hr0 : 0 < ring.length := by
        cases ring with
        | nil => have := hne rfl; omega
        | cons x r => rw [List.length_cons]; omega
      have hr12 := ok.r12
      have hs := ok.same
      refine ⟨_, rfl, _, rfl, a, _, dx, _, _, rfl, ha1, cl, T.n_RuledChain_parts, rfl, p, _, rfl, .inr hp1, _, _, rfl, rfl, _, rfl, a, _, dx, _, _, rfl, ha1, cl, T.n_RuledChain_ring, rfl, q, _, rfl, .inr hq1, _, _, rfl, ⟨by rw [hlr]; omega, by rw [hlr]; omega⟩, fun z nz => ?_⟩
      have e1 : ((i : Int) - (((ps.map V.int).length : Nat) : Int)) / (((ring.map V.int).length : Nat) : Int) = (((i - ps.length) / ring.length : Nat) : Int) := by
        rw [hlp, hlr, Int.natCast_ediv]
        congr 1
        omega
      have e2 : ((i : Int) - (((ps.map V.int).length : Nat) : Int)) % (((ring.map V.int).length : Nat) : Int) = (((i - ps.length) % ring.length : Nat) : Int) := by
        rw [hlp, hlr, Int.natCast_emod]
        congr 1
        omega
      rw [e1, e2]
      have sm := same_upd (o := .tup [V.int (((i - ps.length) / ring.length : Nat) : Int), .int (((i - ps.length) % ring.length : Nat) : Int)]) nz
      refine ⟨z, _, rfl, SqT.of upd_same, rfl, _, _, rfl, _, _, rfl, rfl, ?_⟩
      have hm : (i - ps.length) % ring.length < ring.length := Nat.mod_lt _ hr0
      have ts := ok.ts _ (mem_getD (show (i - ps.length) % ring.length < steps.length by omega))
      have w64 : -(2 ^ 64) < steps.getD ((i - ps.length) % ring.length) 0 ∧ steps.getD ((i - ps.length) % ring.length) 0 < 2 ^ 64 := by
        obtain ⟨t1, t2⟩ := ts
        have : (2 : Int) ^ 64 = 18446744073709551616 := by decide
        omega
      refine ⟨_, rfl, a, _, dx, _, _, rfl, sm _ _ ha1, cl, T.n_RuledChain_ring, rfl, _, rfl, q, _, _, _, rfl, rfl, (sqT_same hq1 sm), atI_nat (map_at hm), ?_⟩
      refine ⟨_, rfl, _, rfl, a, _, dx, _, _, rfl, sm _ _ ha1, cl, T.n_RuledChain_steps, rfl, _, rfl, u, _, _, _, rfl, rfl, (sqT_same hu1 sm), atI_nat (map_at (show (i - ps.length) % ring.length < steps.length by omega)), _, _, rfl, rfl, .inr w64, _, _, rfl, rfl, ?_⟩
      have e : ruledAt ps ring steps i = ring.getD ((i - ps.length) % ring.length) 0 + (((i - ps.length) / ring.length : Nat) : Int) * steps.getD ((i - ps.length) % ring.length) 0 := by unfold ruledAt; rw [if_neg (by omega)]
      show Q (.int (ring.getD ((i - ps.length) % ring.length) 0 + (((i - ps.length) / ring.length : Nat) : Int) * steps.getD ((i - ps.length) % ring.length) 0)) _
      rw [← e]
      exact k _ ⟨dx, p, q, u, sm _ _ ha1, (sqT_same hp1 sm), sqT_same hq1 sm, (sqT_same hu1 sm)⟩ fun c o z hc => sm _ _ (kp c o z hc)
end
/-! ### which tuples are trees: the checks let them by -/
/-- the tables of the top -/
structure TB (K : PySem.W.Frag) (w : World) (mg : Str → Option Value) (A : Ad) : Prop where
  dL : ∃ es n, KDict K w A.k_LENGTHS es n
  dC : ∃ es n, KDict K w A.k_CHECKS es n
  lens : ∀ x n, (x, n) ∈ ([("fraction", 3), ("root", 4), ("ruled", 4), ("four", 3), ("eight", 4), ("power", 3)] : List (Str × Int)) → ∃ t, PySem.W.nsIn K A.k_LENGTHS x = some (some (.int n t))
  chks : ∀ x y f, (x, y) ∈ ([("fraction", "check_fraction"), ("root", "check_root"), ("ruled", "check_ruled"), ("four", "check_four"), ("eight", "check_eight"), ("power", "check_power")] : List (Str × Str)) → mg y = some (.ref f) → PySem.W.nsIn K A.k_CHECKS x = some (some (.ref f))
section
variable {X : Cx} {k i : Nat} {x x' : Str} {ps : List Str} {sp : Sp} {e : Expr} {es : List Expr} {t : TA} {p pos : Pos}
theorem pe_cL (C : COk X.prog X.w X.K X.mg X.base CX0 k x' ps sp) (hr : Room k X.A) (hN : X.N[i]? = some x) (hv : Vis X.env.scope x) (ha : PA X (e :: es) t)
    (hdb : (x == ("__debug__" : Str)) = false := by decide) (hcd : (x == ("__classdict__" : Str)) = false := by decide)
    (he : starEach (e :: es) X.env = (false, eval e X.env) :: starEach es X.env := by rfl) (hpl : (backTo pos (starEach es X.env)).any (·.1) = false := by rfl) :
    PE X (.Call (.Name x p) (e :: es) [] pos) (fun σ H Q => (∀ f, X.mg x' = some (.ref f) → σ[i]? = some (some (.ref f))) ∧ t σ H fun vs H1 => sp (vs ++ []) H1 Q E0) := by
  obtain ⟨f, fd, F, a, b, c⟩ := C
  exact ⟨fun pins s σ H Q I h => (pe_callL (i := i) F hr hN hv b c .nil pass0 ha hdb hcd he hpl).run pins s σ H Q I ⟨h.1 f a, h.2⟩⟩
open PySem.Spec PyProof.Rows in
theorem ix_kd {d : Addr} (D : ∃ es n, KDict X.K X.w d es n) : IxR X (fun x y H Q => ∃ (z : Str) (u0 : Value) (v0 : V), x = .ref d ∧ y = .str z ∧ PySem.W.nsIn X.K d z = some (some u0) ∧ RelV v0 u0 ∧ Q v0 H) := by
  obtain ⟨es, n, D⟩ := D
  intro value slice pins s σ H x y v u Q I rx ry h hs
  have ht : s.TypeIs v "dict" := by
    obtain ⟨z, u0, v0, rfl, _⟩ := h
    cases rx
    exact kd_type D I
  exact tail_any ht PySem.F.slot_dict_getitem.lookup (op_item_kd D pins s σ H x y v u Q I rx ry h) hs
theorem op_in_kd' {d : Addr} (D : ∃ es n, KDict X.K X.w d es n) : OpR X (compareOp .In) (fun x y H Q => ∃ (z : Str) (r : Option Value), x = .str z ∧ y = .ref d ∧ PySem.W.nsIn X.K d z = some r ∧ Q (.bl r.isSome) H) := by
  obtain ⟨es, n, D⟩ := D
  exact op_in_kd D
end
theorem tyT {K : PySem.W.Frag} {H : Hp} {a : Addr} {xs : List V} (h : SqT K H a xs) : TyX K H (.ref a) (.type "tuple") := by
  rcases h with (h | ⟨o, h⟩) | ⟨o, its, n, h, c, _⟩
  · exact .base (.tup h)
  · exact .fTuple h
  · exact .kTuple h c
theorem cutV1 (x : V) (xs : List V) : cutV (x :: xs) (some 1) none = xs := by
  unfold cutV
  rw [show HT.sIx (x :: xs).length 0 (some 1) = min 1 (x :: xs).length from HT.sIx_nat _ 0 1, HT.sIx_none]
  rw [show min 1 (x :: xs).length = 1 by rw [List.length_cons]; omega]
  show List.take ((x :: xs).length - 1) xs = xs
  rw [List.length_cons, Nat.add_sub_cancel, List.take_length]
theorem cutV2 (x y : V) (xs : List V) : cutV (x :: y :: xs) (some 2) none = xs := by
  unfold cutV
  rw [show HT.sIx (x :: y :: xs).length 0 (some 2) = min 2 (x :: y :: xs).length from HT.sIx_nat _ 0 2, HT.sIx_none]
  rw [show min 2 (x :: y :: xs).length = 2 by rw [List.length_cons, List.length_cons]; omega]
  show List.take ((x :: y :: xs).length - 2) xs = xs
  rw [List.length_cons, List.length_cons, show xs.length + 1 + 1 - 2 = xs.length by omega, List.take_length]
theorem not_whole {xs : List V} {k : Nat} (hk : 0 < k) (h : k ≤ xs.length) : ¬ (HT.sIx xs.length 0 (some (k : Int)) = 0 ∧ HT.sIx xs.length xs.length none = xs.length) := fun z => by
  have := z.1
  rw [HT.sIx_nat] at this
  omega
section
variable {P : Program} {w : World} {K : PySem.W.Frag} {mg : Str → Option Value} {base : Heap} {A : Ad}
/-- require lets by what holds -/
def sp_require : Sp := fun vs H Q _ => ∃ b y, vs = [.bl b, y] ∧ b = true ∧ Q .non H
theorem ok_require (D : DT K mg A) : COk P w K mg base CX0 1 "require" ["holds", "why"] sp_require := by
  refine COk.by D.require fun f fd F => ?_
  refine F.ok sc_require (fun vs H Q E h => ?_) (fun cdv Ar outer s H vs Q E hr h => ?_)
  · obtain ⟨b, y, rfl, _⟩ := h
    rfl
  · obtain ⟨b, y, rfl, rfl, k⟩ := h
    refine ⟨_, (pss_one (ps_if (pt_not (pt_val (pv 0)))
      (pss_one ps_never) pss_nil)), ?_⟩
    exact ⟨_, rfl, true, rfl, iteF k⟩
def sp_is_whole : Sp := fun vs H Q _ => ∃ i : Int, vs = [.int i] ∧ Q (.bl true) H
theorem ok_is_whole (T : CT K mg A) (D : DT K mg A) : COk P w K mg base CX0 1 "is_whole" ["number"] sp_is_whole := by
  refine COk.by D.is_whole fun f fd F => ?_
  refine F.ok sc_is_whole (fun vs H Q E h => ?_) (fun cdv Ar outer s H vs Q E hr h => ?_)
  · obtain ⟨i, rfl, _⟩ := h
    rfl
  · obtain ⟨i, rfl, k⟩ := h
    refine ⟨_, (pss_one (ps_ret (pe_and (pe_callB call_isi (by rfl) T.b_isinstance (by decide +kernel) (pa_cons (pv 0) (pa_cons (pe_bltn (v := .ty "int") (by rfl) T.b_int (by decide +kernel) rfl) pa_nil))) (pe_one (pe_not (pe_callB call_isi (by rfl) T.b_isinstance (by decide +kernel) (pa_cons (pv 0) (pa_cons (pe_bltn (v := .ty "bool") (by rfl) T.b_bool (by decide +kernel) rfl) pa_nil)))))))), ?_⟩
    refine ⟨_, rfl, _, _, _, _, true, rfl, .ty "int", .base (.int i), kit_ty (by decide +kernel), _, rfl, iteT ?_⟩
    exact ⟨_, rfl, _, _, _, _, false, rfl, .ty "bool", .base (.int i), kit_ty (by decide +kernel), _, rfl, k⟩
/-- a row of whole numbers, so many, none beyond 10 ** 12 -/
def sp_check_row (K : PySem.W.Frag) : Sp := fun vs H Q _ => ∃ (a : Addr) (ns : List Int) (lo hi : Int), vs = [.ref a, .int lo, .int hi] ∧ SqT K H a (ns.map V.int) ∧ lo ≤ ns.length ∧ (ns.length : Int) ≤ hi ∧ (∀ z ∈ ns, tame z) ∧ Q .non H
theorem ok_check_row (T : CT K mg A) (D : DT K mg A) : COk P w K mg base CX0 2 "check_row" ["row", "fewest", "most"] (sp_check_row K) := by
  have G_require : COk P w K mg base CX0 1 "require" ["holds", "why"] sp_require := ok_require D
  have G_is_whole : COk P w K mg base CX0 1 "is_whole" ["number"] sp_is_whole := ok_is_whole T D
  refine COk.by D.check_row fun f fd F => ?_
  refine F.ok sc_check_row (fun vs H Q E h => ?_) (fun cdv Ar outer s H vs Q E hr h => ?_)
  · obtain ⟨a, ns, lo, hi, rfl, _⟩ := h
    rfl
  · obtain ⟨a, ns, lo, hi, rfl, ha, h1, h2, ht, k⟩ := h
    obtain ⟨tN, gi_MOST_NUMBER⟩ := T.i_MOST_NUMBER
    refine ⟨_, (pss_cons (ps_expr (pe_c G_require (hr.mono (by first | decide | omega)) (pa_cons (pe_callB call_isi (by rfl) T.b_isinstance (by decide +kernel) (pa_cons (pv 0) (pa_cons (pe_bltn (v := .ty "tuple") (by rfl) T.b_tuple (by decide +kernel) rfl) pa_nil))) (pa_cons pe_str pa_nil))))
    (pss_cons (ps_expr (pe_c G_require (hr.mono (by first | decide | omega)) (pa_cons (pe_chain op_le op_le (pv 1) (pe_callB call_len_seq (by rfl) T.b_len (by decide +kernel) (pa_cons (pv 0) pa_nil)) (pv 2)) (pa_cons pe_str pa_nil))))
    (pss_one (ps_for PassesOwn.never rfl (pi_tup (pv 0)) (pg_name (i := 3) sc_check_row.nd rfl (Or.inl rfl))
      (pss_cons (ps_expr (pe_c G_require (hr.mono (by first | decide | omega)) (pa_cons (pe_c G_is_whole (hr.mono (by first | decide | omega)) (pa_cons (pv 3) pa_nil)) (pa_cons pe_str pa_nil))))
    (pss_one (ps_expr (pe_c G_require (hr.mono (by first | decide | omega)) (pa_cons (pe_chain op_le op_le (pe_un un_neg (pe_glob (v := .int 1000000000000) (by rfl) gi_MOST_NUMBER ⟨_, rfl⟩)) (pv 3) (pe_glob (v := .int 1000000000000) (by rfl) gi_MOST_NUMBER ⟨_, rfl⟩)) (pa_cons pe_str pa_nil)))))))))), ?_⟩
    have hl : (ns.map V.int).length = ns.length := List.length_map _
    refine ⟨_, rfl, _, _, _, _, true, rfl, .ty "tuple", tyT ha, kit_ty (by decide +kernel), _, _, rfl, rfl, ?_⟩
    refine ⟨_, rfl, _, rfl, a, _, rfl, .inr ha, _, _, rfl, rfl, _, rfl, ?_⟩
    rw [decide_eq_true (by rw [hl]; exact h1)]
    refine iteT ⟨_, rfl, _, _, rfl, rfl, _, _, rfl, decide_eq_true (by rw [hl]; exact h2), ?_⟩
    refine ⟨_, rfl, a, rfl, ⟨_, ha⟩, for_tup (K := K) (a := a) (xs := ns.map V.int) (fun i σ H2 => ∃ v : Option V, σ = [some (.ref a), some (.int lo), some (.int hi), v] ∧ H2 = H)
      ⟨none, rfl, rfl⟩ (fun i σ H2 _ ⟨_, _, e⟩ => by rw [e]; exact ha) ?_ ?_⟩
    · rintro i y σ H2 hi ⟨v, rfl, rfl⟩
      obtain ⟨z, hz, rfl⟩ : ∃ z, z ∈ ns ∧ y = V.int z := by
        rw [List.getElem?_map] at hi
        cases e : ns[i]? with
        | none => rw [e] at hi; cases hi
        | some z => rw [e] at hi; exact ⟨z, List.mem_of_getElem? e, (Option.some.inj hi).symm⟩
      obtain ⟨z1, z2⟩ := ht z hz
      refine ⟨_, rfl, z, rfl, _, _, rfl, rfl, ?_⟩
      refine ⟨_, rfl, _, rfl, _, _, rfl, rfl, _, rfl, ?_⟩
      rw [decide_eq_true (show (-1000000000000 : Int) ≤ z from z1)]
      exact iteT ⟨_, _, rfl, rfl, _, _, rfl, decide_eq_true (show z ≤ (1000000000000 : Int) from z2), ⟨_, rfl, rfl⟩⟩
    · rintro σ H2 ⟨v, rfl, rfl⟩
      exact k
/-! the leaves -/
def sp_check_fraction (K : PySem.W.Frag) : Sp := fun vs H Q _ => ∃ (a : Addr) (t b d : Int), vs = [.ref a, .int d] ∧ SqT K H a [.str "fraction", .int t, .int b] ∧ tame t ∧ tame b ∧ b ≠ 0 ∧ ∀ H', Same H H' → Q .non H'
theorem ok_check_fraction (T : CT K mg A) (D : DT K mg A) : COk P w K mg base CX0 3 "check_fraction" ["tree", "depth"] (sp_check_fraction K) := by
  have G_require : COk P w K mg base CX0 1 "require" ["holds", "why"] sp_require := ok_require D
  have G_check_row : COk P w K mg base CX0 2 "check_row" ["row", "fewest", "most"] (sp_check_row K) := ok_check_row T D
  refine COk.by D.check_fraction fun f fd F => ?_
  refine F.ok sc_check_fraction (fun vs H Q E h => ?_) (fun cdv Ar outer s H vs Q E hr h => ?_)
  · obtain ⟨a, t, b, d, rfl, _⟩ := h
    rfl
  · obtain ⟨a, t, b, d, rfl, ha, ht, hb, h0, k⟩ := h
    refine ⟨_, (pss_cons (ps_expr (pe_c G_check_row (hr.mono (by first | decide | omega)) (pa_cons (pe_slice sl_tup (pv 0) (po_some pe_int) po_none) (pa_cons pe_int (pa_cons pe_int pa_nil)))))
    (pss_one (ps_expr (pe_c G_require (hr.mono (by first | decide | omega)) (pa_cons (pe_cmpR op_ne (pe_ix ix_tup (pv 0) pe_int (fun _ _ => rfl)) pe_int (nomark _)) (pa_cons pe_str pa_nil)))))), ?_⟩
    refine ⟨_, rfl, 1, rfl, a, _, rfl, ha, not_whole (k := 1) (by decide) (by show 1 ≤ 3; decide), fun p np => ?_⟩
    rw [cutV1]
    have sm := same_upd (o := .tup [V.int t, .int b]) np
    refine ⟨p, [t, b], 2, 2, rfl, SqT.of upd_same, (by show (2 : Int) ≤ 2; decide), (by show (2 : Int) ≤ 2; decide), ?_, ?_⟩
    · intro z hz
      simp only [List.mem_cons, List.not_mem_nil, or_false] at hz
      rcases hz with rfl | rfl
      · exact ht
      · exact hb
    refine ⟨_, rfl, a, _, 2, _, rfl, rfl, sqT_same ha sm, atI_nat (j := 2) rfl, rfl, _, _, rfl, ?_, k _ sm⟩
    rw [decide_eq_false (fun z => h0 (V.int.inj z))]
    rfl
def sp_check_root (K : PySem.W.Frag) : Sp := fun vs H Q _ => ∃ (a : Addr) (t s b d : Int), vs = [.ref a, .int d] ∧ SqT K H a [.str "root", .int t, .int s, .int b] ∧ tame t ∧ tame s ∧ 0 ≤ s ∧ tame b ∧ b ≠ 0 ∧ ∀ H', Same H H' → Q .non H'
theorem ok_check_root (T : CT K mg A) (D : DT K mg A) : COk P w K mg base CX0 3 "check_root" ["tree", "depth"] (sp_check_root K) := by
  have G_require : COk P w K mg base CX0 1 "require" ["holds", "why"] sp_require := ok_require D
  have G_check_row : COk P w K mg base CX0 2 "check_row" ["row", "fewest", "most"] (sp_check_row K) := ok_check_row T D
  refine COk.by D.check_root fun f fd F => ?_
  refine F.ok sc_check_root (fun vs H Q E h => ?_) (fun cdv Ar outer s H vs Q E hr h => ?_)
  · obtain ⟨a, t, s, b, d, rfl, _⟩ := h
    rfl
  · obtain ⟨a, t, sq, b, d, rfl, ha, ht, hs, hs0, hb, h0, k⟩ := h
    refine ⟨_, (pss_cons (ps_expr (pe_c G_check_row (hr.mono (by first | decide | omega)) (pa_cons (pe_slice sl_tup (pv 0) (po_some pe_int) po_none) (pa_cons pe_int (pa_cons pe_int pa_nil)))))
    (pss_cons (ps_expr (pe_c G_require (hr.mono (by first | decide | omega)) (pa_cons (pe_cmpR op_ge (pe_ix ix_tup (pv 0) pe_int (fun _ _ => rfl)) pe_int (nomark _)) (pa_cons pe_str pa_nil))))
    (pss_one (ps_expr (pe_c G_require (hr.mono (by first | decide | omega)) (pa_cons (pe_cmpR op_ne (pe_ix ix_tup (pv 0) pe_int (fun _ _ => rfl)) pe_int (nomark _)) (pa_cons pe_str pa_nil))))))), ?_⟩
    refine ⟨_, rfl, 1, rfl, a, _, rfl, ha, not_whole (k := 1) (by decide) (by show 1 ≤ 4; decide), fun p np => ?_⟩
    rw [cutV1]
    have sm := same_upd (o := .tup [V.int t, .int sq, .int b]) np
    refine ⟨p, [t, sq, b], 3, 3, rfl, SqT.of upd_same, (by show (3 : Int) ≤ 3; decide), (by show (3 : Int) ≤ 3; decide), ?_, ?_⟩
    · intro z hz
      simp only [List.mem_cons, List.not_mem_nil, or_false] at hz
      rcases hz with rfl | rfl | rfl
      · exact ht
      · exact hs
      · exact hb
    refine ⟨_, rfl, a, _, 2, _, rfl, rfl, sqT_same ha sm, atI_nat (j := 2) rfl, _, _, rfl, rfl, _, _, rfl, decide_eq_true hs0, ?_⟩
    refine ⟨_, rfl, a, _, 3, _, rfl, rfl, sqT_same ha sm, atI_nat (j := 3) rfl, rfl, _, _, rfl, ?_, k _ sm⟩
    rw [decide_eq_false (fun z => h0 (V.int.inj z))]
    rfl
/-- the rules of a ruled chain -/
structure RuledGood (ps ring steps : List Int) : Prop extends RuledOk ps ring steps where
  one : ∀ z ∈ ps.tail ++ ring, 1 ≤ z
  nn : ∀ z ∈ steps, 0 ≤ z
  last : ring = [] → ps.length = 1 ∨ ∃ z, ps.getLast? = some z ∧ 2 ≤ z
def sp_check_ruled (K : PySem.W.Frag) : Sp := fun vs H Q _ => ∃ (a p q u : Addr) (ps ring steps : List Int) (d : Int), vs = [.ref a, .int d] ∧ SqT K H a [.str "ruled", .ref p, .ref q, .ref u] ∧ SqT K H p (ps.map V.int) ∧ SqT K H q (ring.map V.int) ∧ SqT K H u (steps.map V.int) ∧ RuledGood ps ring steps ∧ ∀ H', Same H H' → Q .non H'
theorem same_list {K : PySem.W.Frag} {H H' : Hp} {D a : Addr} {xs acc : List V} (k : ∀ b o, H b = some o → b ≠ D → H' b = some o) (hD : H D = some (.lst acc)) (h : SqT K H a xs) : SqT K H' a xs :=
  sqT_but (N := fun b => b = D) h k fun b o e z => by
    subst e
    rw [hD] at z
    cases z
    exact ⟨fun _ q => (by cases q), fun _ _ q => (by cases q)⟩
/-- t + u: some tuple of both -/
def rCatC (K : PySem.W.Frag) : R2 := fun x y H Q => ∃ a b xs ys, x = .ref a ∧ y = .ref b ∧ SqT K H a xs ∧ SqT K H b ys ∧ xs.length + ys.length ≤ sizeLine ∧ ∀ c H', Same H H' → SqT K H' c (xs ++ ys) → Q (.ref c) H'
theorem op_catC {X : Cx} : OpR X (binaryOp .Add) (rCatC X.K) := by
  intro pins s σ H x y v u Q I rx ry h
  obtain ⟨a, b, xs, ys, ex, ey, ha, hb, hz, q⟩ := h
  refine op_catA pins s σ H x y v u Q I rx ry ⟨a, b, xs, ys, ex, ey, ha, hb, hz, fun z => ?_, fun _ z => ?_, fun _ _ p hp => ?_⟩
  · subst z
    exact q b H (.refl H) hb
  · subst z
    exact q a H (.refl H) (by rw [List.append_nil]; exact ha)
  · exact q p _ (same_upd hp) (SqT.of upd_same)
theorem at_last {ns : List Int} {z : Int} (h : ns.getLast? = some z) : atI (ns.map V.int) (-1) = some (.int z) := by
  obtain ⟨i, rfl⟩ := List.getLast?_eq_some_iff.mp h
  rw [List.map_append]
  exact atI_last _ _
theorem all_true (n : Nat) : (List.replicate n true).all id = true := by
  induction n with
  | zero => rfl
  | succ n ih => rw [List.replicate_succ, List.all_cons, ih]; rfl
theorem rep_succ (i : Nat) : (List.replicate i true).map V.bl ++ [V.bl true] = (List.replicate (i + 1) true).map V.bl := by
  rw [List.replicate_succ', List.map_append]
  rfl
theorem ok_check_ruled (T : CT K mg A) (D : DT K mg A) : COk P w K mg base CX0 3 "check_ruled" ["tree", "depth"] (sp_check_ruled K) := by
  have G_require : COk P w K mg base CX0 1 "require" ["holds", "why"] sp_require := ok_require D
  have G_check_row : COk P w K mg base CX0 2 "check_row" ["row", "fewest", "most"] (sp_check_row K) := ok_check_row T D
  obtain ⟨tP, gi_MOST_PARTS⟩ := T.i_MOST_PARTS
  refine COk.by D.check_ruled fun f fd F => ?_
  refine F.ok sc_check_ruled (fun vs H Q E h => ?_) (fun cdv Ar outer s H vs Q E hr h => ?_)
  · obtain ⟨a, p, q, u, ps, ring, steps, d, rfl, _⟩ := h
    rfl
  · obtain ⟨a, p, q, u, ps, ring, steps, d, rfl, ha, hp, hq, hu, G, k⟩ := h
    obtain ⟨⟨p1, p12, r12, sl, tp, tr, ts⟩, one, nn, last⟩ := G
    refine ⟨_, (pss_cons (ps_asg (pe_slice sl_tup (pv 0) (po_some pe_int) po_none) (pg_tup rfl (pgs_cons (pg_name (i := 2) sc_check_ruled.nd rfl (Or.inl rfl)) (pgs_cons (pg_name (i := 3) sc_check_ruled.nd rfl (Or.inl rfl)) (pgs_cons (pg_name (i := 4) sc_check_ruled.nd rfl (Or.inl rfl)) pgs_nil)))))
    (pss_cons (ps_expr (pe_c G_check_row (hr.mono (by first | decide | omega)) (pa_cons (pv 2) (pa_cons pe_int (pa_cons (pe_glob (v := .int 12) (by rfl) gi_MOST_PARTS ⟨_, rfl⟩) pa_nil)))))
    (pss_cons (ps_expr (pe_c G_check_row (hr.mono (by first | decide | omega)) (pa_cons (pv 3) (pa_cons pe_int (pa_cons (pe_glob (v := .int 12) (by rfl) gi_MOST_PARTS ⟨_, rfl⟩) pa_nil)))))
    (pss_cons (ps_expr (pe_c G_check_row (hr.mono (by first | decide | omega)) (pa_cons (pv 4) (pa_cons (pe_callB call_len_seq (by rfl) T.b_len (by decide +kernel) (pa_cons (pv 3) pa_nil)) (pa_cons (pe_callB call_len_seq (by rfl) T.b_len (by decide +kernel) (pa_cons (pv 3) pa_nil)) pa_nil)))))
    (pss_cons (ps_expr (pe_c G_require (hr.mono (by first | decide | omega)) (pa_cons (pe_callB (cr_all rfl) (by rfl) T.b_all (by decide +kernel) (pa_cons (pe_lc (own := [("part", 5)]) (g := gName 5) (tt := tYes) rfl sc_check_ruled.nd (pi_tup (pe_op op_catC (pe_slice sl_tup (pv 2) (po_some pe_int) po_none) (pv 3))) (blkOk_by (own := [("part", 5)]) (N := ["tree", "depth", "parts", "ring", "steps", "part", "step", "ends"]) (sc := defScope s_check_ruled) (by decide +kernel)) (fun _ _ _ _ _ => (pg_name (i := 5) sc_check_ruled.nd rfl (Or.inl rfl))) (fun _ _ _ _ _ => pts_nil) (fun _ _ _ _ _ => (pe_cmpR op_ge (pv 5) pe_int (nomark _)))) pa_nil)) (pa_cons pe_str pa_nil))))
    (pss_cons (ps_expr (pe_c G_require (hr.mono (by first | decide | omega)) (pa_cons (pe_callB (cr_all rfl) (by rfl) T.b_all (by decide +kernel) (pa_cons (pe_lc (own := [("step", 6)]) (g := gName 6) (tt := tYes) rfl sc_check_ruled.nd (pi_tup (pv 4)) (blkOk_by (own := [("step", 6)]) (N := ["tree", "depth", "parts", "ring", "steps", "part", "step", "ends"]) (sc := defScope s_check_ruled) (by decide +kernel)) (fun _ _ _ _ _ => (pg_name (i := 6) sc_check_ruled.nd rfl (Or.inl rfl))) (fun _ _ _ _ _ => pts_nil) (fun _ _ _ _ _ => (pe_cmpR op_ge (pv 6) pe_int (nomark _)))) pa_nil)) (pa_cons pe_str pa_nil))))
    (pss_cons (ps_set (i := 7) sc_check_ruled.nd rfl (Or.inl rfl) (pe_cmpR op_eq (pe_callB call_len_seq (by rfl) T.b_len (by decide +kernel) (pa_cons (pv 3) pa_nil)) pe_int (nomark _)))
    (pss_one (ps_expr (pe_c G_require (hr.mono (by first | decide | omega)) (pa_cons (pe_or (pe_not (pv 7)) (pe_or (pe_cmpR op_eq (pe_callB call_len_seq (by rfl) T.b_len (by decide +kernel) (pa_cons (pv 2) pa_nil)) pe_int (nomark _)) (pe_one (pe_cmpR op_ge (pe_ix ix_tup (pv 2) (pe_un un_neg pe_int) (fun _ _ => rfl)) pe_int (nomark _))))) (pa_cons pe_str pa_nil)))))))))))), ?_⟩
    refine ⟨_, rfl, 1, rfl, a, _, rfl, ha, not_whole (k := 1) (by decide) (by show 1 ≤ 4; decide), fun z nz => ?_⟩
    rw [cutV1]
    have sm := same_upd (o := .tup [V.ref p, .ref q, .ref u]) nz
    refine ⟨z, _, rfl, SqT.of upd_same, rfl, _, _, rfl, _, _, rfl, _, _, rfl, rfl, ?_⟩
    have hp1 := sqT_same hp sm
    have hq1 := sqT_same hq sm
    have hu1 := sqT_same hu sm
    generalize upd H z (.tup [V.ref p, .ref q, .ref u]) = H1 at *
    have lr : (ring.map V.int).length = ring.length := List.length_map _
    have lp : (ps.map V.int).length = ps.length := List.length_map _
    have lp0 : 0 < ps.length := List.length_pos_iff.mpr p1
    refine ⟨_, rfl, p, ps, _, _, rfl, hp1, (by show (1 : Int) ≤ ps.length; omega), (by show (ps.length : Int) ≤ 12; omega), tp, ?_⟩
    refine ⟨_, rfl, q, ring, _, _, rfl, hq1, (by show (0 : Int) ≤ ring.length; omega), (by show (ring.length : Int) ≤ 12; omega), tr, ?_⟩
    refine ⟨_, rfl, _, rfl, q, _, rfl, .inr hq1, _, rfl, q, _, rfl, .inr hq1, u, steps, _, _, rfl, hu1, (by rw [lr]; omega), (by rw [lr]; omega), ts, ?_⟩
    -- all parts but the first, and the ring's, are 1 or more
    obtain ⟨p0, pt, rfl⟩ : ∃ p0 pt, ps = p0 :: pt := by
      cases ps with
      | nil => exact absurd rfl p1
      | cons x y => exact ⟨x, y, rfl⟩
    refine ⟨_, rfl, 1, rfl, p, _, rfl, hp1, not_whole (k := 1) (by decide) (by rw [lp]; exact lp0), fun y ny => ?_⟩
    have ec : cutV ((p0 :: pt).map V.int) (some 1) none = pt.map V.int := cutV1 _ _
    rw [ec]
    have sy := same_upd (o := .tup (pt.map V.int)) ny
    have hpt : SqT K (upd H1 y (.tup (pt.map V.int))) y (pt.map V.int) := SqT.of upd_same
    have hq2 := sqT_same hq1 sy
    refine ⟨_, rfl, y, q, _, _, rfl, rfl, hpt, hq2, ?_, fun c H2 s2 hc => ?_⟩
    · rw [List.length_map, lr]
      rw [List.length_cons] at p12
      exact Nat.le_trans (show pt.length + ring.length ≤ 24 by omega) (by decide)
    rw [← List.map_append] at hc
    have hall : ∀ x ∈ pt ++ ring, 1 ≤ x := one
    have hln : (pt ++ ring).length ≤ 30 := by
      rw [List.length_append]
      rw [List.length_cons] at p12
      omega
    generalize pt ++ ring = row at hc hall hln
    have lrow : (row.map V.int).length = row.length := List.length_map _
    refine ⟨c, rfl, ⟨_, hc⟩, fun D0 nD => lc_tup (K := K) (a := c) (xs := row.map V.int) (fun i H' => i ≤ row.length ∧ H' D0 = some (.lst ((List.replicate i true).map V.bl)) ∧ Same H2 H') ⟨Nat.zero_le _, upd_same, same_upd nD⟩ (fun i H' _ z => sqT_same hc z.2.2) ?_ ?_⟩
    · rintro i y H' hi ⟨hle, hD, sH⟩
      obtain ⟨x, hx, rfl⟩ : ∃ x, x ∈ row ∧ y = V.int x := by
        rw [List.getElem?_map] at hi
        cases e : row[i]? with
        | none => rw [e] at hi; cases hi
        | some z => rw [e] at hi; exact ⟨z, List.mem_of_getElem? e, (Option.some.inj hi).symm⟩
      have hil : i < row.length := by
        have := (List.getElem?_eq_some_iff.mp hi).1
        rw [lrow] at this
        exact this
      refine ⟨rfl, _, rfl, _, _, rfl, rfl, _, hD, ?_, hil, ?_, fun b o e => ?_⟩
      · rw [List.length_map, List.length_replicate]
        exact Nat.lt_of_lt_of_le (show i < 31 by omega) (by decide)
      · rw [upd_same, ← rep_succ]
        show some (HO.lst ((List.replicate i true).map V.bl ++ [V.bl (decide (1 ≤ x))])) = _
        rw [decide_eq_true (hall x hx)]
      · rw [upd_ne (ne_of_none e nD)]
        exact sH b o e
    · rintro H3 ⟨_, hD, s3⟩
      rw [lrow] at hD
      refine ⟨D0, _, rfl, SqL.of hD, _, _, rfl, all_true _, ?_⟩
      -- steps are 0 or more
      have hu3 := sqT_same (sqT_same (sqT_same hu1 sy) s2) s3
      have lst : (steps.map V.int).length = steps.length := List.length_map _
      refine ⟨_, rfl, u, rfl, ⟨_, hu3⟩, fun D1 nD1 => lc_tup (K := K) (a := u) (xs := steps.map V.int) (fun i H' => i ≤ steps.length ∧ H' D1 = some (.lst ((List.replicate i true).map V.bl)) ∧ Same H3 H') ⟨Nat.zero_le _, upd_same, same_upd nD1⟩ (fun i H' _ z => sqT_same hu3 z.2.2) ?_ ?_⟩
      · rintro i y H' hi ⟨hle, hD, sH⟩
        obtain ⟨x, hx, rfl⟩ : ∃ x, x ∈ steps ∧ y = V.int x := by
          rw [List.getElem?_map] at hi
          cases e : steps[i]? with
          | none => rw [e] at hi; cases hi
          | some z => rw [e] at hi; exact ⟨z, List.mem_of_getElem? e, (Option.some.inj hi).symm⟩
        have hil : i < steps.length := by
          have := (List.getElem?_eq_some_iff.mp hi).1
          rw [lst] at this
          exact this
        refine ⟨rfl, _, rfl, _, _, rfl, rfl, _, hD, ?_, hil, ?_, fun b o e => ?_⟩
        · rw [List.length_map, List.length_replicate]
          exact Nat.lt_of_lt_of_le (show i < 31 by omega) (by decide)
        · rw [upd_same, ← rep_succ]
          show some (HO.lst ((List.replicate i true).map V.bl ++ [V.bl (decide (0 ≤ x))])) = _
          rw [decide_eq_true (nn x hx)]
        · rw [upd_ne (ne_of_none e nD1)]
          exact sH b o e
      · rintro H4 ⟨_, hD1, s4⟩
        rw [lst] at hD1
        refine ⟨D1, _, rfl, SqL.of hD1, _, _, rfl, all_true _, ?_⟩
        have s14 : Same H1 H4 := ((sy.trans s2).trans s3).trans s4
        have hq4 := sqT_same hq1 s14
        have hp4 := sqT_same hp1 s14
        -- the last part of a chain that ends
        refine ⟨_, rfl, q, _, rfl, .inr hq4, rfl, ?_⟩
        refine ⟨_, rfl, _, rfl, _, rfl, ?_⟩
        by_cases cr : ring = []
        · have e1 : decide (V.int (((ring.map V.int).length : Nat) : Int) = V.int 0) = true := by rw [cr]; rfl
          rw [e1]
          refine iteF ⟨_, rfl, p, _, rfl, .inr hp4, rfl, _, rfl, ?_⟩
          rcases last cr with h1 | ⟨z, hz, z2⟩
          · have e2 : decide (V.int ((((p0 :: pt).map V.int).length : Nat) : Int) = V.int 1) = true := decide_eq_true (by rw [lp, h1]; rfl)
            rw [e2]
            exact iteT ⟨_, _, rfl, rfl, k _ (sm.trans s14)⟩
          · by_cases c2 : decide (V.int ((((p0 :: pt).map V.int).length : Nat) : Int) = V.int 1) = true
            · rw [c2]
              exact iteT ⟨_, _, rfl, rfl, k _ (sm.trans s14)⟩
            · rw [Bool.not_eq_true] at c2
              rw [c2]
              refine iteF ⟨_, rfl, 1, rfl, p, _, _, _, rfl, rfl, hp4, at_last hz, _, _, rfl, rfl, _, _, rfl, decide_eq_true z2, k _ (sm.trans s14)⟩
        · have e1 : decide (V.int (((ring.map V.int).length : Nat) : Int) = V.int 0) = false := by rw [len_eq_nil]; exact decide_eq_false cr
          rw [e1]
          exact iteT ⟨_, _, rfl, rfl, k _ (sm.trans s14)⟩
end
/-! ### check_at_depth: by the word's own check -/
def sp_check_at (K : PySem.W.Frag) (sF sR sU sO sE sP : Sp) : Sp := fun vs H Q _ => ∃ (a : Addr) (word : Str) (rest : List V) (d : Int), vs = [.ref a, .int d] ∧ d ≤ 5 ∧ SqT K H a (.str word :: rest) ∧
  ((word = "fraction" ∧ rest.length = 2 ∧ sF [.ref a, .int d] H (fun _ => Q .non) E0) ∨ (word = "root" ∧ rest.length = 3 ∧ sR [.ref a, .int d] H (fun _ => Q .non) E0) ∨ (word = "ruled" ∧ rest.length = 3 ∧ sU [.ref a, .int d] H (fun _ => Q .non) E0) ∨
   (word = "four" ∧ rest.length = 2 ∧ sO [.ref a, .int d] H (fun _ => Q .non) E0) ∨ (word = "eight" ∧ rest.length = 3 ∧ sE [.ref a, .int d] H (fun _ => Q .non) E0) ∨ (word = "power" ∧ rest.length = 2 ∧ sP [.ref a, .int d] H (fun _ => Q .non) E0))
section
variable {P : Program} {w : World} {K : PySem.W.Frag} {mg : Str → Option Value} {base : Heap} {A : Ad}
theorem ok_check_at_depth {k : Nat} {sF sR sU sO sE sP : Sp} (T : CT K mg A) (TT : TB K w mg A) (D : DT K mg A) (hk : 1 ≤ k)
    (G_check_fraction : COk P w K mg base CX0 k "check_fraction" ["tree", "depth"] sF) (G_check_root : COk P w K mg base CX0 k "check_root" ["tree", "depth"] sR) (G_check_ruled : COk P w K mg base CX0 k "check_ruled" ["tree", "depth"] sU)
    (G_check_four : COk P w K mg base CX0 k "check_four" ["tree", "depth"] sO) (G_check_eight : COk P w K mg base CX0 k "check_eight" ["tree", "depth"] sE) (G_check_power : COk P w K mg base CX0 k "check_power" ["tree", "depth"] sP) :
    COk P w K mg base CX0 (k + 1) "check_at_depth" ["tree", "depth"] (sp_check_at K sF sR sU sO sE sP) := by
  have G_require : COk P w K mg base CX0 k "require" ["holds", "why"] sp_require := (ok_require D).mono hk
  obtain ⟨tD, gi_MOST_DEPTH⟩ := T.i_MOST_DEPTH
  refine COk.by D.check_at_depth fun f fd F => ?_
  refine F.ok sc_check_at_depth (fun vs H Q E h => ?_) (fun cdv Ar outer s H vs Q E hr h => ?_)
  · obtain ⟨a, word, rest, d, rfl, _⟩ := h
    rfl
  · obtain ⟨a, word, rest, d, rfl, hd, ha, hw⟩ := h
    refine ⟨_, (pss_cons (ps_expr (pe_c G_require (hr.mono (by first | decide | omega)) (pa_cons (pe_cmpR op_le (pv 1) (pe_glob (v := .int 5) (by rfl) gi_MOST_DEPTH ⟨_, rfl⟩) (nomark _)) (pa_cons pe_str pa_nil))))
    (pss_cons (ps_expr (pe_c G_require (hr.mono (by first | decide | omega)) (pa_cons (pe_and (pe_callB call_isi (by rfl) T.b_isinstance (by decide +kernel) (pa_cons (pv 0) (pa_cons (pe_bltn (v := .ty "tuple") (by rfl) T.b_tuple (by decide +kernel) rfl) pa_nil))) (pe_one (pe_cmpR op_gt (pe_callB call_len_seq (by rfl) T.b_len (by decide +kernel) (pa_cons (pv 0) pa_nil)) pe_int (nomark _)))) (pa_cons pe_str pa_nil))))
    (pss_cons (ps_set (i := 2) sc_check_at_depth.nd rfl (Or.inl rfl) (pe_ix ix_tup (pv 0) pe_int (fun _ _ => rfl)))
    (pss_cons (ps_expr (pe_c G_require (hr.mono (by first | decide | omega)) (pa_cons (pe_and (pe_callB call_isi (by rfl) T.b_isinstance (by decide +kernel) (pa_cons (pv 2) (pa_cons (pe_bltn (v := .ty "str") (by rfl) T.b_str (by decide +kernel) rfl) pa_nil))) (pe_one (pe_cmpR (op_in_kd' TT.dL) (pv 2) (pe_glob (v := .ref A.k_LENGTHS) (by rfl) T.g_LENGTHS rfl) rfl))) (pa_cons pe_str pa_nil))))
    (pss_cons (ps_expr (pe_c G_require (hr.mono (by first | decide | omega)) (pa_cons (pe_cmpR op_eq (pe_callB call_len_seq (by rfl) T.b_len (by decide +kernel) (pa_cons (pv 0) pa_nil)) (pe_ix (ix_kd TT.dL) (pe_glob (v := .ref A.k_LENGTHS) (by rfl) T.g_LENGTHS rfl) (pv 2) (fun _ _ => rfl)) (nomark _)) (pa_cons pe_str pa_nil))))
    (pss_cons (ps_set (i := 3) sc_check_at_depth.nd rfl (Or.inl rfl) (pe_ix (ix_kd TT.dC) (pe_glob (v := .ref A.k_CHECKS) (by rfl) T.g_CHECKS rfl) (pv 2) (fun _ _ => rfl)))
    (pss_one (ps_expr ((pe_alt (pe_cL G_check_fraction hr (i := 3) rfl (Or.inl rfl) (pa_cons (pv 0) (pa_cons (pv 1) pa_nil))) (pe_alt (pe_cL G_check_root hr (i := 3) rfl (Or.inl rfl) (pa_cons (pv 0) (pa_cons (pv 1) pa_nil))) (pe_alt (pe_cL G_check_ruled hr (i := 3) rfl (Or.inl rfl) (pa_cons (pv 0) (pa_cons (pv 1) pa_nil))) (pe_alt (pe_cL G_check_four hr (i := 3) rfl (Or.inl rfl) (pa_cons (pv 0) (pa_cons (pv 1) pa_nil))) (pe_alt (pe_cL G_check_eight hr (i := 3) rfl (Or.inl rfl) (pa_cons (pv 0) (pa_cons (pv 1) pa_nil))) (pe_cL G_check_power hr (i := 3) rfl (Or.inl rfl) (pa_cons (pv 0) (pa_cons (pv 1) pa_nil))))))))))))))))), ?_⟩
    -- depth
    refine ⟨_, rfl, _, _, rfl, rfl, _, _, rfl, decide_eq_true hd, ?_⟩
    -- a tuple of something
    refine ⟨_, rfl, _, _, _, _, true, rfl, .ty "tuple", tyT ha, kit_ty (by decide +kernel), _, rfl, iteT ⟨_, rfl, a, _, rfl, .inr ha, _, _, rfl, rfl, _, _, rfl, decide_eq_true (by rw [List.length_cons]; omega), ?_⟩⟩
    refine ⟨_, rfl, a, _, 0, .str word, rfl, rfl, ha, atI_nat (j := 0) rfl, ?_⟩
    have key : ∀ {n : Int}, (word, n) ∈ ([("fraction", 3), ("root", 4), ("ruled", 4), ("four", 3), ("eight", 4), ("power", 3)] : List (Str × Int)) → n = (rest.length : Int) + 1 → ∃ t, PySem.W.nsIn K A.k_LENGTHS word = some (some (.int ((rest.length : Int) + 1) t)) := fun {n} hm e => by
      rw [← e]
      exact TT.lens word n hm
    have hlen : ∃ t, PySem.W.nsIn K A.k_LENGTHS word = some (some (.int ((rest.length : Int) + 1) t)) := by
      rcases hw with ⟨rfl, e, _⟩ | ⟨rfl, e, _⟩ | ⟨rfl, e, _⟩ | ⟨rfl, e, _⟩ | ⟨rfl, e, _⟩ | ⟨rfl, e, _⟩
      · exact key (n := 3) (by simp) (by omega)
      · exact key (n := 4) (by simp) (by omega)
      · exact key (n := 4) (by simp) (by omega)
      · exact key (n := 3) (by simp) (by omega)
      · exact key (n := 4) (by simp) (by omega)
      · exact key (n := 3) (by simp) (by omega)
    obtain ⟨tl, hl⟩ := hlen
    refine ⟨_, rfl, _, _, _, _, true, rfl, .ty "str", .base (.str word), kit_ty (by decide +kernel), _, rfl, iteT ⟨_, rfl, word, _, rfl, rfl, hl, _, _, rfl, rfl, ?_⟩⟩
    refine ⟨_, rfl, a, _, rfl, .inr ha, _, rfl, word, _, .int ((rest.length : Int) + 1), rfl, rfl, hl, ⟨_, rfl⟩, rfl, _, _, rfl, decide_eq_true (by rw [List.length_cons]; rfl), ?_⟩
    have chk : ∀ {y : Str} {sp : Sp}, (word, y) ∈ ([("fraction", "check_fraction"), ("root", "check_root"), ("ruled", "check_ruled"), ("four", "check_four"), ("eight", "check_eight"), ("power", "check_power")] : List (Str × Str)) → COk P w K mg base CX0 k y ["tree", "depth"] sp → ∃ f, mg y = some (.ref f) ∧ PySem.W.nsIn K A.k_CHECKS word = some (some (.ref f)) := fun {y sp} hm C => by
      obtain ⟨f, fd, _, e, _⟩ := C
      exact ⟨f, e, TT.chks word y f hm e⟩
    rcases hw with ⟨rfl, e, q⟩ | ⟨rfl, e, q⟩ | ⟨rfl, e, q⟩ | ⟨rfl, e, q⟩ | ⟨rfl, e, q⟩ | ⟨rfl, e, q⟩
    · obtain ⟨f1, e1, e2⟩ := chk (y := "check_fraction") (by simp) G_check_fraction
      exact ⟨_, rfl, _, _, .ref f1, rfl, rfl, e2, rfl, .inl ⟨fun g eg => by cases e1.symm.trans eg; rfl, _, rfl, _, rfl, q⟩⟩
    · obtain ⟨f1, e1, e2⟩ := chk (y := "check_root") (by simp) G_check_root
      exact ⟨_, rfl, _, _, .ref f1, rfl, rfl, e2, rfl, .inr (.inl ⟨fun g eg => by cases e1.symm.trans eg; rfl, _, rfl, _, rfl, q⟩)⟩
    · obtain ⟨f1, e1, e2⟩ := chk (y := "check_ruled") (by simp) G_check_ruled
      exact ⟨_, rfl, _, _, .ref f1, rfl, rfl, e2, rfl, .inr (.inr (.inl ⟨fun g eg => by cases e1.symm.trans eg; rfl, _, rfl, _, rfl, q⟩))⟩
    · obtain ⟨f1, e1, e2⟩ := chk (y := "check_four") (by simp) G_check_four
      exact ⟨_, rfl, _, _, .ref f1, rfl, rfl, e2, rfl, .inr (.inr (.inr (.inl ⟨fun g eg => by cases e1.symm.trans eg; rfl, _, rfl, _, rfl, q⟩)))⟩
    · obtain ⟨f1, e1, e2⟩ := chk (y := "check_eight") (by simp) G_check_eight
      exact ⟨_, rfl, _, _, .ref f1, rfl, rfl, e2, rfl, .inr (.inr (.inr (.inr (.inl ⟨fun g eg => by cases e1.symm.trans eg; rfl, _, rfl, _, rfl, q⟩))))⟩
    · obtain ⟨f1, e1, e2⟩ := chk (y := "check_power") (by simp) G_check_power
      exact ⟨_, rfl, _, _, .ref f1, rfl, rfl, e2, rfl, .inr (.inr (.inr (.inr (.inr ⟨fun g eg => by cases e1.symm.trans eg; rfl, _, rfl, _, rfl, q⟩))))⟩
/-- a promise that is never asked for -/
abbrev spNo : Sp := fun _ _ _ _ => False
theorem ok_no {k : Nat} {x : Str} {st : Stmt} {ps : List Str} (D : ∃ f fd, DefAt K mg x st ps f fd) : COk P w K mg base CX0 k x ps spNo := by
  obtain ⟨f, fd, F⟩ := D
  exact .of F ⟨(fun _ _ _ _ h => h.elim), (fun _ _ _ _ _ _ _ _ _ _ _ _ _ h => h.elim)⟩
/-- check_tree at level k + 1, over check_at_depth at level k -/
theorem ok_check_tree {k : Nat} {sp : Sp} (D : DT K mg A) (G_check_at_depth : COk P w K mg base CX0 k "check_at_depth" ["tree", "depth"] sp) :
    COk P w K mg base CX0 (k + 1) "check_tree" ["tree"] (fun vs H Q _ => ∃ v, vs = [v] ∧ sp [v, .int 1] H (fun _ => Q .non) E0) := by
  refine COk.by D.check_tree fun f fd F => ?_
  refine F.ok sc_check_tree (fun vs H Q E h => ?_) (fun cdv Ar outer s H vs Q E hr h => ?_)
  · obtain ⟨v, rfl, _⟩ := h
    rfl
  · obtain ⟨v, rfl, q⟩ := h
    refine ⟨_, (pss_one (ps_expr (pe_c G_check_at_depth (hr.mono (by first | decide | omega)) (pa_cons (pv 0) (pa_cons pe_int pa_nil))))), ?_⟩
    exact ⟨_, rfl, q⟩
end
/-! ### the meter, a leaf's asking, a reading of a leaf -/
section
variable {P : Program} {w : World} {K : PySem.W.Frag} {mg : Str → Option Value} {base : Heap} {A : Ad}
theorem root_there : ∀ s : Int, 0 ≤ s → ∃ r, IsRoot s r := by
  have key : ∀ n : Nat, ∃ r, IsRoot (n : Int) r := fun n => by
    induction n with
    | zero => exact ⟨0, by decide, by decide, by decide⟩
    | succ n ih =>
      obtain ⟨r, h0, h1, h2⟩ := ih
      have e1 : (r + 1 + 1) * (r + 1 + 1) = (r + 1) * (r + 1) + 2 * (r + 1) + 1 := by grind
      by_cases c : ((n + 1 : Nat) : Int) < (r + 1) * (r + 1)
      · exact ⟨r, h0, by omega, c⟩
      · exact ⟨r + 1, by omega, by omega, by omega⟩
  intro s hs
  obtain ⟨n, rfl⟩ := Int.eq_ofNat_of_zero_le hs
  exact key n
theorem ok_Meter_init (T : CT K mg A) (D : DT K mg A) : IOk P w K mg base 1 "Meter" A.c_Meter ["self"] (sp_ini A.c_Meter 0 fun _ => meF 0 0) := by
  refine IOk.of T.g_Meter D.Meter_init fun f fd F => ?_
  refine F.ok sc_Meter_init (fun vs H Q E h => ?_) (fun cdv Ar outer s H vs Q E hr h => ?_)
  · obtain ⟨p, dx, us, rfl, hl, _⟩ := h
    show us.length + 1 = 1
    omega
  · obtain ⟨p, dx, us, rfl, hl, hp, k⟩ := h
    match us, hl with
    | [], _ =>
      refine ⟨_, (pss_cons (ps_fld (pv 0) pe_int rfl)
    (pss_one (ps_fld (pv 0) pe_int rfl))), ?_⟩
      refine ⟨_, rfl, p, _, dx, [], rfl, hp, T.cl_Meter, T.n_Meter_left, (by show 0 < 1000; decide), ?_⟩
      refine ⟨_, rfl, p, _, dx, _, rfl, upd_same, T.cl_Meter, T.n_Meter_spent, (by show 1 < 1000; decide), ?_⟩
      refine cast (congrArg (Q V.non) ?_) k
      rw [upd_upd]
      rfl
theorem ok_Meter_allow (T : CT K mg A) (D : DT K mg A) : MOk P w K mg base CX0 1 A.c_Meter "allow" ["self", "most"] (fun vs H Q _ => ∃ m dx l s n, vs = [.ref m, .int n] ∧ H m = some (.ins A.c_Meter dx (meF l s)) ∧ Q .non (upd H m (.ins A.c_Meter dx (meF n s)))) := by
  refine MOk.of T.cl_Meter D.Meter_allow fun f fd F => ?_
  refine F.ok sc_Meter_allow (fun vs H Q E h => ?_) (fun cdv Ar outer s H vs Q E hr h => ?_)
  · obtain ⟨m, dx, l, sp, n, rfl, _⟩ := h
    rfl
  · obtain ⟨m, dx, l, sp, n, rfl, hm, k⟩ := h
    refine ⟨_, (pss_one (ps_fld (pv 0) (pv 1) rfl)), ?_⟩
    exact ⟨_, rfl, _, rfl, m, _, dx, _, rfl, hm, T.cl_Meter, T.n_Meter_left, (by show 2 < 1000; decide), k⟩
theorem ok_Meter_pay (T : CT K mg A) (D : DT K mg A) : MOk P w K mg base CX0 1 A.c_Meter "pay" ["self"] (fun vs H Q _ => ∃ m dx l s, vs = [.ref m] ∧ H m = some (.ins A.c_Meter dx (meF l s)) ∧ Q .non (upd H m (.ins A.c_Meter dx (meF (l - 1) (s + 1))))) := by
  refine MOk.of T.cl_Meter D.Meter_pay fun f fd F => ?_
  refine F.ok sc_Meter_pay (fun vs H Q E h => ?_) (fun cdv Ar outer s H vs Q E hr h => ?_)
  · obtain ⟨m, dx, l, sp, rfl, _⟩ := h
    rfl
  · obtain ⟨m, dx, l, sp, rfl, hm, k⟩ := h
    refine ⟨_, (pss_cons (ps_fldaug (pv 0) pe_int in_sub)
    (pss_one (ps_fldaug (pv 0) pe_int in_add))), ?_⟩
    refine ⟨_, rfl, m, _, dx, _, _, rfl, hm, T.cl_Meter, T.n_Meter_left, rfl, _, _, rfl, rfl, dx, _, hm, (by show 2 < 1000; decide), ?_⟩
    refine ⟨_, rfl, m, _, dx, _, _, rfl, upd_same, T.cl_Meter, T.n_Meter_spent, rfl, _, _, rfl, rfl, dx, _, upd_same, (by show 2 < 1000; decide), ?_⟩
    refine cast (congrArg (Q V.non) ?_) k
    rw [upd_upd]
    rfl
/-! what is told -/
inductive Ans where
  | part (n : Int) | fin | waits
def Ans.At (A : Ad) (H : Hp) (v : V) : Ans → Prop
  | .part n => ∃ p, v = .ref p ∧ H p = some (.tup [.str "part", .int n])
  | .fin => v = .ref A.k_END
  | .waits => v = .ref A.k_WAITS
/-- a leaf, asked with l parts to be taken -/
def Chain.ans (c : Chain) (l : Int) : Ans := if c.ended = true then .fin else if l < 1 then .waits else .part c.part
def Chain.then_ (c : Chain) (l : Int) : Chain := if c.ended = true then c else if l < 1 then c else c.next
def Chain.took (c : Chain) (l : Int) : Int := if c.ended = true then 0 else if l < 1 then 0 else 1
/-- a leaf at a, its chain at c -/
def LeafAt (A : Ad) (K : PySem.W.Frag) (H : Hp) (a c : Addr) (ch : Chain) : Prop := (∃ dx, H a = some (.ins A.c_Leaf dx (leF c))) ∧ Chain.At A K H c ch
/-- what holds of a chain, where the rest is kept -/
theorem Chain.At.kept {H H' : Hp} {a : Addr} {ch : Chain} {N : Addr → Prop} (h : Chain.At A K H a ch) (hn : ¬ N a) (k : ∀ b o, H b = some o → ¬ N b → H' b = some o) (hN : ∀ b o, N b → H b = some o → (∀ ys, o ≠ .tup ys) ∧ ∀ ob u, o ≠ .frz ob u) : Chain.At A K H' a ch := by
  cases ch with
  | frac t b => obtain ⟨dx, e⟩ := h; exact ⟨dx, k _ _ e hn⟩
  | root t s b r => obtain ⟨dx, e⟩ := h; exact ⟨dx, k _ _ e hn⟩
  | ruled ps ring steps i =>
    obtain ⟨dx, p, q, u, e, hp, hq, hu⟩ := h
    exact ⟨dx, p, q, u, k _ _ e hn, sqT_but hp k hN, sqT_but hq k hN, sqT_but hu k hN⟩
theorem Chain.At.same {H H' : Hp} {a : Addr} {ch : Chain} (h : Chain.At A K H a ch) (k : Same H H') : Chain.At A K H' a ch :=
  h.kept (N := fun _ => False) (fun z => z) (fun b o e _ => k b o e) fun _ _ z => z.elim
theorem Chain.At.there {H : Hp} {a : Addr} {ch : Chain} (h : Chain.At A K H a ch) : ∃ C dx fs, H a = some (.ins C dx fs) := by
  cases ch with
  | frac t b => obtain ⟨dx, e⟩ := h; exact ⟨_, _, _, e⟩
  | root t s b r => obtain ⟨dx, e⟩ := h; exact ⟨_, _, _, e⟩
  | ruled ps ring steps i => obtain ⟨dx, p, q, u, e, _⟩ := h; exact ⟨_, _, _, e⟩
theorem Chain.At.cls {H : Hp} {a C dx : Addr} {fs : Flds} {ch : Chain} (h : Chain.At A K H a ch) (e : H a = some (.ins C dx fs)) : fs.lookup ("has_ended" : Str) = none ∧ fs.lookup ("next_part" : Str) = none := by
  cases ch with
  | frac t b => obtain ⟨dx', e'⟩ := h; rw [e'] at e; cases e; exact ⟨rfl, rfl⟩
  | root t s b r => obtain ⟨dx', e'⟩ := h; rw [e'] at e; cases e; exact ⟨rfl, rfl⟩
  | ruled ps ring steps i => obtain ⟨dx', p, q, u, e', _⟩ := h; rw [e'] at e; cases e; exact ⟨rfl, rfl⟩
theorem ins_no {C dx : Addr} {fs : Flds} {o : HO} (e : o = .ins C dx fs) : (∀ ys, o ≠ .tup ys) ∧ ∀ ob u, o ≠ .frz ob u := by
  subst e
  exact ⟨fun _ q => (by cases q), fun _ _ q => (by cases q)⟩
theorem Chain.Ok.next {ch : Chain} (h : ch.Ok) (he : ch.ended = false) : ch.next.Ok := by
  cases ch with
  | frac t b =>
    have hb : b ≠ 0 := fun z => by subst z; cases he
    exact ⟨h.2, small_fm h.2 hb⟩
  | root t s b r => exact root_next h
  | ruled ps ring steps i => exact h
def sp_Leaf_ask (A : Ad) (K : PySem.W.Frag) : Sp := fun vs H Q _ => ∃ (a c m : Addr) (ch : Chain) (l s : Int), vs = [.ref a, .ref m] ∧ LeafAt A K H a c ch ∧ ch.Ok ∧ MeterAt A H m l s ∧ a ≠ c ∧ a ≠ m ∧ c ≠ m ∧
  ∀ v H', LeafAt A K H' a c (ch.then_ l) → MeterAt A H' m (l - ch.took l) (s + ch.took l) → (ch.ans l).At A H' v → (∀ b o, H b = some o → b ≠ c → b ≠ m → H' b = some o) → Q v H'
theorem ok_Leaf_ask (T : CT K mg A) (D : DT K mg A) : MOk P w K mg base CX0 2 A.c_Leaf "ask" ["self", "meter"] (sp_Leaf_ask A K) := by
  have M1 := ok_FractionChain_has_ended (P := P) (w := w) (base := base) T D
  have M2 := ok_RootChain_has_ended (P := P) (w := w) (base := base) T D
  have M3 := ok_RuledChain_has_ended (P := P) (w := w) (base := base) T D
  have N1 := ok_FractionChain_next_part (P := P) (w := w) (base := base) T D
  have N2 := ok_RootChain_next_part (P := P) (w := w) (base := base) T D
  have N3 := ok_RuledChain_next_part (P := P) (w := w) (base := base) T D
  have M_pay := ok_Meter_pay (P := P) (w := w) (base := base) T D
  refine MOk.of T.cl_Leaf D.Leaf_ask fun f fd F => ?_
  refine F.ok sc_Leaf_ask (fun vs H Q E h => ?_) (fun cdv Ar outer s H vs Q E hr h => ?_)
  · obtain ⟨a, c, m, ch, l, sp, rfl, _⟩ := h
    rfl
  · obtain ⟨a, c, m, ch, l, sp, rfl, ⟨⟨dx, ha⟩, hc⟩, ok, ⟨dm, hm⟩, nac, nam, ncm, k⟩ := h
    refine ⟨_, (C8.pss_cut (ps_if (pt_val ((pe_alt (pe_m0 M1 (hr.mono (by decide)) (pe_fld (pv 0) rfl)) (pe_alt (pe_m0 M2 (hr.mono (by decide)) (pe_fld (pv 0) rfl)) (pe_m0 M3 (hr.mono (by decide)) (pe_fld (pv 0) rfl))))))
      (pss_one (ps_ret (pe_glob (v := .ref A.k_END) (by rfl) T.g_END rfl))) pss_nil)
    (pss_cons (ps_if (pt_cmpR op_lt (pe_fld (pv 1) rfl) pe_int (nomark _))
      (pss_one (ps_ret (pe_glob (v := .ref A.k_WAITS) (by rfl) T.g_WAITS rfl))) pss_nil)
    (pss_cons (ps_expr (pe_m0 M_pay (hr.mono (by first | decide | omega)) (pv 1)))
    (pss_one (ps_ret (pe_tup (pa_cons pe_str (pa_cons ((pe_alt (pe_m0 N1 (hr.mono (by decide)) (pe_fld (pv 0) rfl)) (pe_alt (pe_m0 N2 (hr.mono (by decide)) (pe_fld (pv 0) rfl)) (pe_m0 N3 (hr.mono (by decide)) (pe_fld (pv 0) rfl))))) pa_nil)))))))), ?_⟩
    have cl := T.cl_Leaf
    obtain ⟨C, dc, fs, hcs⟩ := hc.there
    obtain ⟨lk1, lk2⟩ := hc.cls hcs
    refine ⟨fun σ H2 => σ = [some (.ref a), some (.ref m)] ∧ H2 = H ∧ ch.ended = false, ?_, ?_⟩
    · -- has it ended
      have two : ∀ {b : Bool}, b = ch.ended → (if b = true then tRet (tC (V.ref A.k_END)) { nx := fun σ H2 => σ = [some (.ref a), some (.ref m)] ∧ H2 = H ∧ ch.ended = false, rt := Q } [some (.ref a), some (.ref m)] H else tNext { nx := fun σ H2 => σ = [some (.ref a), some (.ref m)] ∧ H2 = H ∧ ch.ended = false, rt := Q } [some (.ref a), some (.ref m)] H) := fun {b} e => by
        subst e
        cases he : ch.ended with
        | true =>
          rw [if_pos rfl]
          have e1 : ch.ans l = .fin := by unfold Chain.ans; rw [if_pos he]
          have e2 : ch.then_ l = ch := by unfold Chain.then_; rw [if_pos he]
          have e3 : ch.took l = 0 := by unfold Chain.took; rw [if_pos he]
          refine k _ H ?_ ?_ ?_ (fun b o e _ _ => e)
          · rw [e2]; exact ⟨⟨dx, ha⟩, hc⟩
          · rw [e3, Int.sub_zero, Int.add_zero]; exact ⟨dm, hm⟩
          · rw [e1]; rfl
        | false =>
          rw [if_neg (by decide)]
          exact ⟨rfl, rfl, rfl⟩
      cases ch with
      | frac t b =>
        obtain ⟨dc', hc'⟩ := id hc
        exact .inl ⟨_, rfl, a, _, dx, _, _, rfl, ha, cl, T.n_Leaf_chain, rfl, c, dc', _, rfl, hc', rfl, c, t, b, rfl, hc, _, rfl, two rfl⟩
      | root t s b r =>
        obtain ⟨dc', hc'⟩ := id hc
        exact .inr (.inl ⟨_, rfl, a, _, dx, _, _, rfl, ha, cl, T.n_Leaf_chain, rfl, c, dc', _, rfl, hc', rfl, c, rfl, _, rfl, two rfl⟩)
      | ruled ps ring steps i =>
        obtain ⟨dc', p, q, u, hc', _⟩ := id hc
        exact .inr (.inr ⟨_, rfl, a, _, dx, _, _, rfl, ha, cl, T.n_Leaf_chain, rfl, c, dc', _, rfl, hc', rfl, c, ps, ring, steps, i, rfl, hc, _, rfl, two rfl⟩)
    · rintro σ H2 ⟨rfl, rfl, he⟩
      refine ⟨_, rfl, m, _, dm, _, _, rfl, hm, T.cl_Meter, T.n_Meter_left, rfl, _, _, rfl, rfl, _, rfl, ite2 (fun cl1 => ?_) (fun cl1 => ?_)⟩
      · have hl : l < 1 := of_decide_eq_true cl1
        have e1 : ch.ans l = .waits := by unfold Chain.ans; rw [he, if_neg (by decide), if_pos hl]
        have e2 : ch.then_ l = ch := by unfold Chain.then_; rw [he, if_neg (by decide), if_pos hl]
        have e3 : ch.took l = 0 := by unfold Chain.took; rw [he, if_neg (by decide), if_pos hl]
        refine k _ _ ?_ ?_ ?_ (fun b o e _ _ => e)
        · rw [e2]; exact ⟨⟨dx, ha⟩, hc⟩
        · rw [e3, Int.sub_zero, Int.add_zero]; exact ⟨dm, hm⟩
        · rw [e1]; rfl
      · have hl : ¬ l < 1 := fun z => cl1 (decide_eq_true z)
        have e1 : ch.ans l = .part ch.part := by unfold Chain.ans; rw [he, if_neg (by decide), if_neg hl]
        have e2 : ch.then_ l = ch.next := by unfold Chain.then_; rw [he, if_neg (by decide), if_neg hl]
        have e3 : ch.took l = 1 := by unfold Chain.took; rw [he, if_neg (by decide), if_neg hl]
        rw [e1, e2, e3] at k
        -- pay
        refine ⟨_, rfl, m, dm, _, rfl, hm, rfl, m, dm, l, sp, rfl, hm, ?_⟩
        have kp1 : ∀ b o, H2 b = some o → b ≠ m → (upd H2 m (.ins A.c_Meter dm (meF (l - 1) (sp + 1)))) b = some o := fun b o e hb => by rw [upd_ne hb]; exact e
        have hc1 : Chain.At A K (upd H2 m (.ins A.c_Meter dm (meF (l - 1) (sp + 1)))) c ch := hc.kept (N := fun b => b = m) ncm kp1 fun b o e z => by subst e; rw [hm] at z; exact ins_no (Option.some.inj z).symm
        have ha1 := kp1 a _ ha nam
        have hm1 : (upd H2 m (.ins A.c_Meter dm (meF (l - 1) (sp + 1)))) m = some (.ins A.c_Meter dm (meF (l - 1) (sp + 1))) := upd_same
        have hcs1 := kp1 c _ hcs ncm
        generalize upd H2 m (.ins A.c_Meter dm (meF (l - 1) (sp + 1))) = H3 at *
        have fin : ∀ H4, Chain.At A K H4 c ch.next → (∀ b o, H3 b = some o → b ≠ c → H4 b = some o) → ∀ p, H4 p = none → Q (.ref p) (upd H4 p (.tup [.str "part", .int ch.part])) := fun H4 hn kp4 p np => by
          have s5 := same_upd (o := .tup [V.str "part", .int ch.part]) np
          refine k _ _ ⟨⟨dx, s5 _ _ (kp4 a _ ha1 nac)⟩, hn.same s5⟩ ⟨dm, s5 _ _ (kp4 m _ hm1 (Ne.symm ncm))⟩ ⟨p, rfl, upd_same⟩ fun b o e hb hb2 => s5 _ _ (kp4 b o (kp1 b o e hb2) hb)
        have two : (2 : Nat) ≤ sizeLine := by decide
        cases ch with
        | frac t b =>
          obtain ⟨dc', hc'⟩ := id hc1
          have hb : b ≠ 0 := fun z => by subst z; cases he
          exact .inl ⟨_, rfl, a, _, dx, _, _, rfl, ha1, cl, T.n_Leaf_chain, rfl, c, dc', _, rfl, hc', rfl, c, t, b, rfl, hc1, hb, ok.1, ok.2, fun H4 hn kp4 => ⟨two, fun p np => fin H4 hn kp4 p np⟩⟩
        | root t s b r =>
          obtain ⟨dc', hc'⟩ := id hc1
          exact .inr (.inl ⟨_, rfl, a, _, dx, _, _, rfl, ha1, cl, T.n_Leaf_chain, rfl, c, dc', _, rfl, hc', rfl, c, t, s, b, r, rfl, hc1, ok, fun H4 hn kp4 => ⟨two, fun p np => fin H4 hn kp4 p np⟩⟩)
        | ruled ps ring steps i =>
          obtain ⟨dc', p, q, u, hc', _⟩ := id hc1
          have hne : ring = [] → i < ps.length := fun z => by
            subst z
            have he' : decide (ps.length ≤ i) = false := he
            have := of_decide_eq_false he'
            omega
          exact .inr (.inr ⟨_, rfl, a, _, dx, _, _, rfl, ha1, cl, T.n_Leaf_chain, rfl, c, dc', _, rfl, hc', rfl, c, ps, ring, steps, i, rfl, hc1, ok, hne, fun H4 hn kp4 => ⟨two, fun p np => fin H4 hn kp4 p np⟩⟩)
theorem ok_Leaf_init (T : CT K mg A) (D : DT K mg A) : IOk P w K mg base 1 "Leaf" A.c_Leaf ["self", "chain"] (sp_ini A.c_Leaf 1 fun us => [("chain", us.getD 0 .non)]) := by
  refine IOk.of T.g_Leaf D.Leaf_init fun f fd F => ?_
  refine F.ok sc_Leaf_init (fun vs H Q E h => ?_) (fun cdv Ar outer s H vs Q E hr h => ?_)
  · obtain ⟨p, dx, us, rfl, hl, _⟩ := h
    show us.length + 1 = 2
    omega
  · obtain ⟨p, dx, us, rfl, hl, hp, k⟩ := h
    match us, hl with
    | [u0], _ =>
      refine ⟨_, (pss_one (ps_fld (pv 0) (pv 1) rfl)), ?_⟩
      exact ⟨_, rfl, _, rfl, p, _, dx, [], rfl, hp, T.cl_Leaf, T.n_Leaf_chain, (by show 0 < 1000; decide), k⟩
/-! trees of one leaf -/
inductive Leaf where
  | frac (t b : Int) | root (t s b : Int) | ruled (ps ring steps : List Int)
def Leaf.At (K : PySem.W.Frag) (H : Hp) (a : Addr) : Leaf → Prop
  | .frac t b => SqT K H a [.str "fraction", .int t, .int b]
  | .root t s b => SqT K H a [.str "root", .int t, .int s, .int b]
  | .ruled ps ring steps => ∃ p q u, SqT K H a [.str "ruled", .ref p, .ref q, .ref u] ∧ SqT K H p (ps.map V.int) ∧ SqT K H q (ring.map V.int) ∧ SqT K H u (steps.map V.int)
def Leaf.Good : Leaf → Prop
  | .frac t b => tame t ∧ tame b ∧ b ≠ 0
  | .root t s b => tame t ∧ tame s ∧ 0 ≤ s ∧ tame b ∧ b ≠ 0
  | .ruled ps ring steps => RuledGood ps ring steps
/-- the chain that a leaf begins with -/
def Leaf.Starts : Leaf → Chain → Prop
  | .frac t b, ch => ch = .frac t b
  | .root t s b, ch => ∃ r, IsRoot s r ∧ ((r * r = s ∧ ch = .frac (t + r) b) ∨ (r * r ≠ s ∧ ∃ q, IsRoot (s * (b.natAbs : Int) * (b.natAbs : Int)) q ∧ ch = .root (t * (b.natAbs : Int)) (s * (b.natAbs : Int) * (b.natAbs : Int)) (b * (b.natAbs : Int)) q))
  | .ruled ps ring steps, ch => ch = .ruled ps ring steps 0
theorem Leaf.At.same {H H' : Hp} {a : Addr} {f : Leaf} (h : f.At K H a) (k : Same H H') : f.At K H' a := by
  cases f with
  | frac t b => exact sqT_same h k
  | root t s b => exact sqT_same h k
  | ruled ps ring steps =>
    obtain ⟨p, q, u, e, hp, hq, hu⟩ := h
    exact ⟨p, q, u, sqT_same e k, sqT_same hp k, sqT_same hq k, sqT_same hu k⟩
/-- two new objects: an instance and its own dict -/
theorem made_same {H : Hp} {x dx : Addr} {o o' : HO} (nx : H x = none) (nd : H dx = none) : Same H (upd (upd H dx o) x o') := fun b u e => by
  rw [upd_ne (ne_of_none e nx), upd_ne (ne_of_none e nd)]
  exact e
def sp_root_chain (A : Ad) (K : PySem.W.Frag) : Sp := fun vs H Q _ => ∃ (t s b : Int), vs = [.int t, .int s, .int b] ∧ Leaf.Good (.root t s b) ∧
  ∀ c ch H', Chain.At A K H' c ch → Leaf.Starts (.root t s b) ch → ch.Ok → Same H H' → H c = none → Q (.ref c) H'
theorem ok_root_chain (T : CT K mg A) (D : DT K mg A) : COk P w K mg base CX0 4 "root_chain" ["top", "square", "below"] (sp_root_chain A K) := by
  have G_root_below : COk P w K mg base CX0 1 "root_below" ["number"] sp_root_below := COk.by D.root_below fun f fd F => ok_root_below F
  have I_FractionChain := ok_FractionChain_init (P := P) (w := w) (base := base) T D
  have I_RootChain := ok_RootChain_init (P := P) (w := w) (base := base) T D G_root_below root_there
  refine COk.by D.root_chain fun f fd F => ?_
  refine F.ok sc_root_chain (fun vs H Q E h => ?_) (fun cdv Ar outer s H vs Q E hr h => ?_)
  · obtain ⟨t, s, b, rfl, _⟩ := h
    rfl
  · obtain ⟨t, sq, b, rfl, ⟨ht, hs, hs0, hb, hb0⟩, k⟩ := h
    refine ⟨_, (pss_cons (ps_set (i := 3) sc_root_chain.nd rfl (Or.inl rfl) (pe_c G_root_below (hr.mono (by first | decide | omega)) (pa_cons (pv 1) pa_nil)))
    (pss_cons (ps_if (pt_cmpR op_eq (pe_op op_mul (pv 3) (pv 3)) (pv 1) (nomark _))
      (pss_one (ps_ret (pe_mk I_FractionChain (hr.mono (by first | decide | omega)) (pa_cons (pe_op op_add (pv 0) (pv 3)) (pa_cons (pv 2) pa_nil))))) pss_nil)
    (pss_one (ps_ret (pe_mk I_RootChain (hr.mono (by first | decide | omega)) (pa_cons (pv 0) (pa_cons (pv 1) (pa_cons (pv 2) pa_nil)))))))), ?_⟩
    obtain ⟨s1, s2⟩ := id hs
    obtain ⟨t1, t2⟩ := id ht
    refine ⟨_, rfl, sq, rfl, hs0, Int.lt_of_le_of_lt s2 (by decide +kernel), fun r hr0 => ?_⟩
    have r1 : r < 2 ^ 20 := lt_of_sq (k := 20) hr0.1 hr0.2.1 (Int.lt_of_le_of_lt s2 (by decide))
    have p20 : (2 : Int) ^ 20 = 1048576 := by decide
    have r0 := hr0.1
    have p64 : (2 : Int) ^ 64 = 18446744073709551616 := by decide
    have w64 : -(2 ^ 64) < r ∧ r < 2 ^ 64 := ⟨by omega, by omega⟩
    refine ⟨_, rfl, _, rfl, _, _, rfl, rfl, .inl w64, _, rfl, rfl, _, rfl, ite2 (fun c => ?_) (fun c => ?_)⟩
    · have e : r * r = sq := V.int.inj (of_decide_eq_true c)
      refine ⟨_, rfl, _, rfl, _, _, rfl, rfl, _, rfl, fun x dx nx nd ne => ?_⟩
      refine ⟨x, dx, [.int (t + r), .int b], rfl, rfl, upd_same, rfl, ?_⟩
      rw [upd_upd]
      refine k x (.frac (t + r) b) _ ⟨dx, upd_same⟩ ⟨r, hr0, .inl ⟨e, rfl⟩⟩ ⟨?_, small_tame hb⟩ (made_same nx nd) nx
      have p40 : (2 : Nat) ^ 41 = 2199023255552 := by decide
      exact Nat.lt_trans (show (t + r).natAbs < 2 ^ 41 by omega) (Nat.pow_lt_pow_right (by decide) (by decide))
    · have e : r * r ≠ sq := fun z => c (decide_eq_true (congrArg V.int z))
      refine ⟨_, rfl, _, rfl, _, rfl, fun x dx nx nd ne => ?_⟩
      refine ⟨x, dx, t, sq, b, rfl, upd_same, ht, hs0, s2, hb, hb0, (fun r' hr' => by rw [hr'.unique hr0]; exact e), fun q hq => ⟨rfl, ?_⟩⟩
      rw [upd_upd]
      exact k x (.root _ _ _ q) _ ⟨dx, upd_same⟩ ⟨r, hr0, .inr ⟨e, q, hq.rt, rfl⟩⟩ hq (made_same nx nd) nx
/-- a new leaf -/
def sp_leaf_of (A : Ad) (K : PySem.W.Frag) : Sp := fun vs H Q _ => ∃ (v : Addr) (f : Leaf), vs = [.ref v] ∧ f.At K H v ∧ f.Good ∧
  ∀ a c ch H', LeafAt A K H' a c ch → f.Starts ch → ch.Ok → Same H H' → H a = none → H c = none → a ≠ c → Q (.ref a) H'
theorem ok_leaf_of (T : CT K mg A) (D : DT K mg A) : COk P w K mg base CX0 5 "leaf_of" ["tree"] (sp_leaf_of A K) := by
  have G_root_chain := ok_root_chain (P := P) (w := w) (base := base) T D
  have I_FractionChain := ok_FractionChain_init (P := P) (w := w) (base := base) T D
  have I_RuledChain := ok_RuledChain_init (P := P) (w := w) (base := base) T D
  have I_Leaf := ok_Leaf_init (P := P) (w := w) (base := base) T D
  refine COk.by D.leaf_of fun f fd F => ?_
  refine F.ok sc_leaf_of (fun vs H Q E h => ?_) (fun cdv Ar outer s H vs Q E hr h => ?_)
  · obtain ⟨v, f, rfl, _⟩ := h
    rfl
  · obtain ⟨v, f, rfl, hf, hg, k⟩ := h
    refine ⟨_, (pss_cons (ps_if (pt_cmpR op_eq (pe_ix ix_tup (pv 0) pe_int (fun _ _ => rfl)) pe_str (nomark _))
      (pss_one (ps_ret (pe_mk I_Leaf (hr.mono (by first | decide | omega)) (pa_cons (pe_mk I_FractionChain (hr.mono (by first | decide | omega)) (pa_cons (pe_ix ix_tup (pv 0) pe_int (fun _ _ => rfl)) (pa_cons (pe_ix ix_tup (pv 0) pe_int (fun _ _ => rfl)) pa_nil))) pa_nil)))) pss_nil)
    (pss_cons (ps_if (pt_cmpR op_eq (pe_ix ix_tup (pv 0) pe_int (fun _ _ => rfl)) pe_str (nomark _))
      (pss_one (ps_ret (pe_mk I_Leaf (hr.mono (by first | decide | omega)) (pa_cons (pe_c G_root_chain (hr.mono (by first | decide | omega)) (pa_cons (pe_ix ix_tup (pv 0) pe_int (fun _ _ => rfl)) (pa_cons (pe_ix ix_tup (pv 0) pe_int (fun _ _ => rfl)) (pa_cons (pe_ix ix_tup (pv 0) pe_int (fun _ _ => rfl)) pa_nil)))) pa_nil)))) pss_nil)
    (pss_one (ps_ret (pe_mk I_Leaf (hr.mono (by first | decide | omega)) (pa_cons (pe_mk I_RuledChain (hr.mono (by first | decide | omega)) (pa_cons (pe_ix ix_tup (pv 0) pe_int (fun _ _ => rfl)) (pa_cons (pe_ix ix_tup (pv 0) pe_int (fun _ _ => rfl)) (pa_cons (pe_ix ix_tup (pv 0) pe_int (fun _ _ => rfl)) pa_nil)))) pa_nil)))))), ?_⟩
    have fin : ∀ c ch H1, Chain.At A K H1 c ch → f.Starts ch → ch.Ok → Same H H1 → H c = none → ∀ x dx, H1 x = none → H1 dx = none → dx ≠ x → Q (.ref x) (upd (upd (upd H1 dx (.own x)) x (.ins A.c_Leaf dx [])) x (.ins A.c_Leaf dx (leF c))) := fun c ch H1 hc st ok sm nc x dx nx nd ne => by
      rw [upd_upd]
      have s2 := made_same (o := .own x) (o' := .ins A.c_Leaf dx (leF c)) nx nd
      obtain ⟨C, d, fs, e⟩ := hc.there
      exact k x c ch _ ⟨⟨dx, upd_same⟩, hc.same s2⟩ st ok (sm.trans s2) (sm.free nx) nc (ne_of_none e nx).symm
    cases f with
    | frac t b =>
      refine ⟨_, rfl, v, _, 0, _, rfl, rfl, hf, atI_nat (j := 0) rfl, rfl, _, rfl, ?_⟩
      refine iteT ⟨_, rfl, v, _, 1, _, rfl, rfl, hf, atI_nat (j := 1) rfl, _, rfl, v, _, 2, _, rfl, rfl, hf, atI_nat (j := 2) rfl, fun x dx nx nd ne => ?_⟩
      refine ⟨x, dx, [.int t, .int b], rfl, rfl, upd_same, rfl, ?_⟩
      rw [upd_upd]
      intro x2 dx2 nx2 nd2 ne2
      exact ⟨x2, dx2, [.ref x], rfl, rfl, upd_same, rfl, fin x (.frac t b) _ ⟨dx, upd_same⟩ rfl ⟨small_tame hg.1, small_tame hg.2.1⟩ (made_same nx nd) nx x2 dx2 nx2 nd2 ne2⟩
    | root t sq b =>
      refine ⟨_, rfl, v, _, 0, _, rfl, rfl, hf, atI_nat (j := 0) rfl, rfl, _, rfl, ?_⟩
      refine iteF ⟨_, rfl, v, _, 0, _, rfl, rfl, hf, atI_nat (j := 0) rfl, rfl, _, rfl, ?_⟩
      refine iteT ⟨_, rfl, v, _, 1, _, rfl, rfl, hf, atI_nat (j := 1) rfl, _, rfl, v, _, 2, _, rfl, rfl, hf, atI_nat (j := 2) rfl, _, rfl, v, _, 3, _, rfl, rfl, hf, atI_nat (j := 3) rfl, t, sq, b, rfl, hg, fun c ch H1 hc st ok sm nc => ?_⟩
      intro x2 dx2 nx2 nd2 ne2
      exact ⟨x2, dx2, [.ref c], rfl, rfl, upd_same, rfl, fin c ch H1 hc st ok sm nc x2 dx2 nx2 nd2 ne2⟩
    | ruled ps ring steps =>
      obtain ⟨p, q, u, hv, hp, hq, hu⟩ := hf
      refine ⟨_, rfl, v, _, 0, _, rfl, rfl, hv, atI_nat (j := 0) rfl, rfl, _, rfl, ?_⟩
      refine iteF ⟨_, rfl, v, _, 0, _, rfl, rfl, hv, atI_nat (j := 0) rfl, rfl, _, rfl, ?_⟩
      refine iteF ⟨_, rfl, v, _, 1, _, rfl, rfl, hv, atI_nat (j := 1) rfl, _, rfl, v, _, 2, _, rfl, rfl, hv, atI_nat (j := 2) rfl, _, rfl, v, _, 3, _, rfl, rfl, hv, atI_nat (j := 3) rfl, fun x dx nx nd ne => ?_⟩
      refine ⟨x, dx, [.ref p, .ref q, .ref u], rfl, rfl, upd_same, rfl, ?_⟩
      rw [upd_upd]
      intro x2 dx2 nx2 nd2 ne2
      have s1 := made_same (o := .own x) (o' := .ins A.c_RuledChain dx (ruF p q u 0)) nx nd
      exact ⟨x2, dx2, [.ref x], rfl, rfl, upd_same, rfl, fin x (.ruled ps ring steps 0) _ ⟨dx, p, q, u, upd_same, sqT_same hp s1, sqT_same hq s1, sqT_same hu s1⟩ rfl hg.toRuledOk s1 nx x2 dx2 nx2 nd2 ne2⟩
end
/-! ### readings -/
section
variable {P : Program} {w : World} {K : PySem.W.Frag} {mg : Str → Option Value} {base : Heap} {A : Ad}
def sp_Reading_init (A : Ad) : Sp := fun vs H Q _ => ∃ (p dx : Addr) (b : Addr), vs = [.ref p, .ref b] ∧ H p = some (.ins A.c_Reading dx []) ∧
  ∀ m H', H m = none → H' p = some (.ins A.c_Reading dx (reF b m)) → MeterAt A H' m 0 0 → (∀ c o, H c = some o → c ≠ p → H' c = some o) → Q .non H'
theorem ok_Reading_init (T : CT K mg A) (D : DT K mg A) : IOk P w K mg base 3 "Reading" A.c_Reading ["self", "box"] (sp_Reading_init A) := by
  have I_Meter := ok_Meter_init (P := P) (w := w) (base := base) T D
  refine IOk.of T.g_Reading D.Reading_init fun f fd F => ?_
  refine F.ok sc_Reading_init (fun vs H Q E h => ?_) (fun cdv Ar outer s H vs Q E hr h => ?_)
  · obtain ⟨p, dx, b, rfl, _⟩ := h
    rfl
  · obtain ⟨p, dx, b, rfl, hp, k⟩ := h
    refine ⟨_, (pss_cons (ps_fld (pv 0) (pv 1) rfl)
    (pss_one (ps_fld (pv 0) (pe_mk0 I_Meter (hr.mono (by first | decide | omega))) rfl))), ?_⟩
    refine ⟨_, rfl, _, rfl, p, _, dx, [], rfl, hp, T.cl_Reading, T.n_Reading_box, (by show 0 < 1000; decide), ?_⟩
    intro m dm nm ndm ne
    refine ⟨m, dm, [], rfl, rfl, upd_same, rfl, ?_⟩
    rw [upd_upd]
    have h1 : (upd H p (.ins A.c_Reading dx (putF "box" (.ref b) []))) p = some (.ins A.c_Reading dx [("box", .ref b)]) := upd_same
    have s1 := made_same (o := .own m) (o' := .ins A.c_Meter dm (meF 0 0)) nm ndm
    have hpm : p ≠ m := ne_of_none h1 nm
    refine ⟨_, rfl, p, _, dx, _, rfl, s1 _ _ h1, T.cl_Reading, T.n_Reading_meter, (by show 1 < 1000; decide), ?_⟩
    refine k m _ ?_ upd_same ⟨dm, by rw [upd_ne hpm.symm, upd_same]⟩ fun c o e hc => ?_
    · rw [upd_ne hpm.symm] at nm
      exact nm
    · rw [upd_ne hc]
      exact s1 _ _ (by rw [upd_ne hc]; exact e)
theorem ok_Reading_took (T : CT K mg A) (D : DT K mg A) : MOk P w K mg base CX0 1 A.c_Reading "took" ["self"] (fun vs H Q _ => ∃ r rx b m dm l s, vs = [.ref r] ∧ H r = some (.ins A.c_Reading rx (reF b m)) ∧ H m = some (.ins A.c_Meter dm (meF l s)) ∧ Q (.int s) H) := by
  refine MOk.of T.cl_Reading D.Reading_took fun f fd F => ?_
  refine F.ok sc_Reading_took (fun vs H Q E h => ?_) (fun cdv Ar outer s H vs Q E hr h => ?_)
  · obtain ⟨r, rx, b, m, dm, l, s, rfl, _⟩ := h
    rfl
  · obtain ⟨r, rx, b, m, dm, l, sp, rfl, hr0, hm, k⟩ := h
    refine ⟨_, (pss_one (ps_ret (pe_fld (pe_fld (pv 0) rfl) rfl))), ?_⟩
    exact ⟨_, rfl, r, _, rx, _, _, rfl, hr0, T.cl_Reading, T.n_Reading_meter, rfl, m, _, dm, _, _, rfl, hm, T.cl_Meter, T.n_Meter_spent, rfl, k⟩
/-- a reading asks its box, of the class at C -/
def sp_part (A : Ad) (C : Addr) (spA : Sp) : Sp := fun vs H Q _ => ∃ (r rx b m dm db : Addr) (fb : Flds) (l s n : Int), vs = [.ref r, .int n] ∧ H r = some (.ins A.c_Reading rx (reF b m)) ∧ H m = some (.ins A.c_Meter dm (meF l s)) ∧ r ≠ m ∧ b ≠ m ∧ H b = some (.ins C db fb) ∧ fb.lookup ("ask" : Str) = none ∧
  spA [.ref b, .ref m] (upd H m (.ins A.c_Meter dm (meF n s))) Q E0
theorem ok_Reading_part {k : Nat} {C : Addr} {spA : Sp} (T : CT K mg A) (D : DT K mg A) (hk : 1 ≤ k) (M_ask : MOk P w K mg base CX0 k C "ask" ["self", "meter"] spA) : MOk P w K mg base CX0 (k + 1) A.c_Reading "part" ["self", "most"] (sp_part A C spA) := by
  have M_allow := ok_Meter_allow (P := P) (w := w) (base := base) T D
  refine MOk.of T.cl_Reading D.Reading_part fun f fd F => ?_
  refine F.ok sc_Reading_part (fun vs H Q E h => ?_) (fun cdv Ar outer s H vs Q E hr h => ?_)
  · obtain ⟨r, rx, b, m, dm, db, fb, l, s, n, rfl, _⟩ := h
    rfl
  · obtain ⟨r, rx, b, m, dm, db, fb, l, sp, n, rfl, hr0, hm, nrm, nbm, hb, lk, q⟩ := h
    refine ⟨_, (pss_cons (ps_expr (pe_m M_allow (hr.mono (by first | decide | omega)) (pe_fld (pv 0) rfl) (pa_cons (pv 1) pa_nil)))
    (pss_one (ps_ret (pe_m M_ask (hr.mono (by first | decide | omega)) (pe_fld (pv 0) rfl) (pa_cons (pe_fld (pv 0) rfl) pa_nil))))), ?_⟩
    have cl := T.cl_Reading
    refine ⟨_, rfl, r, _, rx, _, _, rfl, hr0, cl, T.n_Reading_meter, rfl, m, dm, _, rfl, hm, rfl, _, rfl, m, dm, l, sp, n, rfl, hm, ?_⟩
    have hr1 : (upd H m (.ins A.c_Meter dm (meF n sp))) r = some (.ins A.c_Reading rx (reF b m)) := by rw [upd_ne nrm]; exact hr0
    have hb1 : (upd H m (.ins A.c_Meter dm (meF n sp))) b = some (.ins C db fb) := by rw [upd_ne nbm]; exact hb
    exact ⟨_, rfl, r, _, rx, _, _, rfl, hr1, cl, T.n_Reading_box, rfl, b, db, fb, rfl, hb1, lk, _, rfl, r, _, rx, _, _, rfl, hr1, cl, T.n_Reading_meter, rfl, q⟩
/-! a reading of a leaf -/
structure ReadAt (A : Ad) (K : PySem.W.Frag) (H : Hp) (r a c m : Addr) (ch : Chain) (l s : Int) : Prop where
  rd : ∃ rx, H r = some (.ins A.c_Reading rx (reF a m))
  lf : LeafAt A K H a c ch
  mt : MeterAt A H m l s
  ra : r ≠ a
  rc : r ≠ c
  rm : r ≠ m
  ac : a ≠ c
  am : a ≠ m
  cm : c ≠ m
  ok : ch.Ok
theorem ReadAt.same {H H' : Hp} {r a c m : Addr} {ch : Chain} {l s : Int} (R : ReadAt A K H r a c m ch l s) (k : Same H H') : ReadAt A K H' r a c m ch l s := by
  obtain ⟨⟨rx, e⟩, ⟨⟨dx, e2⟩, hc⟩, ⟨dm, e3⟩, ra, rc, rm, ac, am, cm, ok⟩ := R
  exact ⟨⟨rx, k _ _ e⟩, ⟨⟨dx, k _ _ e2⟩, hc.same k⟩, ⟨dm, k _ _ e3⟩, ra, rc, rm, ac, am, cm, ok⟩
/-- another list is written -/
theorem ReadAt.put {H : Hp} {r a c m d : Addr} {ch : Chain} {l s : Int} {xs ys : List V} (R : ReadAt A K H r a c m ch l s) (hd : H d = some (.lst xs)) (_ : d ≠ c) (_ : d ≠ m) : ReadAt A K (upd H d (.lst ys)) r a c m ch l s := by
  obtain ⟨⟨rx, e⟩, ⟨⟨dx, e2⟩, hc⟩, ⟨dm, e3⟩, ra, rc, rm, ac, am, cm, ok⟩ := R
  have k : ∀ b o, H b = some o → ¬ b = d → (upd H d (.lst ys)) b = some o := fun b o z n => by rw [upd_ne n]; exact z
  have ne : ∀ {b C dx fs}, H b = some (.ins C dx fs) → b ≠ d := fun {b C dx fs} z => ne_of z hd (by intro q; cases q)
  obtain ⟨C, dc, fs, e4⟩ := hc.there
  refine ⟨⟨rx, k _ _ e (ne e)⟩, ⟨⟨dx, k _ _ e2 (ne e2)⟩, hc.kept (N := fun b => b = d) (ne e4) k fun b o z y => ?_⟩, ⟨dm, k _ _ e3 (ne e3)⟩, ra, rc, rm, ac, am, cm, ok⟩
  subst z
  rw [hd] at y
  cases y
  exact ⟨fun _ q => (by cases q), fun _ _ q => (by cases q)⟩
/-- one asking of a leaf's reading -/
def sp_part_leaf (A : Ad) (K : PySem.W.Frag) : Sp := fun vs H Q _ => ∃ (r a c m : Addr) (ch : Chain) (l s n : Int), vs = [.ref r, .int n] ∧ ReadAt A K H r a c m ch l s ∧
  ∀ v H', ReadAt A K H' r a c m (ch.then_ n) (n - ch.took n) (s + ch.took n) → (ch.ans n).At A H' v → (∀ b o, H b = some o → b ≠ c → b ≠ m → H' b = some o) → Q v H'
theorem Chain.Ok.then_ {ch : Chain} (h : ch.Ok) (n : Int) : (ch.then_ n).Ok := by
  unfold Chain.then_
  split
  · exact h
  · split
    · exact h
    · rename_i h1 _
      exact h.next (by rw [Bool.not_eq_true] at h1; exact h1)
theorem ok_part_leaf (T : CT K mg A) (D : DT K mg A) : MOk P w K mg base CX0 3 A.c_Reading "part" ["self", "most"] (sp_part_leaf A K) := by
  obtain ⟨cl, f, fd, F, M, B⟩ := ok_Reading_part (P := P) (w := w) (base := base) T D (by decide) (ok_Leaf_ask T D)
  refine ⟨cl, f, fd, F.imp fun vs H Q E h => ?_, M, B⟩
  obtain ⟨r, a, c, m, ch, l, s, n, rfl, R, k⟩ := h
  obtain ⟨⟨rx, e⟩, ⟨⟨dx, e2⟩, hc⟩, ⟨dm, e3⟩, ra, rc, rm, ac, am, cm, ok⟩ := R
  refine ⟨r, rx, a, m, dm, dx, leF c, l, s, n, rfl, e, e3, rm, am, e2, rfl, ?_⟩
  have kp : ∀ b o, H b = some o → b ≠ m → (upd H m (.ins A.c_Meter dm (meF n s))) b = some o := fun b o z hb => by rw [upd_ne hb]; exact z
  have hc1 : Chain.At A K (upd H m (.ins A.c_Meter dm (meF n s))) c ch := hc.kept (N := fun b => b = m) cm kp fun b o z y => by subst z; rw [e3] at y; exact ins_no (Option.some.inj y).symm
  refine ⟨a, c, m, ch, n, s, rfl, ⟨⟨dx, kp _ _ e2 am⟩, hc1⟩, ok, ⟨dm, upd_same⟩, ac, am, cm, fun v H' hl hm ha k2 => ?_⟩
  exact k v H' ⟨⟨rx, k2 _ _ (kp _ _ e rm) rc rm⟩, hl, hm, ra, rc, rm, ac, am, cm, ok.then_ n⟩ ha fun b o z hb hb2 => k2 b o (kp b o z hb2) hb hb2
theorem ok_took_leaf (T : CT K mg A) (D : DT K mg A) : MOk P w K mg base CX0 1 A.c_Reading "took" ["self"] (fun vs H Q _ => ∃ r a c m ch l s, vs = [.ref r] ∧ ReadAt A K H r a c m ch l s ∧ Q (.int s) H) := by
  obtain ⟨cl, f, fd, F, M, B⟩ := ok_Reading_took (P := P) (w := w) (base := base) T D
  refine ⟨cl, f, fd, F.imp fun vs H Q E h => ?_, M, B⟩
  obtain ⟨r, a, c, m, ch, l, s, rfl, ⟨⟨rx, e⟩, _, ⟨dm, e3⟩, _⟩, q⟩ := h
  exact ⟨r, rx, a, m, dm, l, s, rfl, e, e3, q⟩
theorem ok_box_of_leaf (T : CT K mg A) (D : DT K mg A) : COk P w K mg base CX0 6 "box_of" ["tree"] (sp_leaf_of A K) := by
  have G_leaf_of := ok_leaf_of (P := P) (w := w) (base := base) T D
  refine COk.by D.box_of fun f fd F => ?_
  refine F.ok sc_box_of (fun vs H Q E h => ?_) (fun cdv Ar outer s H vs Q E hr h => ?_)
  · obtain ⟨v, f, rfl, _⟩ := h
    rfl
  · obtain ⟨v, f, rfl, hf, hg, k⟩ := h
    refine ⟨_, (pss_cons (ps_set (i := 1) sc_box_of.nd rfl (Or.inl rfl) (pe_ix ix_tup (pv 0) pe_int (fun _ _ => rfl)))
    (pss_cons (ps_if (pt_cmpR op_eq (pv 1) pe_str (nomark _))
      (pss_one (ps_never)) pss_nil)
    (pss_cons (ps_if (pt_cmpR op_eq (pv 1) pe_str (nomark _))
      (pss_one (ps_never)) pss_nil)
    (pss_cons (ps_if (pt_cmpR op_eq (pv 1) pe_str (nomark _))
      (pss_one (ps_never)) pss_nil)
    (pss_one (ps_ret (pe_c G_leaf_of (hr.mono (by first | decide | omega)) (pa_cons (pv 0) pa_nil)))))))), ?_⟩
    cases f with
    | frac t b => exact ⟨_, rfl, v, _, 0, _, rfl, rfl, hf, atI_nat (j := 0) rfl, _, rfl, rfl, _, rfl, iteF ⟨_, rfl, rfl, _, rfl, iteF ⟨_, rfl, rfl, _, rfl, iteF ⟨_, rfl, v, .frac t b, rfl, hf, hg, k⟩⟩⟩⟩
    | root t s b => exact ⟨_, rfl, v, _, 0, _, rfl, rfl, hf, atI_nat (j := 0) rfl, _, rfl, rfl, _, rfl, iteF ⟨_, rfl, rfl, _, rfl, iteF ⟨_, rfl, rfl, _, rfl, iteF ⟨_, rfl, v, .root t s b, rfl, hf, hg, k⟩⟩⟩⟩
    | ruled ps ring steps =>
      obtain ⟨p, q, u, hv, h3⟩ := id hf
      exact ⟨_, rfl, v, _, 0, _, rfl, rfl, hv, atI_nat (j := 0) rfl, _, rfl, rfl, _, rfl, iteF ⟨_, rfl, rfl, _, rfl, iteF ⟨_, rfl, rfl, _, rfl, iteF ⟨_, rfl, v, .ruled ps ring steps, rfl, hf, hg, k⟩⟩⟩⟩
def sp_reader_leaf (A : Ad) (K : PySem.W.Frag) : Sp := fun vs H Q _ => ∃ (v : Addr) (f : Leaf), vs = [.ref v] ∧ f.At K H v ∧ f.Good ∧
  ∀ r a c m ch H', ReadAt A K H' r a c m ch 0 0 → f.Starts ch → Same H H' → H r = none → H a = none → H c = none → H m = none → Q (.ref r) H'
theorem ok_reader_leaf (T : CT K mg A) (TT : TB K w mg A) (D : DT K mg A) : COk P w K mg base CX0 7 "reader" ["tree"] (sp_reader_leaf A K) := by
  have G_box_of := ok_box_of_leaf (P := P) (w := w) (base := base) T D
  have I_Reading := ok_Reading_init (P := P) (w := w) (base := base) T D
  have G_at := ok_check_at_depth (P := P) (w := w) (base := base) (k := 3) T TT D (by decide) (ok_check_fraction T D) (ok_check_root T D) (ok_check_ruled T D) (ok_no D.check_four) (ok_no D.check_eight) (ok_no D.check_power)
  have G_check_tree := ok_check_tree D G_at
  refine COk.by D.reader fun f fd F => ?_
  refine F.ok sc_reader (fun vs H Q E h => ?_) (fun cdv Ar outer s H vs Q E hr h => ?_)
  · obtain ⟨v, f, rfl, _⟩ := h
    rfl
  · obtain ⟨v, f, rfl, hf, hg, k⟩ := h
    refine ⟨_, (pss_cons (ps_expr (pe_c G_check_tree (hr.mono (by first | decide | omega)) (pa_cons (pv 0) pa_nil)))
    (pss_one (ps_ret (pe_mk I_Reading (hr.mono (by first | decide | omega)) (pa_cons (pe_c G_box_of (hr.mono (by first | decide | omega)) (pa_cons (pv 0) pa_nil)) pa_nil))))), ?_⟩
    have rest : ∀ H1, Same H H1 → (tRet (tMake A.c_Reading (sp_Reading_init A) [] E0 (tCons (tCall (sp_leaf_of A K) [] E0 (tCons (tVar 0) tNil)) tNil))) { nx := fun _ H' => Q .non H', rt := Q } [some (V.ref v)] H1 := fun H1 s1 => by
      refine ⟨_, rfl, v, f, rfl, hf.same s1, hg, fun a c ch H2 hl st ok s2 na nc nac => ?_⟩
      intro x dx nx nd ne
      refine ⟨x, dx, a, rfl, upd_same, fun m H3 nm hx hm kp => ⟨rfl, ?_⟩⟩
      have s3 : Same H2 H3 := fun b o e => kp b o (by rw [upd_ne (ne_of_none e nx), upd_ne (ne_of_none e nd)]; exact e) (ne_of_none e nx)
      obtain ⟨⟨da, e2⟩, hc⟩ := id hl
      obtain ⟨C, dc, fs, e3⟩ := hc.there
      have nm2 : H2 m = none := by
        cases q : H2 m with
        | none => rfl
        | some o =>
          have hmx : m ≠ x := fun z => by rw [z, upd_same] at nm; cases nm
          have hmd : m ≠ dx := fun z => by rw [z, upd_ne ne, upd_same] at nm; cases nm
          rw [upd_ne hmx, upd_ne hmd, q] at nm
          cases nm
      have hxm : x ≠ m := fun z => by rw [← z, upd_same] at nm; cases nm
      have ss : Same H H3 := (s1.trans s2).trans s3
      exact k x a c m ch H3 ⟨⟨dx, hx⟩, ⟨⟨da, s3 _ _ e2⟩, hc.same s3⟩, hm, (ne_of_none e2 nx).symm, (ne_of_none e3 nx).symm, hxm, nac, ne_of_none e2 nm2, ne_of_none e3 nm2, ok⟩ st ss ((s1.trans s2).free nx) (s1.free na) (s1.free nc) ((s1.trans s2).free nm2)
    cases f with
    | frac t b => exact ⟨_, rfl, _, rfl, v, "fraction", [.int t, .int b], 1, rfl, by decide, hf, .inl ⟨rfl, rfl, v, t, b, 1, rfl, hf, hg.1, hg.2.1, hg.2.2, fun H' s' => rest H' s'⟩⟩
    | root t s b => exact ⟨_, rfl, _, rfl, v, "root", [.int t, .int s, .int b], 1, rfl, by decide, hf, .inr (.inl ⟨rfl, rfl, v, t, s, b, 1, rfl, hf, hg.1, hg.2.1, hg.2.2.1, hg.2.2.2.1, hg.2.2.2.2, fun H' s' => rest H' s'⟩)⟩
    | ruled ps ring steps =>
      obtain ⟨p, q, u, hv, hp, hq, hu⟩ := id hf
      exact ⟨_, rfl, _, rfl, v, "ruled", [.ref p, .ref q, .ref u], 1, rfl, by decide, hv, .inr (.inr (.inl ⟨rfl, rfl, v, p, q, u, ps, ring, steps, 1, rfl, hv, hp, hq, hu, hg, fun H' s' => rest H' s'⟩))⟩
end
/-! ### what is told, as the laws hold it against what is due -/
def Ans.vals : Ans → List V
  | .part n => [.str "part", .int n]
  | .fin => [.str "end"]
  | .waits => [.str "waits"]
theorem ints_at' {ns : List Int} {i : Nat} {y : V} (h : (ns.map V.int)[i]? = some y) : ∃ z, ns[i]? = some z ∧ y = V.int z := by
  rw [List.getElem?_map] at h
  cases e : ns[i]? with
  | none => rw [e] at h; cases h
  | some z => rw [e] at h; exact ⟨z, rfl, (Option.some.inj h).symm⟩
def Ans.data : Ans → List PyData
  | .part n => [.str "part", .int n]
  | .fin => [.str "end"]
  | .waits => [.str "waits"]
section
variable {P : Program} {w : World} {K : PySem.W.Frag} {mg : Str → Option Value} {base : Heap} {A : Ad}
theorem Ans.At.tup (T : CT K mg A) {H : Hp} {v : V} {a : Ans} (h : a.At A H v) : ∃ p, v = .ref p ∧ SqT K H p a.vals := by
  cases a with
  | part n =>
    obtain ⟨p, e, hp⟩ := h
    exact ⟨p, e, SqT.of hp⟩
  | fin => exact ⟨_, h, T.t_END H⟩
  | waits => exact ⟨_, h, T.t_WAITS H⟩
theorem Ans.shaped (a : Ans) : SeqAt.shaped (.tuple a.data) = true := by
  have h1 : PyData.strOk "part" = true := by decide +kernel
  have h2 : PyData.strOk "end" = true := by decide +kernel
  have h3 : PyData.strOk "waits" = true := by decide +kernel
  cases a with
  | part n => simp [SeqAt.shaped, Ans.data, PyData.canLay0, PyData.canLayAll0, PyData.depth, PyData.depthAll, h1]
  | fin => simp [SeqAt.shaped, Ans.data, PyData.canLay0, PyData.canLayAll0, PyData.depth, PyData.depthAll, h2]
  | waits => simp [SeqAt.shaped, Ans.data, PyData.canLay0, PyData.canLayAll0, PyData.depth, PyData.depthAll, h3]
theorem Ans.dp {H : Hp} {p : Addr} (a : Ans) (h : SqT K H p a.vals) : Dp K H (.ref p) (.tuple a.data) := by
  cases a with
  | part n => exact .tup h (.cons (.str _) (.cons (.int n) .nil))
  | fin => exact .tup h (.cons (.str _) .nil)
  | waits => exact .tup h (.cons (.str _) .nil)
theorem ans_sq {H H' : Hp} {b c m : Addr} {xs : List V} (h : SqT K H b xs) (hc : ∃ C dx fs, H c = some (.ins C dx fs)) (hm : ∃ C dx fs, H m = some (.ins C dx fs)) (k : ∀ b o, H b = some o → b ≠ c → b ≠ m → H' b = some o) : SqT K H' b xs :=
  sqT_but (N := fun z => z = c ∨ z = m) h (fun b o e n => k b o e (fun z => n (.inl z)) fun z => n (.inr z)) fun b o e z => by
    rcases e with rfl | rfl
    · obtain ⟨C, dx, fs, e⟩ := hc; rw [e] at z; exact ins_no (Option.some.inj z).symm
    · obtain ⟨C, dx, fs, e⟩ := hm; rw [e] at z; exact ins_no (Option.some.inj z).symm
/-- what a leaf's reading tells is what is due -/
def sp_law_got (A : Ad) (K : PySem.W.Frag) : Sp := fun vs H Q _ => ∃ (r a c m d : Addr) (ch : Chain) (l s n : Int), vs = [.ref r, .int n, .ref d] ∧ ReadAt A K H r a c m ch l s ∧ SqT K H d (ch.ans n).vals ∧
  ∀ H', ReadAt A K H' r a c m (ch.then_ n) (n - ch.took n) (s + ch.took n) → (∀ b o, H b = some o → b ≠ c → b ≠ m → H' b = some o) → Q (.bl true) H'
end
/-! ### first_parts of a leaf -/
def firstC : Chain → Nat → Int → List Int × Str
  | _, 0, _ => ([], "parts")
  | ch, many + 1, left => if ch.ended = true then ([], "end") else if left < 1 then ([], "waits") else (ch.part :: (firstC ch.next many (left - 1)).1, (firstC ch.next many (left - 1)).2)
theorem firstC_len : ∀ (many : Nat) (ch : Chain) (left : Int), (firstC ch many left).1.length ≤ many
  | 0, _, _ => Nat.le_refl _
  | many + 1, ch, left => by
    rw [firstC]
    split
    · exact Nat.zero_le _
    · split
      · exact Nat.zero_le _
      · show (firstC ch.next many (left - 1)).1.length + 1 ≤ many + 1
        have := firstC_len many ch.next (left - 1)
        omega
section
variable {P : Program} {w : World} {K : PySem.W.Frag} {mg : Str → Option Value} {base : Heap} {A : Ad}
def sp_first_leaf (A : Ad) (K : PySem.W.Frag) : Sp := fun vs H Q _ => ∃ (v : Addr) (f : Leaf) (many : Nat) (most : Int), vs = [.ref v, .int many, .int most] ∧ f.At K H v ∧ f.Good ∧ many ≤ 1000000 ∧ 0 ≤ most ∧
  ∀ ch p l H', f.Starts ch → Same H H' → H p = none → H l = none → H' p = some (.tup [.ref l, .str (firstC ch many most).2]) → H' l = some (.lst ((firstC ch many most).1.map V.int)) → Q (.ref p) H'
theorem ok_first_leaf (T : CT K mg A) (TT : TB K w mg A) (D : DT K mg A) : COk P w K mg base CX0 8 "first_parts" ["tree", "many", "most"] (sp_first_leaf A K) := by
  have G_reader := ok_reader_leaf (P := P) (w := w) (base := base) T TT D
  have M_part := ok_part_leaf (P := P) (w := w) (base := base) T D
  have M_took := ok_took_leaf (P := P) (w := w) (base := base) T D
  refine COk.by D.first_parts fun f fd F => ?_
  refine F.ok sc_first_parts (fun vs H Q E h => ?_) (fun cdv Ar outer s H vs Q E hr h => ?_)
  · obtain ⟨v, f, many, most, rfl, _⟩ := h
    rfl
  · obtain ⟨v, f, many, most, rfl, hf, hg, hm, h0, k⟩ := h
    refine ⟨_, (pss_cons (ps_set (i := 3) sc_first_parts.nd rfl (Or.inl rfl) (pe_c G_reader (hr.mono (by first | decide | omega)) (pa_cons (pv 0) pa_nil)))
    (pss_cons (ps_set (i := 4) sc_first_parts.nd rfl (Or.inl rfl) (pe_lst pa_nil))
    (pss_cons (ps_while PassesOwn.never (pt_cmpR op_lt (pe_callB call_len_seq (by rfl) T.b_len (by decide +kernel) (pa_cons (pv 4) pa_nil)) (pv 1) (nomark _))
      (pss_cons (ps_set (i := 5) sc_first_parts.nd rfl (Or.inl rfl) (pe_m M_part (hr.mono (by first | decide | omega)) (pv 3) (pa_cons (pe_op op_sub (pv 2) (pe_m0 M_took (hr.mono (by first | decide | omega)) (pv 3))) pa_nil)))
    (pss_cons (ps_if (pt_cmpR op_ne (pe_ix ix_tup (pv 5) pe_int (fun _ _ => rfl)) pe_str (nomark _))
      (pss_one (ps_ret (pe_tup (pa_cons (pv 4) (pa_cons (pe_ix ix_tup (pv 5) pe_int (fun _ _ => rfl)) pa_nil))))) pss_nil)
    (pss_one (ps_expr (pe_bm PySem.F.plainAttrs_list PySem.F.slot_list_append PySem.F.type_list_append mt_append (pv 4) (pa_cons (pe_ix ix_tup (pv 5) pe_int (fun _ _ => rfl)) pa_nil)))))))
    (pss_one (ps_ret (pe_tup (pa_cons (pv 4) (pa_cons pe_str pa_nil)))))))), ?_⟩
    refine ⟨_, rfl, v, f, rfl, hf, hg, fun r a c m ch H1 R1 st s1 nr na nc nm => ?_⟩
    refine ⟨Nat.zero_le _, fun l nl => ?_⟩
    have s2 := same_upd (o := .lst []) nl
    have nlH : H l = none := s1.free nl
    obtain ⟨C1, dc1, fs1, ec1⟩ := R1.lf.2.there
    obtain ⟨dm1, em1⟩ := R1.mt
    have nlc : l ≠ c := (ne_of_none ec1 nl).symm
    have nlm : l ≠ m := (ne_of_none em1 nl).symm
    have kk := fun p H' => k ch p l H' st
    generalize hfull : firstC ch many most = full at *
    have hfl : full.1.length ≤ many := by rw [← hfull]; exact firstC_len _ _ _
    refine while_by (fun σ H2 => ∃ (acc : List Int) (ch' : Chain) (lf s : Int) (v5 : Option V), σ = [some (.ref v), some (.int many), some (.int most), some (.ref r), some (.ref l), v5] ∧ acc.length ≤ many ∧ s ≤ most ∧ (acc ++ (firstC ch' (many - acc.length) (most - s)).1, (firstC ch' (many - acc.length) (most - s)).2) = full ∧ Same H H2 ∧ H2 l = some (.lst (acc.map V.int)) ∧ ReadAt A K H2 r a c m ch' lf s)
      (fun _ H2 => match H2 l with | some (.lst xs) => many - xs.length | _ => 0) ⟨[], ch, 0, 0, none, rfl, Nat.zero_le _, h0, ?_, s1.trans s2, upd_same, R1.same s2⟩ ?_ ?_
    · rw [Int.sub_zero]
      exact hfull
    · rintro σ H2 ⟨acc, ch', lf, sp, v5, rfl, hal, hsm, eq, sH, hl2, R2⟩
      have hlen : (acc.map V.int).length = acc.length := List.length_map _
      refine ⟨_, rfl, l, _, rfl, .inl (SqL.of hl2), _, rfl, _, _, rfl, rfl, _, rfl, ?_⟩
      rw [hlen]
      by_cases cm : acc.length < many
      · rw [decide_eq_true (by omega)]
        refine iteT ?_
        obtain ⟨n, hn⟩ : ∃ n, many - acc.length = n + 1 := ⟨many - acc.length - 1, by omega⟩
        obtain ⟨rx, er⟩ := R2.rd
        obtain ⟨dm2, em2⟩ := R2.mt
        refine ⟨_, rfl, r, rx, _, rfl, er, rfl, _, rfl, _, rfl, r, rx, _, rfl, er, rfl, r, a, c, m, ch', lf, sp, rfl, R2, _, _, rfl, rfl, r, a, c, m, ch', lf, sp, most - sp, rfl, R2, fun v H3 R3 ha kp => ?_⟩
        have hl3 := kp l _ hl2 nlc nlm
        have sH3 : Same H H3 := fun b o e => kp b o (sH b o e) (ne_of_none e nc) (ne_of_none e nm)
        obtain ⟨p, rfl, hp⟩ := ha.tup T
        rw [hn, firstC] at eq
        by_cases ce : ch'.ended = true
        · obtain ⟨e1, e2, e3⟩ : ch'.ans (most - sp) = .fin ∧ ch'.then_ (most - sp) = ch' ∧ ch'.took (most - sp) = 0 := ⟨by unfold Chain.ans; rw [if_pos ce], by unfold Chain.then_; rw [if_pos ce], by unfold Chain.took; rw [if_pos ce]⟩
          rw [if_pos ce] at eq
          rw [e1] at hp
          refine ⟨_, rfl, p, _, 0, .str "end", rfl, rfl, hp, atI_nat (j := 0) rfl, rfl, _, rfl, iteT ?_⟩
          refine ⟨_, rfl, _, rfl, p, _, 0, .str "end", rfl, rfl, hp, atI_nat (j := 0) rfl, (by show 2 ≤ sizeLine; decide), fun q nq => ?_⟩
          have s4 := same_upd (o := .tup [V.ref l, .str "end"]) nq
          rw [← eq, List.append_nil] at kk
          exact kk q _ (sH3.trans s4) (sH3.free nq) nlH upd_same (s4 _ _ hl3)
        · rw [if_neg ce] at eq
          have ce' : ch'.ended = false := by rw [Bool.not_eq_true] at ce; exact ce
          by_cases cl : most - sp < 1
          · obtain ⟨e1, e2, e3⟩ : ch'.ans (most - sp) = .waits ∧ ch'.then_ (most - sp) = ch' ∧ ch'.took (most - sp) = 0 := ⟨by unfold Chain.ans; rw [if_neg ce, if_pos cl], by unfold Chain.then_; rw [if_neg ce, if_pos cl], by unfold Chain.took; rw [if_neg ce, if_pos cl]⟩
            rw [if_pos cl] at eq
            rw [e1] at hp
            refine ⟨_, rfl, p, _, 0, .str "waits", rfl, rfl, hp, atI_nat (j := 0) rfl, rfl, _, rfl, iteT ?_⟩
            refine ⟨_, rfl, _, rfl, p, _, 0, .str "waits", rfl, rfl, hp, atI_nat (j := 0) rfl, (by show 2 ≤ sizeLine; decide), fun q nq => ?_⟩
            have s4 := same_upd (o := .tup [V.ref l, .str "waits"]) nq
            rw [← eq, List.append_nil] at kk
            exact kk q _ (sH3.trans s4) (sH3.free nq) nlH upd_same (s4 _ _ hl3)
          · obtain ⟨e1, e2, e3⟩ : ch'.ans (most - sp) = .part ch'.part ∧ ch'.then_ (most - sp) = ch'.next ∧ ch'.took (most - sp) = 1 := ⟨by unfold Chain.ans; rw [if_neg ce, if_neg cl], by unfold Chain.then_; rw [if_neg ce, if_neg cl], by unfold Chain.took; rw [if_neg ce, if_neg cl]⟩
            rw [if_neg cl] at eq
            rw [e1] at hp
            rw [e2, e3] at R3
            refine ⟨_, rfl, p, _, 0, .str "part", rfl, rfl, hp, atI_nat (j := 0) rfl, rfl, _, rfl, iteF ?_⟩
            refine ⟨_, rfl, .inl ⟨rfl, _, SqL.of hl3⟩, _, rfl, p, _, 1, .int ch'.part, rfl, rfl, hp, atI_nat (j := 1) rfl, l, _, _, rfl, rfl, hl3, ?_, ?_⟩
            · rw [hlen]
              exact Nat.lt_of_lt_of_le (show acc.length < 1000001 by omega) (by decide)
            · have hl4 : ∀ H', H' = upd H3 l (.lst (acc.map V.int ++ [V.int ch'.part])) → H' l = some (.lst ((acc ++ [ch'.part]).map V.int)) := fun H' e => by rw [e, upd_same, List.map_append]; rfl
              refine ⟨⟨acc ++ [ch'.part], ch'.next, most - sp - 1, sp + 1, _, rfl, ?_, by omega, ?_, ?_, hl4 _ rfl, ?_⟩, ?_⟩
              · rw [List.length_append]
                show acc.length + 1 ≤ many
                omega
              · rw [← eq, List.length_append]
                have en : many - (acc.length + [ch'.part].length) = n := by
                  show many - (acc.length + 1) = n
                  omega
                have es : most - (sp + 1) = most - sp - 1 := by omega
                rw [en, es, List.append_assoc]
                rfl
              · intro b o e
                rw [upd_ne (ne_of_none e nlH)]
                exact sH3 b o e
              · exact R3.put hl3 nlc nlm
              · rw [hl4 _ rfl, hl2]
                show many - ((acc ++ [ch'.part]).map V.int).length < many - (acc.map V.int).length
                rw [List.length_map, List.length_map, List.length_append]
                show many - (acc.length + 1) < many - acc.length
                omega
      · rw [decide_eq_false (by omega)]
        refine iteF ⟨_, rfl, (by show 2 ≤ sizeLine; decide), fun q nq => ?_⟩
        have s4 := same_upd (o := .tup [V.ref l, .str "parts"]) nq
        have en : many - acc.length = 0 := by omega
        rw [en, firstC, List.append_nil] at eq
        rw [← eq] at kk
        exact kk q _ (sH.trans s4) (sH.free nq) nlH upd_same (s4 _ _ hl2)
    · intro σ H2 Q1 Q2 im hq2
      obtain ⟨x, e, p, ys, e1, e2, y, e3, i, j, e4, e5, b, e6, z⟩ := hq2
      exact ⟨x, e, p, ys, e1, e2, y, e3, i, j, e4, e5, b, e6, im _ _ z⟩
end
/-! ### numbers (a + b root of d) / c: their whole parts, what is left of them, in plain Lean -/
theorem fdiv_unique_neg {a b q r : Int} (hb : b < 0) (h : a = q * b + r) (h0 : r ≤ 0) (h1 : b < r) : a.fdiv b = q := by
  have := (fdiv_unique (a := -a) (b := -b) (q := q) (r := -r) (by omega) (by rw [h]; grind) (by omega) (by omega)).1
  rw [Int.neg_fdiv_neg] at this
  exact this
theorem fdiv_scale {g A C : Int} (hg : g ≠ 0) (hC : 0 < C) : (g * A).fdiv (g * C) = A.fdiv C ∧ (g * A).fmod (g * C) = g * A.fmod C := by
  have e := fdm A C
  obtain ⟨m0, m1⟩ := fmod_pos (a := A) hC
  have k : (g * A).fdiv (g * C) = A.fdiv C := by
    rcases Int.lt_or_gt_of_ne hg with z | z
    · have p1 := Int.mul_nonneg (show 0 ≤ -g by omega) m0
      have p2 := Int.mul_pos (show 0 < -g by omega) (show 0 < C - A.fmod C by omega)
      have p3 := Int.mul_pos (show 0 < -g by omega) hC
      refine fdiv_unique_neg (r := g * A.fmod C) (by have : -g * C = -(g * C) := by grind
                                                     omega) ?_ (by have : -g * A.fmod C = -(g * A.fmod C) := by grind
                                                                   omega) (by have : -g * (C - A.fmod C) = -(g * C) + g * A.fmod C := by grind
                                                                              omega)
      generalize A.fmod C = m at *
      generalize A.fdiv C = q at *
      rw [← e]
      grind
    · have p1 := Int.mul_nonneg (show 0 ≤ g by omega) m0
      have p2 := Int.mul_pos z (show 0 < C - A.fmod C by omega)
      refine (fdiv_unique (r := g * A.fmod C) (Int.mul_pos z hC) ?_ p1 (by have : g * (C - A.fmod C) = g * C - g * A.fmod C := by grind
                                                                           omega)).1
      generalize A.fmod C = m at *
      generalize A.fdiv C = q at *
      rw [← e]
      grind
  refine ⟨k, ?_⟩
  have e2 := fdm (g * A) (g * C)
  rw [k] at e2
  generalize A.fmod C = m at *
  generalize A.fdiv C = q at *
  have : g * C * q = g * (C * q) := Int.mul_assoc _ _ _
  have : g * A = g * (C * q) + g * m := by rw [← e]; grind
  omega
theorem root_max {n r z : Int} (h : IsRoot n r) (hz : z * z ≤ n) : z ≤ r := by
  obtain ⟨h0, h1, h2⟩ := h
  rcases Int.lt_or_le r z with y | y
  · have := Int.mul_le_mul (show r + 1 ≤ z by omega) (show r + 1 ≤ z by omega) (by omega) (by omega)
    omega
  · exact y
/-- z against a root, and the same times g -/
theorem root_times {s r r' g z : Int} (hg : 0 < g) (h : IsRoot (g * g * s) r) (h' : IsRoot s r') : (z ≤ r' → g * z ≤ r) ∧ (r' < z → r < g * z) := by
  refine ⟨fun hz => ?_, fun hz => ?_⟩
  · rcases Int.lt_or_le 0 z with y | y
    · refine root_max h ?_
      have k1 := Int.mul_le_mul hz hz (by omega) h'.1
      have k2 := Int.mul_le_mul_of_nonneg_left (show z * z ≤ s from Int.le_trans k1 h'.2.1) (sq_nonneg g)
      have : g * z * (g * z) = g * g * (z * z) := by grind
      omega
    · have := Int.mul_nonneg (show 0 ≤ g by omega) (show 0 ≤ -z by omega)
      have e : g * -z = -(g * z) := by grind
      have := h.1
      omega
  · rcases Int.lt_or_le r (g * z) with y | y
    · exact y
    · exfalso
      have z0 : 0 < z := by have := h'.1; omega
      have gz : 0 < g * z := Int.mul_pos hg z0
      have k1 := Int.mul_le_mul y y (by omega) h.1
      have k2 : s < z * z := by
        have := Int.mul_le_mul (show r' + 1 ≤ z by omega) (show r' + 1 ≤ z by omega) (by have := h'.1; omega) (by omega)
        have := h'.2.2
        omega
      have k3 := Int.mul_lt_mul_of_pos_left k2 (Int.mul_pos hg hg)
      have e : g * z * (g * z) = g * g * (z * z) := by grind
      have := h.2.1
      omega
/-- the whole part, as the laws reckon it -/
def qroot (B d r' : Int) : Int := if B < 0 then 0 - r' - (if r' * r' < B * B * d then 1 else 0) else r'
def qbelow (A B C d r' : Int) : Int := (A + qroot B d r').fdiv C
theorem qfloor {A B C d g r r' : Int} (hg : g ≠ 0) (hC : 0 < C) (hB : 0 < g * B) (hr : IsRoot (g * B * (g * B) * d) r) (hn : r * r ≠ g * B * (g * B) * d) (hr' : IsRoot (B * B * d) r') : qbelow A B C d r' = rootPart (g * A) (g * C) r := by
  have e0 : g * B * (g * B) * d = g * g * (B * B * d) := by grind
  rw [e0] at hr hn
  have key : ∀ n : Int, qbelow A B C d r' = n → rootPart (g * A) (g * C) r = n := fun n hq => by
    unfold qbelow at hq
    have e := fdm (A + qroot B d r') C
    obtain ⟨m0, m1⟩ := fmod_pos (a := A + qroot B d r') hC
    rw [hq] at e
    unfold rootPart
    rcases Int.lt_or_gt_of_ne hg with z | z
    · have hBn : B < 0 := by
        rcases Int.lt_or_le B 0 with y | y
        · exact y
        · have := Int.mul_nonneg (show 0 ≤ -g by omega) y
          have e1 : -g * B = -(g * B) := by grind
          omega
      have hsq : r' * r' < B * B * d := by
        rcases Int.lt_or_le (r' * r') (B * B * d) with y | y
        · exact y
        · exfalso
          have e1 : r' * r' = B * B * d := by have := hr'.2.1; omega
          have e2 : (-g * r') * (-g * r') = g * g * (B * B * d) := by rw [← e1]; grind
          have h0 : 0 ≤ -g * r' := Int.mul_nonneg (by omega) hr'.1
          have e3 : (-g * r' + 1) * (-g * r' + 1) = (-g * r') * (-g * r') + 2 * (-g * r') + 1 := by grind
          have u := hr.unique (s := -g * r') ⟨h0, by omega, by omega⟩
          rw [u] at hn
          exact hn e2
      have eq : qroot B d r' = -r' - 1 := by
        unfold qroot
        rw [if_pos hBn, if_pos hsq]
        omega
      rw [eq] at e m0 m1
      have hQ : g * C < 0 := by
        have := Int.mul_pos (show 0 < -g by omega) hC
        have e1 : -g * C = -(g * C) := by grind
        omega
      rw [if_pos hQ]
      have e4 : -g * -g * (B * B * d) = g * g * (B * B * d) := by grind
      obtain ⟨_, t2⟩ := root_times (g := -g) (s := B * B * d) (r := r) (z := A - n * C) (by omega) (by rw [e4]; exact hr) hr'
      obtain ⟨t1, _⟩ := root_times (g := -g) (s := B * B * d) (r := r) (z := A - (n + 1) * C) (by omega) (by rw [e4]; exact hr) hr'
      have c1 : C * n = n * C := Int.mul_comm _ _
      have c2 : (n + 1) * C = n * C + C := by grind
      have b1 := t2 (by omega)
      have b2 := t1 (by omega)
      have e5 : -g * (A - n * C) = g * (n * C) - g * A := by grind
      have e6 : -g * (A - (n + 1) * C) = g * (n * C) + g * C - g * A := by grind
      have e7 : n * (g * C) = g * (n * C) := by grind
      exact fdiv_unique_neg (r := g * A + r + 1 - n * (g * C)) hQ (by omega) (by omega) (by omega)
    · have hBp : ¬ B < 0 := fun y => by
        have := Int.mul_nonneg (show 0 ≤ g by omega) (show 0 ≤ -B by omega)
        have e1 : g * -B = -(g * B) := by grind
        omega
      have eq : qroot B d r' = r' := by
        unfold qroot
        rw [if_neg hBp]
      rw [eq] at e m0 m1
      have hQ : 0 < g * C := Int.mul_pos z hC
      rw [if_neg (by omega)]
      obtain ⟨t1, _⟩ := root_times (g := g) (s := B * B * d) (r := r) (z := n * C - A) z hr hr'
      obtain ⟨_, t2⟩ := root_times (g := g) (s := B * B * d) (r := r) (z := (n + 1) * C - A) z hr hr'
      have c1 : C * n = n * C := Int.mul_comm _ _
      have c2 : (n + 1) * C = n * C + C := by grind
      have b1 := t1 (by omega)
      have b2 := t2 (by omega)
      have e5 : g * (n * C - A) = g * (n * C) - g * A := by grind
      have e6 : g * ((n + 1) * C - A) = g * (n * C) + g * C - g * A := by grind
      have e7 : n * (g * C) = g * (n * C) := by grind
      exact (fdiv_unique (r := g * A + r + 0 - n * (g * C)) hQ (by omega) (by omega) (by omega)).1
  exact (key _ rfl).symm
/-- no common factor -/
def Prim (a b c : Int) : Prop := Int.gcd (Int.gcd a b : Nat) c = 1
theorem prim_dvd {a b c h k : Int} (p : Prim a b c) (ha : h ∣ k * a) (hb : h ∣ k * b) (hc : h ∣ k * c) : h ∣ k := by
  have h1 : h ∣ (Int.gcd (k * a) (k * b) : Nat) := Int.dvd_coe_gcd ha hb
  rw [Int.gcd_mul_left] at h1
  have h2 : h ∣ k * (Int.gcd a b : Nat) := by
    rw [Int.natCast_mul] at h1
    rcases Int.le_total 0 k with z | z
    · rw [show ((k.natAbs : Nat) : Int) = k by omega] at h1
      exact h1
    · rw [show ((k.natAbs : Nat) : Int) = -k by omega, Int.neg_mul] at h1
      exact Int.dvd_neg.mp h1
  have h3 : h ∣ (Int.gcd (k * (Int.gcd a b : Nat)) (k * c) : Nat) := Int.dvd_coe_gcd h2 hc
  rw [Int.gcd_mul_left, show Int.gcd (Int.gcd a b : Nat) c = 1 from p, Nat.mul_one] at h3
  exact Int.dvd_natAbs.mp h3
/-- a law's number beside a chain: the same number -/
def QRel (d A B C : Int) : Chain → Prop
  | .frac t b => B = 0 ∧ ∃ g, g ≠ 0 ∧ t = g * A ∧ b = g * C
  | .root P s Q r => ∃ g, g ≠ 0 ∧ 0 < g * B ∧ P = g * A ∧ Q = g * C ∧ s = g * B * (g * B) * d
  | .ruled _ _ _ _ => False
/-- one over what is left -/
theorem qrel_next_root {d A B C P s Q r a h A3 B3 C3 : Int} (ok : RootOk P s Q r) (R : QRel d A B C (.root P s Q r)) (hC : 0 < C) (ha : a = rootPart P Q r) (hp : Prim A3 B3 C3)
    (e1 : C * (A - a * C) = h * A3) (e2 : -(C * B) = h * B3) (e3 : (A - a * C) * (A - a * C) - d * B * B = h * C3) (hC3 : 0 < C3) : QRel d A3 B3 C3 (Chain.next (.root P s Q r)) := by
  obtain ⟨g, hg, gB, rfl, rfl, hs⟩ := R
  have nx := root_next ok
  rw [← ha] at nx
  show QRel d A3 B3 C3 (.root (rootPart (g * A) (g * C) r * (g * C) - g * A) s ((s - (rootPart (g * A) (g * C) r * (g * C) - g * A) * (rootPart (g * A) (g * C) r * (g * C) - g * A)).fdiv (g * C)) r)
  rw [← ha]
  obtain ⟨q, hq⟩ : ∃ q, (s - (a * (g * C) - g * A) * (a * (g * C) - g * A)) = q * (g * C) := by
    obtain ⟨q0, h0⟩ := ok.dv
    refine ⟨q0 - a * (a * (g * C) - 2 * (g * A)), ?_⟩
    have : s - (a * (g * C) - g * A) * (a * (g * C) - g * A) = (s - g * A * (g * A)) - (a * (a * (g * C) - 2 * (g * A))) * (g * C) := by grind
    rw [this, h0]
    grind
  rw [hq, Int.mul_fdiv_cancel _ ok.nz]
  have hgC : g * C ≠ 0 := ok.nz
  -- C times the next numbers
  have k1 : C * (a * (g * C) - g * A) = (-g * h) * A3 := by
    have : C * (a * (g * C) - g * A) = -g * (C * (A - a * C)) := by grind
    rw [this, e1]
    grind
  have k2 : C * (g * B) = (-g * h) * B3 := by
    have : C * (g * B) = -g * -(C * B) := by grind
    rw [this, e2]
    grind
  have k3 : C * q = (-g * h) * C3 := by
    have z : (C * q - (-g * h) * C3) * g = 0 := by
      have w1 : q * (g * C) = g * g * (d * B * B - (A - a * C) * (A - a * C)) := by
        rw [← hq, hs]
        grind
      have w2 : d * B * B - (A - a * C) * (A - a * C) = -(h * C3) := by omega
      rw [w2] at w1
      have w3 : ∀ C q g h C3 : Int, (C * q - (-g * h) * C3) * g = q * (g * C) - g * g * -(h * C3) := by intros; grind
      rw [w3, w1]
      omega
    rcases Int.mul_eq_zero.mp z with y | y
    · omega
    · exact absurd y hg
  obtain ⟨g', hg'⟩ := prim_dvd hp (show C ∣ (-g * h) * A3 from ⟨_, k1.symm⟩) (show C ∣ (-g * h) * B3 from ⟨_, k2.symm⟩) (show C ∣ (-g * h) * C3 from ⟨_, k3.symm⟩)
  rw [hg'] at k1 k2 k3
  have cc : ∀ {x y : Int}, C * x = C * g' * y → x = g' * y := fun {x y} z => Int.eq_of_mul_eq_mul_left (show C ≠ 0 by omega) (by rw [z, Int.mul_assoc])
  have r1 := cc k1
  have r2 := cc k2
  have r3 := cc k3
  refine ⟨g', ?_, ?_, r1, r3, ?_⟩
  · intro z
    rw [z, Int.zero_mul] at r2
    omega
  · rw [← r2]
    exact gB
  · rw [← r2]
    exact hs
theorem qrel_next_frac {d A B C t b h A3 B3 C3 : Int} (R : QRel d A B C (.frac t b)) (hC : 0 < C) (hp : Prim A3 B3 C3)
    (e1 : C * (A - A.fdiv C * C) = h * A3) (e2 : -(C * B) = h * B3) (e3 : (A - A.fdiv C * C) * (A - A.fdiv C * C) - d * B * B = h * C3) (hC3 : 0 < C3) (hu : A - A.fdiv C * C ≠ 0) : QRel d A3 B3 C3 (Chain.next (.frac t b)) := by
  obtain ⟨rfl, g, hg, rfl, rfl⟩ := R
  obtain ⟨f1, f2⟩ := fdiv_scale (A := A) hg hC
  show QRel d A3 B3 C3 (.frac (g * C) ((g * A).fmod (g * C)))
  rw [f2, ← fmod_eq A C]
  generalize A - A.fdiv C * C = u at *
  have h0 : h ≠ 0 := fun z => by
    rw [z, Int.zero_mul] at e1
    rcases Int.mul_eq_zero.mp e1 with y | y <;> omega
  have hB3 : B3 = 0 := by
    rw [Int.mul_zero] at e2
    rcases Int.mul_eq_zero.mp (show h * B3 = 0 by omega) with y | y
    · exact absurd y h0
    · exact y
  refine ⟨hB3, ?_⟩
  -- u (gC, g u) = g h (A3, C3)
  have k1 : u * (g * C) = (g * h) * A3 := by
    have : u * (g * C) = g * (C * u) := by grind
    rw [this, e1]
    grind
  have k3 : u * (g * u) = (g * h) * C3 := by
    have e3' : u * u = h * C3 := by
      have : d * 0 * 0 = 0 := by grind
      omega
    have : u * (g * u) = g * (u * u) := by grind
    rw [this, e3']
    grind
  obtain ⟨g', hg'⟩ := prim_dvd hp (show u ∣ (g * h) * A3 from ⟨_, k1.symm⟩) (show u ∣ (g * h) * B3 from ⟨0, by rw [hB3]; grind⟩) (show u ∣ (g * h) * C3 from ⟨_, k3.symm⟩)
  rw [hg'] at k1 k3
  have cc : ∀ {x y : Int}, u * x = u * g' * y → x = g' * y := fun {x y} z => Int.eq_of_mul_eq_mul_left hu (by rw [z, Int.mul_assoc])
  have r1 := cc k1
  have r3 := cc k3
  refine ⟨g', fun z => ?_, r1, r3⟩
  rw [z, Int.zero_mul] at r1
  rcases Int.mul_eq_zero.mp r1 with w | w <;> omega
/-! ### the laws' own reckoning with (a + b root of d) / c -/
def bd (n : Nat) (z : Int) : Prop := z.natAbs < 2 ^ n
theorem bd.mono {m n : Nat} {z : Int} (h : bd m z) (hn : m ≤ n) : bd n z := Nat.lt_of_lt_of_le h (Nat.pow_le_pow_right (by decide) hn)
theorem bd.mul {m n : Nat} {x y : Int} (h : bd m x) (h' : bd n y) : bd (m + n) (x * y) := wide_lt h h'
theorem bd.add {n : Nat} {x y : Int} (h : bd n x) (h' : bd n y) : bd (n + 1) (x + y) := by
  have := Int.natAbs_add_le x y
  have e : 2 ^ (n + 1) = 2 ^ n + 2 ^ n := by rw [Nat.pow_succ]; omega
  have h1 : x.natAbs < 2 ^ n := h
  have h2 : y.natAbs < 2 ^ n := h'
  show (x + y).natAbs < 2 ^ (n + 1)
  omega
theorem bd.neg {n : Nat} {x : Int} (h : bd n x) : bd n (-x) := by
  show (-x).natAbs < _
  rw [Int.natAbs_neg]
  exact h
theorem bd.sub {n : Nat} {x y : Int} (h : bd n x) (h' : bd n y) : bd (n + 1) (x - y) := by
  rw [Int.sub_eq_add_neg]
  exact h.add h'.neg
theorem bd.cm {m n : Nat} {x y : Int} (h : bd m x) (h' : bd n y) (hm : 0 < m) (hn : 0 < n) (hs : m + n ≤ 1000000) : CMulW x y := wide_mul h h' hm hn hs
theorem bd.of_dvd {n : Nat} {a g x : Int} (h : bd n a) (e : a = g * x) (hg : g ≠ 0) : bd n x := by
  show x.natAbs < _
  have : a.natAbs = g.natAbs * x.natAbs := by rw [e, Int.natAbs_mul]
  have h1 : 1 * x.natAbs ≤ g.natAbs * x.natAbs := Nat.mul_le_mul_right _ (by omega)
  have h2 : a.natAbs < 2 ^ n := h
  omega
theorem bd0 {n : Nat} : bd n 0 := Nat.pow_pos (by decide)
theorem bd1 {n : Nat} (h : 0 < n) : bd n 1 := Nat.one_lt_two_pow (by omega)
/-- a made number: some triple without a common factor, below above nought -/
def MadeK (a b c : Int) (H : Hp) (Q : VK) : Prop := ∀ g a' b' c' p, a = g * a' → b = g * b' → c = g * c' → 0 < c' → g ≠ 0 → Prim a' b' c' → H p = none → Q (.ref p) (upd H p (.tup [.int a', .int b', .int c']))
section
variable {P : Program} {w : World} {K : PySem.W.Frag} {mg : Str → Option Value} {base : Heap} {A : Ad}
def sp_law_root : Sp := fun vs H Q _ => ∃ n : Int, vs = [.int n] ∧ 0 ≤ n ∧ bd 7000 n ∧ ∀ r, IsRoot n r → Q (.int r) H
theorem ok_law_root (D : DT K mg A) : COk P w K mg base CX0 1 "_law_root" ["_law_number"] sp_law_root := by
  refine COk.by D.law_root fun f fd F => ?_
  refine F.ok sc_law_root (fun vs H Q E h => ?_) (fun cdv Ar outer s H vs Q E hr h => ?_)
  · obtain ⟨n, rfl, _⟩ := h
    rfl
  · obtain ⟨n, rfl, h0, hw, k⟩ := h
    refine ⟨_, (pss_cons (ps_set (i := 1) sc_law_root.nd rfl (Or.inl rfl) pe_int)
    (pss_cons (ps_set (i := 2) sc_law_root.nd rfl (Or.inl rfl) (pe_op op_shl pe_int (pe_op op_add (pe_op op_fdiv (pe_bits (pv 0)) pe_int) pe_int)))
    (pss_cons (ps_while PassesOwn.never (pt_cmpR op_gt (pe_op op_sub (pv 2) (pv 1)) pe_int (nomark _))
      (pss_cons (ps_set (i := 3) sc_law_root.nd rfl (Or.inl rfl) (pe_op op_fdiv (pe_op op_add (pv 1) (pv 2)) pe_int))
    (pss_one (ps_if (pt_cmpR op_le (pe_op op_mulW (pv 3) (pv 3)) (pv 0) (nomark _))
      (pss_one (ps_set (i := 1) sc_law_root.nd rfl (Or.inl rfl) (pv 3))) (pss_one (ps_set (i := 2) sc_law_root.nd rfl (Or.inl rfl) (pv 3)))))))
    (pss_one (ps_ret (pv 1)))))), ?_⟩
    have hbits : Builtin.Int.intBits n ≤ 7000 := PyProof.Rows.intBits_le hw
    have hb : n < (2 : Int) ^ Builtin.Int.intBits n := by
      unfold Builtin.Int.intBits
      split
      · rename_i z
        have : n = 0 := by simpa using z
        subst this
        decide
      · have := Nat.lt_log2_self (n := n.natAbs)
        have e : ((2 ^ (n.natAbs.log2 + 1) : Nat) : Int) = 2 ^ (n.natAbs.log2 + 1) := by norm_cast
        omega
    refine ⟨_, rfl, _, rfl, _, _, rfl, rfl, ⟨by decide, by decide⟩, _, _, rfl, rfl, _, _, rfl, rfl, ⟨by omega, by omega, by decide⟩, ?_⟩
    have e0 : ((Builtin.Int.intBits n : Nat) : Int) / 2 + 1 = ((Builtin.Int.intBits n / 2 + 1 : Nat) : Int) := by omega
    have e1 : (1 : Int) * 2 ^ (((Builtin.Int.intBits n : Nat) : Int) / 2 + 1).toNat = 2 ^ (Builtin.Int.intBits n / 2 + 1) := by rw [e0, Int.toNat_natCast, Int.one_mul]
    show tSeq _ _ _ [some (V.int n), some (V.int 0), some (V.int ((1 : Int) * 2 ^ (((Builtin.Int.intBits n : Nat) : Int) / 2 + 1).toNat)), none] H
    rw [e1]
    generalize Builtin.Int.intBits n = m at *
    have hsq : n < (2 : Int) ^ (m / 2 + 1) * 2 ^ (m / 2 + 1) := by
      rw [← Int.pow_add]
      have z := Nat.pow_le_pow_right (n := 2) (by decide) (show m ≤ m / 2 + 1 + (m / 2 + 1) by omega)
      have z2 : (2 : Int) ^ m ≤ 2 ^ (m / 2 + 1 + (m / 2 + 1)) := by exact_mod_cast z
      omega
    have hpos : (0 : Int) < 2 ^ (m / 2 + 1) := Int.pow_pos (by decide)
    have hbig : (2 : Int) ^ (m / 2 + 1) < 2 ^ 4000 := Int.pow_lt_pow_of_lt (by decide) (by omega)
    generalize (2 : Int) ^ (m / 2 + 1) = hi at *
    refine while_by (fun σ H2 => ∃ (lo hi : Int) (v : Option V), σ = [some (.int n), some (.int lo), some (.int hi), v] ∧ 0 ≤ lo ∧ lo < hi ∧ hi < 2 ^ 4000 ∧ lo * lo ≤ n ∧ n < hi * hi ∧ H2 = H)
      (fun σ _ => match σ with | [_, some (.int lo), some (.int hi), _] => (hi - lo).toNat | _ => 0) ⟨0, hi, none, rfl, by decide, hpos, hbig, by omega, hsq, rfl⟩ ?_ ?_
    · rintro σ H2 ⟨lo, hi, v, rfl, l0, lh, hb2, l1, h1, rfl⟩
      refine ⟨_, rfl, _, rfl, _, _, rfl, rfl, _, _, rfl, rfl, _, rfl, ite2 (fun c => ?_) (fun c => ?_)⟩
      · have c' : 1 < hi - lo := of_decide_eq_true c
        have mid0 : 0 ≤ (lo + hi) / 2 := by omega
        have midb : (lo + hi) / 2 < 2 ^ 4000 := by omega
        have cm : CMulW ((lo + hi) / 2) ((lo + hi) / 2) := wide_mul (a := 4000) (b := 4000) (natAbs_lt_pow mid0 midb) (natAbs_lt_pow mid0 midb) (by decide) (by decide) (by decide)
        refine ⟨_, rfl, _, rfl, _, _, rfl, rfl, _, _, rfl, rfl, ⟨by decide, by decide⟩, ?_⟩
        refine ⟨_, rfl, _, rfl, _, _, rfl, rfl, cm, _, rfl, _, _, rfl, rfl, _, rfl, ite2 (fun c2 => ?_) (fun c2 => ?_)⟩
        · have c2' : (lo + hi) / 2 * ((lo + hi) / 2) ≤ n := of_decide_eq_true c2
          exact ⟨_, rfl, ⟨_, _, _, rfl, mid0, by omega, hb2, c2', h1, rfl⟩, by show (hi - (lo + hi) / 2).toNat < (hi - lo).toNat; omega⟩
        · have c2' : ¬ (lo + hi) / 2 * ((lo + hi) / 2) ≤ n := fun z => c2 (decide_eq_true z)
          exact ⟨_, rfl, ⟨_, _, _, rfl, l0, by omega, midb, l1, by omega, rfl⟩, by show ((lo + hi) / 2 - lo).toNat < (hi - lo).toNat; omega⟩
      · have c' : ¬ 1 < hi - lo := fun z => c (decide_eq_true z)
        have e : hi = lo + 1 := by omega
        subst e
        exact ⟨_, rfl, k lo ⟨l0, l1, h1⟩⟩
    · intro σ H2 Q1 Q2 im hq
      obtain ⟨x, e, y, e2, i, j, e3, e4, i2, j2, e5, e6, b, e7, z⟩ := hq
      exact ⟨x, e, y, e2, i, j, e3, e4, i2, j2, e5, e6, b, e7, im _ _ z⟩
def sp_law_made : Sp := fun vs H Q _ => ∃ a b c : Int, vs = [.int a, .int b, .int c] ∧ c ≠ 0 ∧ bd 7000 a ∧ bd 7000 b ∧ bd 7000 c ∧ MadeK a b c H Q
theorem ok_law_made (D : DT K mg A) (G_law_common : COk P w K mg base CX0 1 "_law_common" ["_law_one", "_law_other"] sp_law_common) : COk P w K mg base CX0 2 "_law_made" ["_law_a", "_law_b", "_law_c"] sp_law_made := by
  refine COk.by D.law_made fun f fd F => ?_
  refine F.ok sc_law_made (fun vs H Q E h => ?_) (fun cdv Ar outer s H vs Q E hr h => ?_)
  · obtain ⟨a, b, c, rfl, _⟩ := h
    rfl
  · obtain ⟨a, b, c, rfl, hc, ba, bb, bc, k⟩ := h
    refine ⟨_, (pss_cons (ps_set (i := 3) sc_law_made.nd rfl (Or.inl rfl) (pe_c G_law_common (hr.mono (by first | decide | omega)) (pa_cons (pe_c G_law_common (hr.mono (by first | decide | omega)) (pa_cons (pv 0) (pa_cons (pv 1) pa_nil))) (pa_cons (pv 2) pa_nil))))
    (C8.pss_cut (ps_if (pt_cmpR op_lt (pv 2) pe_int (nomark _))
      (pss_one (ps_set (i := 3) sc_law_made.nd rfl (Or.inl rfl) (pe_op op_sub pe_int (pv 3)))) pss_nil)
    (pss_one (ps_ret (pe_tup (pa_cons (pe_op op_fdivS (pv 0) (pv 3)) (pa_cons (pe_op op_fdivS (pv 1) (pv 3)) (pa_cons (pe_op op_fdivS (pv 2) (pv 3)) pa_nil)))))))), ?_⟩
    refine ⟨_, rfl, _, rfl, a, b, rfl, _, rfl, _, c, rfl, ?_⟩
    obtain ⟨G, hG⟩ : ∃ G : Nat, Int.gcd (Int.gcd a b : Nat) c = G := ⟨_, rfl⟩
    have hG0 : G ≠ 0 := fun z => by
      rw [z] at hG
      exact hc (Int.gcd_eq_zero_iff.mp hG).2
    have dc : (G : Int) ∣ c := by rw [← hG]; exact Int.gcd_dvd_right ..
    have dab : (G : Int) ∣ (Int.gcd a b : Nat) := by rw [← hG]; exact Int.gcd_dvd_left ..
    have da : (G : Int) ∣ a := Int.dvd_trans dab (Int.gcd_dvd_left ..)
    have db : (G : Int) ∣ b := Int.dvd_trans dab (Int.gcd_dvd_right ..)
    obtain ⟨g, hg⟩ : ∃ g : Int, g = if c < 0 then -(G : Int) else G := ⟨_, rfl⟩
    have g0 : g ≠ 0 := by rw [hg]; split <;> omega
    have hgd : ∀ {z : Int}, (G : Int) ∣ z → ∃ z', z = g * z' := fun {z} h => by
      obtain ⟨y, hy⟩ := h
      rw [hg]
      split
      · exact ⟨-y, by rw [hy]; grind⟩
      · exact ⟨y, hy⟩
    obtain ⟨a', ea⟩ := hgd da
    obtain ⟨b', eb⟩ := hgd db
    obtain ⟨c', ec⟩ := hgd dc
    have c0 : 0 < c' := by
      rcases Int.lt_or_le 0 c' with z | z
      · exact z
      · exfalso
        by_cases y : c < 0
        · rw [if_pos y] at hg
          have := Int.mul_nonneg_of_nonpos_of_nonpos (show g ≤ 0 by omega) z
          omega
        · rw [if_neg y] at hg
          have := Int.mul_nonneg (show 0 ≤ g by omega) (show 0 ≤ -c' by omega)
          have e : g * -c' = -(g * c') := by grind
          omega
    have hprim : Prim a' b' c' := by
      have h1 : G = g.natAbs := by rw [hg]; split <;> omega
      rw [ea, eb, ec, Int.gcd_mul_left] at hG
      have h2 : Int.gcd ((g.natAbs * Int.gcd a' b' : Nat) : Int) (g * c') = g.natAbs * Int.gcd (Int.gcd a' b' : Nat) c' := by
        have h3 : Int.gcd (g * (Int.gcd a' b' : Nat)) (g * c') = g.natAbs * Int.gcd (Int.gcd a' b' : Nat) c' := Int.gcd_mul_left ..
        rw [← h3]
        generalize Int.gcd a' b' = m
        unfold Int.gcd
        congr 1
        rw [Int.natAbs_mul, Int.natAbs_natCast, Int.natAbs_natCast]
      rw [h2, h1] at hG
      have : g.natAbs * Int.gcd (Int.gcd a' b' : Nat) c' = g.natAbs * 1 := by omega
      exact Nat.eq_of_mul_eq_mul_left (by omega) this
    have bg : CDivS a g ∧ CDivS b g ∧ CDivS c g := by
      have : g.natAbs < 2 ^ 8000 := by
        have z : bd 7000 g := bc.of_dvd (g := c') (by rw [ec, Int.mul_comm]) (by omega)
        exact Nat.lt_trans z (Nat.pow_lt_pow_right (by decide) (by decide))
      exact ⟨⟨g0, this⟩, ⟨g0, this⟩, ⟨g0, this⟩⟩
    refine ⟨fun σ H2 => σ = [some (.int a), some (.int b), some (.int c), some (.int g)] ∧ H2 = H, ?_, ?_⟩
    · refine ⟨_, rfl, _, _, rfl, rfl, _, rfl, ite2 (fun cc => ?_) (fun cc => ?_)⟩
      · have c' : c < 0 := of_decide_eq_true cc
        refine ⟨_, rfl, _, _, rfl, rfl, ?_, rfl⟩
        show [some (V.int a), some (V.int b), some (V.int c), some (V.int (0 - ((Int.gcd (Int.gcd a b : Nat) c : Nat) : Int)))] = _
        rw [hG, show (0 : Int) - (G : Int) = g by rw [hg, if_pos c']; omega]
      · have c' : ¬ c < 0 := fun z => cc (decide_eq_true z)
        refine ⟨?_, rfl⟩
        show [some (V.int a), some (V.int b), some (V.int c), some (V.int ((Int.gcd (Int.gcd a b : Nat) c : Nat) : Int))] = _
        rw [hG, show ((G : Nat) : Int) = g by rw [hg, if_neg c']]
    · rintro σ H2 ⟨rfl, rfl⟩
      refine ⟨_, rfl, _, rfl, _, _, rfl, rfl, bg.1, _, rfl, _, rfl, _, _, rfl, rfl, bg.2.1, _, rfl, _, rfl, _, _, rfl, rfl, bg.2.2, (by show 3 ≤ sizeLine; decide), fun p hp => ?_⟩
      show Q (.ref p) (upd H2 p (.tup [.int (a.fdiv g), .int (b.fdiv g), .int (c.fdiv g)]))
      have q1 : a.fdiv g = a' := by rw [ea]; exact Int.mul_fdiv_cancel_left _ g0
      have q2 : b.fdiv g = b' := by rw [eb]; exact Int.mul_fdiv_cancel_left _ g0
      have q3 : c.fdiv g = c' := by rw [ec]; exact Int.mul_fdiv_cancel_left _ g0
      rw [q1, q2, q3]
      exact k g a' b' c' p ea eb ec c0 g0 hprim hp
def T3 (K : PySem.W.Frag) (H : Hp) (p : Addr) (a b c : Int) : Prop := SqT K H p [.int a, .int b, .int c]
def sp_law_sum (K : PySem.W.Frag) : Sp := fun vs H Q _ => ∃ (p q : Addr) (a0 a1 a2 b0 b1 b2 z : Int), vs = [.ref p, .ref q, .int z] ∧ T3 K H p a0 a1 a2 ∧ T3 K H q b0 b1 b2 ∧ a2 * b2 ≠ 0 ∧ (bd 1500 a0 ∧ bd 1500 a1 ∧ bd 1500 a2) ∧ (bd 1500 b0 ∧ bd 1500 b1 ∧ bd 1500 b2) ∧ bd 1500 z ∧
  MadeK (a0 * b2 + z * b0 * a2) (a1 * b2 + z * b1 * a2) (a2 * b2) H Q
theorem ok_law_sum (D : DT K mg A) (G_law_made : COk P w K mg base CX0 2 "_law_made" ["_law_a", "_law_b", "_law_c"] sp_law_made) : COk P w K mg base CX0 3 "_law_sum" ["_law_one", "_law_other", "_law_by"] (sp_law_sum K) := by
  refine COk.by D.law_sum fun f fd F => ?_
  refine F.ok sc_law_sum (fun vs H Q E h => ?_) (fun cdv Ar outer s H vs Q E hr h => ?_)
  · obtain ⟨p, q, a0, a1, a2, b0, b1, b2, z, rfl, _⟩ := h
    rfl
  · obtain ⟨p, q, a0, a1, a2, b0, b1, b2, z, rfl, hp, hq, hc, ⟨x0, x1, x2⟩, ⟨y0, y1, y2⟩, hz, k⟩ := h
    refine ⟨_, (pss_cons (ps_set (i := 3) sc_law_sum.nd rfl (Or.inl rfl) (pe_op op_add (pe_op op_mulW (pe_ix ix_tup (pv 0) pe_int (fun _ _ => rfl)) (pe_ix ix_tup (pv 1) pe_int (fun _ _ => rfl))) (pe_op op_mulW (pe_op op_mulW (pv 2) (pe_ix ix_tup (pv 1) pe_int (fun _ _ => rfl))) (pe_ix ix_tup (pv 0) pe_int (fun _ _ => rfl)))))
    (pss_one (ps_ret (pe_c G_law_made (hr.mono (by first | decide | omega)) (pa_cons (pv 3) (pa_cons (pe_op op_add (pe_op op_mulW (pe_ix ix_tup (pv 0) pe_int (fun _ _ => rfl)) (pe_ix ix_tup (pv 1) pe_int (fun _ _ => rfl))) (pe_op op_mulW (pe_op op_mulW (pv 2) (pe_ix ix_tup (pv 1) pe_int (fun _ _ => rfl))) (pe_ix ix_tup (pv 0) pe_int (fun _ _ => rfl)))) (pa_cons (pe_op op_mulW (pe_ix ix_tup (pv 0) pe_int (fun _ _ => rfl)) (pe_ix ix_tup (pv 1) pe_int (fun _ _ => rfl))) pa_nil))))))), ?_⟩
    refine ⟨_, rfl, p, _, 0, _, rfl, rfl, hp, atI_nat (j := 0) rfl, _, rfl, q, _, 2, _, rfl, rfl, hq, atI_nat (j := 2) rfl, _, _, rfl, rfl, x0.cm y2 (by decide) (by decide) (by decide), ?_⟩
    refine ⟨_, rfl, _, rfl, q, _, 0, _, rfl, rfl, hq, atI_nat (j := 0) rfl, _, _, rfl, rfl, hz.cm y0 (by decide) (by decide) (by decide), _, rfl, p, _, 2, _, rfl, rfl, hp, atI_nat (j := 2) rfl, _, _, rfl, rfl, (hz.mul y0).cm x2 (by decide) (by decide) (by decide), _, _, rfl, rfl, ?_⟩
    refine ⟨_, rfl, _, rfl, p, _, 1, _, rfl, rfl, hp, atI_nat (j := 1) rfl, _, rfl, q, _, 2, _, rfl, rfl, hq, atI_nat (j := 2) rfl, _, _, rfl, rfl, x1.cm y2 (by decide) (by decide) (by decide), ?_⟩
    refine ⟨_, rfl, _, rfl, q, _, 1, _, rfl, rfl, hq, atI_nat (j := 1) rfl, _, _, rfl, rfl, hz.cm y1 (by decide) (by decide) (by decide), _, rfl, p, _, 2, _, rfl, rfl, hp, atI_nat (j := 2) rfl, _, _, rfl, rfl, (hz.mul y1).cm x2 (by decide) (by decide) (by decide), _, _, rfl, rfl, ?_⟩
    refine ⟨_, rfl, p, _, 2, _, rfl, rfl, hp, atI_nat (j := 2) rfl, _, rfl, q, _, 2, _, rfl, rfl, hq, atI_nat (j := 2) rfl, _, _, rfl, rfl, x2.cm y2 (by decide) (by decide) (by decide), ?_⟩
    exact ⟨_, _, _, rfl, hc, (((x0.mul y2).mono (show 3000 ≤ 4500 by decide)).add ((hz.mul y0).mul x2)).mono (by decide), (((x1.mul y2).mono (show 3000 ≤ 4500 by decide)).add ((hz.mul y1).mul x2)).mono (by decide), (x2.mul y2).mono (by decide), k⟩
def sp_law_product (K : PySem.W.Frag) : Sp := fun vs H Q _ => ∃ (p q : Addr) (a0 a1 a2 b0 b1 b2 d : Int), vs = [.ref p, .ref q, .int d] ∧ T3 K H p a0 a1 a2 ∧ T3 K H q b0 b1 b2 ∧ a2 * b2 ≠ 0 ∧ (bd 1500 a0 ∧ bd 1500 a1 ∧ bd 1500 a2) ∧ (bd 5000 b0 ∧ bd 5000 b1 ∧ bd 5000 b2) ∧ bd 100 d ∧
  MadeK (a0 * b0 + d * a1 * b1) (a0 * b1 + a1 * b0) (a2 * b2) H Q
theorem ok_law_product (D : DT K mg A) (G_law_made : COk P w K mg base CX0 2 "_law_made" ["_law_a", "_law_b", "_law_c"] sp_law_made) : COk P w K mg base CX0 3 "_law_product" ["_law_one", "_law_other", "_law_d"] (sp_law_product K) := by
  refine COk.by D.law_product fun f fd F => ?_
  refine F.ok sc_law_product (fun vs H Q E h => ?_) (fun cdv Ar outer s H vs Q E hr h => ?_)
  · obtain ⟨p, q, a0, a1, a2, b0, b1, b2, z, rfl, _⟩ := h
    rfl
  · obtain ⟨p, q, a0, a1, a2, b0, b1, b2, d, rfl, hp, hq, hc, ⟨x0, x1, x2⟩, ⟨y0, y1, y2⟩, hz, k⟩ := h
    refine ⟨_, (pss_cons (ps_set (i := 3) sc_law_product.nd rfl (Or.inl rfl) (pe_op op_add (pe_op op_mulW (pe_ix ix_tup (pv 0) pe_int (fun _ _ => rfl)) (pe_ix ix_tup (pv 1) pe_int (fun _ _ => rfl))) (pe_op op_mulW (pe_op op_mulW (pv 2) (pe_ix ix_tup (pv 0) pe_int (fun _ _ => rfl))) (pe_ix ix_tup (pv 1) pe_int (fun _ _ => rfl)))))
    (pss_one (ps_ret (pe_c G_law_made (hr.mono (by first | decide | omega)) (pa_cons (pv 3) (pa_cons (pe_op op_add (pe_op op_mulW (pe_ix ix_tup (pv 0) pe_int (fun _ _ => rfl)) (pe_ix ix_tup (pv 1) pe_int (fun _ _ => rfl))) (pe_op op_mulW (pe_ix ix_tup (pv 0) pe_int (fun _ _ => rfl)) (pe_ix ix_tup (pv 1) pe_int (fun _ _ => rfl)))) (pa_cons (pe_op op_mulW (pe_ix ix_tup (pv 0) pe_int (fun _ _ => rfl)) (pe_ix ix_tup (pv 1) pe_int (fun _ _ => rfl))) pa_nil))))))), ?_⟩
    refine ⟨_, rfl, p, _, 0, _, rfl, rfl, hp, atI_nat (j := 0) rfl, _, rfl, q, _, 0, _, rfl, rfl, hq, atI_nat (j := 0) rfl, _, _, rfl, rfl, x0.cm y0 (by decide) (by decide) (by decide), ?_⟩
    refine ⟨_, rfl, _, rfl, p, _, 1, _, rfl, rfl, hp, atI_nat (j := 1) rfl, _, _, rfl, rfl, hz.cm x1 (by decide) (by decide) (by decide), _, rfl, q, _, 1, _, rfl, rfl, hq, atI_nat (j := 1) rfl, _, _, rfl, rfl, (hz.mul x1).cm y1 (by decide) (by decide) (by decide), _, _, rfl, rfl, ?_⟩
    refine ⟨_, rfl, _, rfl, p, _, 0, _, rfl, rfl, hp, atI_nat (j := 0) rfl, _, rfl, q, _, 1, _, rfl, rfl, hq, atI_nat (j := 1) rfl, _, _, rfl, rfl, x0.cm y1 (by decide) (by decide) (by decide), ?_⟩
    refine ⟨_, rfl, p, _, 1, _, rfl, rfl, hp, atI_nat (j := 1) rfl, _, rfl, q, _, 0, _, rfl, rfl, hq, atI_nat (j := 0) rfl, _, _, rfl, rfl, x1.cm y0 (by decide) (by decide) (by decide), _, _, rfl, rfl, ?_⟩
    refine ⟨_, rfl, p, _, 2, _, rfl, rfl, hp, atI_nat (j := 2) rfl, _, rfl, q, _, 2, _, rfl, rfl, hq, atI_nat (j := 2) rfl, _, _, rfl, rfl, x2.cm y2 (by decide) (by decide) (by decide), ?_⟩
    exact ⟨_, _, _, rfl, hc, (((x0.mul y0).mono (show 6500 ≤ 6600 by decide)).add ((hz.mul x1).mul y1)).mono (by decide), ((x0.mul y1).add (x1.mul y0)).mono (by decide), (x2.mul y2).mono (by decide), k⟩
def sp_law_quotient (K : PySem.W.Frag) : Sp := fun vs H Q _ => ∃ (p q : Addr) (a0 a1 a2 b0 b1 b2 d : Int), vs = [.ref p, .ref q, .int d] ∧ T3 K H p a0 a1 a2 ∧ T3 K H q b0 b1 b2 ∧ a2 ≠ 0 ∧ (bd 1500 a0 ∧ bd 1500 a1 ∧ bd 1500 a2) ∧ (bd 2400 b0 ∧ bd 2400 b1 ∧ bd 2400 b2) ∧ bd 100 d ∧
  (b0 = 0 → b1 = 0 → Q .non H) ∧ (¬ (b0 = 0 ∧ b1 = 0) → b0 * b0 - d * b1 * b1 ≠ 0 ∧ ∀ g x y z H', b2 * b0 = g * x → 0 - b2 * b1 = g * y → b0 * b0 - d * b1 * b1 = g * z → 0 < z → g ≠ 0 → Same H H' → MadeK (a0 * x + d * a1 * y) (a0 * y + a1 * x) (a2 * z) H' Q)
theorem ok_law_quotient (D : DT K mg A) (G_law_made : COk P w K mg base CX0 2 "_law_made" ["_law_a", "_law_b", "_law_c"] sp_law_made) (G_law_product : COk P w K mg base CX0 3 "_law_product" ["_law_one", "_law_other", "_law_d"] (sp_law_product K)) : COk P w K mg base CX0 4 "_law_quotient" ["_law_one", "_law_other", "_law_d"] (sp_law_quotient K) := by
  refine COk.by D.law_quotient fun f fd F => ?_
  refine F.ok sc_law_quotient (fun vs H Q E h => ?_) (fun cdv Ar outer s H vs Q E hr h => ?_)
  · obtain ⟨p, q, a0, a1, a2, b0, b1, b2, z, rfl, _⟩ := h
    rfl
  · obtain ⟨p, q, a0, a1, a2, b0, b1, b2, d, rfl, hp, hq, hc, xx, ⟨y0, y1, y2⟩, hz, k1, k2⟩ := h
    refine ⟨_, (pss_cons (ps_if (PW.pt (pw_and (pt_cmpR op_eq (pe_ix ix_tup (pv 1) pe_int (fun _ _ => rfl)) pe_int (nomark _)) (pw_and1 (pt_cmpR op_eq (pe_ix ix_tup (pv 1) pe_int (fun _ _ => rfl)) pe_int (nomark _)))))
      (pss_one (ps_ret pe_non)) pss_nil)
    (pss_cons (ps_set (i := 3) sc_law_quotient.nd rfl (Or.inl rfl) (pe_op op_sub (pe_op op_mulW (pe_ix ix_tup (pv 1) pe_int (fun _ _ => rfl)) (pe_ix ix_tup (pv 1) pe_int (fun _ _ => rfl))) (pe_op op_mulW (pe_op op_mulW (pv 2) (pe_ix ix_tup (pv 1) pe_int (fun _ _ => rfl))) (pe_ix ix_tup (pv 1) pe_int (fun _ _ => rfl)))))
    (pss_one (ps_ret (pe_c G_law_product (hr.mono (by first | decide | omega)) (pa_cons (pv 0) (pa_cons (pe_c G_law_made (hr.mono (by first | decide | omega)) (pa_cons (pe_op op_mulW (pe_ix ix_tup (pv 1) pe_int (fun _ _ => rfl)) (pe_ix ix_tup (pv 1) pe_int (fun _ _ => rfl))) (pa_cons (pe_op op_sub pe_int (pe_op op_mulW (pe_ix ix_tup (pv 1) pe_int (fun _ _ => rfl)) (pe_ix ix_tup (pv 1) pe_int (fun _ _ => rfl)))) (pa_cons (pv 3) pa_nil)))) (pa_cons (pv 2) pa_nil)))))))), ?_⟩
    have go : ¬ (b0 = 0 ∧ b1 = 0) → ∀ {σ : St}, σ = [some (V.ref p), some (V.ref q), some (V.int d), none] → tSeq (tAsg (tOp (rI0 fun i j => V.int (i - j)) (tOp (rI CMulW fun i j => V.int (i * j)) (tOp (rIxT K) (tVar 1) (tC (V.int 0))) (tOp (rIxT K) (tVar 1) (tC (V.int 0)))) (tOp (rI CMulW fun i j => V.int (i * j)) (tOp (rI CMulW fun i j => V.int (i * j)) (tVar 2) (tOp (rIxT K) (tVar 1) (tC (V.int 1)))) (tOp (rIxT K) (tVar 1) (tC (V.int 1))))) (gName 3)) (tRet (tCall (sp_law_product K) [] E0 (tCons (tVar 0) (tCons (tCall sp_law_made [] E0 (tCons (tOp (rI CMulW fun i j => V.int (i * j)) (tOp (rIxT K) (tVar 1) (tC (V.int 2))) (tOp (rIxT K) (tVar 1) (tC (V.int 0)))) (tCons (tOp (rI0 fun i j => V.int (i - j)) (tC (V.int 0)) (tOp (rI CMulW fun i j => V.int (i * j)) (tOp (rIxT K) (tVar 1) (tC (V.int 2))) (tOp (rIxT K) (tVar 1) (tC (V.int 1))))) (tCons (tVar 3) tNil)))) (tCons (tVar 2) tNil))))) { nx := fun _ H' => Q .non H', rt := Q } σ H := fun hn {σ} eσ => by
      subst eσ
      obtain ⟨hs, kk⟩ := k2 hn
      refine ⟨_, rfl, q, _, 0, _, rfl, rfl, hq, atI_nat (j := 0) rfl, _, rfl, q, _, 0, _, rfl, rfl, hq, atI_nat (j := 0) rfl, _, _, rfl, rfl, y0.cm y0 (by decide) (by decide) (by decide), ?_⟩
      refine ⟨_, rfl, _, rfl, q, _, 1, _, rfl, rfl, hq, atI_nat (j := 1) rfl, _, _, rfl, rfl, hz.cm y1 (by decide) (by decide) (by decide), _, rfl, q, _, 1, _, rfl, rfl, hq, atI_nat (j := 1) rfl, _, _, rfl, rfl, (hz.mul y1).cm y1 (by decide) (by decide) (by decide), _, _, rfl, rfl, ?_⟩
      refine ⟨_, rfl, _, rfl, q, _, 2, _, rfl, rfl, hq, atI_nat (j := 2) rfl, _, rfl, q, _, 0, _, rfl, rfl, hq, atI_nat (j := 0) rfl, _, _, rfl, rfl, y2.cm y0 (by decide) (by decide) (by decide), ?_⟩
      refine ⟨_, rfl, q, _, 2, _, rfl, rfl, hq, atI_nat (j := 2) rfl, _, rfl, q, _, 1, _, rfl, rfl, hq, atI_nat (j := 1) rfl, _, _, rfl, rfl, y2.cm y1 (by decide) (by decide) (by decide), _, _, rfl, rfl, _, rfl, ?_⟩
      have s1 : bd 4901 (b0 * b0 - d * b1 * b1) := ((y0.mul y0).mono (show 4800 ≤ 4900 by decide)).sub ((hz.mul y1).mul y1)
      have s2 : bd 4801 (0 - b2 * b1) := bd0.sub (y2.mul y1)
      refine ⟨_, _, _, rfl, hs, (y2.mul y0).mono (by decide), s2.mono (by decide), s1.mono (by decide), fun g x y z pp e1 e2 e3 z0 g0 hprim npp => ?_⟩
      have sm := same_upd (o := .tup [V.int x, .int y, .int z]) npp
      refine ⟨_, rfl, p, pp, a0, a1, a2, x, y, z, d, rfl, sqT_same hp sm, SqT.of upd_same, ?_, xx, ⟨((y2.mul y0).of_dvd e1 g0).mono (by decide), (s2.of_dvd e2 g0).mono (by decide), (s1.of_dvd e3 g0).mono (by decide)⟩, hz, kk g x y z _ e1 e2 e3 z0 g0 sm⟩
      intro w
      rcases Int.mul_eq_zero.mp w with y | y <;> omega
    refine ⟨_, rfl, q, _, 0, _, rfl, rfl, hq, atI_nat (j := 0) rfl, rfl, _, rfl, ite2 (fun c => ?_) (fun c => ?_)⟩
    · have c' : b0 = 0 := V.int.inj (of_decide_eq_true c)
      refine ⟨_, rfl, q, _, 1, _, rfl, rfl, hq, atI_nat (j := 1) rfl, rfl, _, rfl, ite2 (fun c2 => ?_) (fun c2 => ?_)⟩
      · have c2' : b1 = 0 := V.int.inj (of_decide_eq_true c2)
        exact k1 c' c2'
      · exact go (fun z => c2 (decide_eq_true (congrArg V.int z.2))) rfl
    · exact iteF (go (fun z => c (decide_eq_true (congrArg V.int z.1))) rfl)
def sp_law_below (K : PySem.W.Frag) : Sp := fun vs H Q _ => ∃ (p : Addr) (a b c d : Int), vs = [.ref p, .int d] ∧ T3 K H p a b c ∧ c ≠ 0 ∧ 0 ≤ d ∧ (bd 1500 a ∧ bd 1500 b ∧ bd 1500 c) ∧ bd 100 d ∧ ∀ r', IsRoot (b * b * d) r' → Q (.int (qbelow a b c d r')) H
theorem ok_law_below (T : CT K mg A) (D : DT K mg A) : COk P w K mg base CX0 2 "_law_below" ["_law_one", "_law_d"] (sp_law_below K) := by
  have G_law_root := ok_law_root (P := P) (w := w) (base := base) D
  refine COk.by D.law_below fun f fd F => ?_
  refine F.ok sc_law_below (fun vs H Q E h => ?_) (fun cdv Ar outer s H vs Q E hr h => ?_)
  · obtain ⟨p, a, b, c, d, rfl, _⟩ := h
    rfl
  · obtain ⟨p, a, b, c, d, rfl, hp, hc, hd, ⟨x0, x1, x2⟩, hz, k⟩ := h
    refine ⟨_, (pss_cons (ps_set (i := 2) sc_law_below.nd rfl (Or.inl rfl) (pe_op op_mulW (pe_op op_mulW (pe_ix ix_tup (pv 0) pe_int (fun _ _ => rfl)) (pe_ix ix_tup (pv 0) pe_int (fun _ _ => rfl))) (pv 1)))
    (pss_cons (ps_set (i := 3) sc_law_below.nd rfl (Or.inl rfl) (pe_c G_law_root (hr.mono (by first | decide | omega)) (pa_cons (pv 2) pa_nil)))
    (C8.pss_cut (ps_if (pt_cmpR op_lt (pe_ix ix_tup (pv 0) pe_int (fun _ _ => rfl)) pe_int (nomark _))
      (pss_one (ps_set (i := 3) sc_law_below.nd rfl (Or.inl rfl) (pe_op op_sub (pe_op op_sub pe_int (pv 3)) (pe_callTy call_int1 (by rfl) T.b_int (by decide +kernel) (pa_cons (pe_cmpR op_lt (pe_op op_mulW (pv 3) (pv 3)) (pv 2) (nomark _)) pa_nil))))) pss_nil)
    (pss_one (ps_ret (pe_op op_fdivS (pe_op op_add (pe_ix ix_tup (pv 0) pe_int (fun _ _ => rfl)) (pv 3)) (pe_ix ix_tup (pv 0) pe_int (fun _ _ => rfl)))))))), ?_⟩
    have n0 : 0 ≤ b * b * d := Int.mul_nonneg (sq_nonneg b) hd
    have nb : bd 3100 (b * b * d) := (x1.mul x1).mul hz
    refine ⟨_, rfl, p, _, 1, _, rfl, rfl, hp, atI_nat (j := 1) rfl, _, rfl, p, _, 1, _, rfl, rfl, hp, atI_nat (j := 1) rfl, _, _, rfl, rfl, x1.cm x1 (by decide) (by decide) (by decide), _, rfl, _, _, rfl, rfl, (x1.mul x1).cm hz (by decide) (by decide) (by decide), ?_⟩
    refine ⟨_, rfl, _, rfl, n0, nb.mono (by decide), fun r' hr' => ?_⟩
    have br : bd 1550 r' := by
      have z : (b * b * d).natAbs < 2 ^ 3100 := nb
      have e : (b * b * d : Int) < 2 ^ (1550 + 1550) := by
        have e2 : ((2 ^ 3100 : Nat) : Int) = 2 ^ 3100 := by norm_cast
        show (b * b * d : Int) < 2 ^ 3100
        omega
      exact natAbs_lt_pow hr'.1 (lt_of_sq (k := 1550) hr'.1 hr'.2.1 e)
    have hk := k r' hr'
    refine ⟨fun σ H2 => σ = [some (.ref p), some (.int d), some (.int (b * b * d)), some (.int (qroot b d r'))] ∧ H2 = H, ?_, ?_⟩
    · refine ⟨_, rfl, p, _, 1, _, rfl, rfl, hp, atI_nat (j := 1) rfl, _, _, rfl, rfl, _, rfl, ite2 (fun cc => ?_) (fun cc => ?_)⟩
      · have c' : b < 0 := of_decide_eq_true cc
        refine ⟨_, rfl, _, _, rfl, rfl, _, rfl, _, rfl, _, _, rfl, rfl, br.cm br (by decide) (by decide) (by decide), _, rfl, _, _, rfl, rfl, .inr ⟨_, rfl, _, _, rfl, rfl, ?_, rfl⟩⟩
        show [some (V.ref p), some (V.int d), some (V.int (b * b * d)), some (V.int (0 - r' - (if decide (r' * r' < b * b * d) = true then 1 else 0)))] = _
        unfold qroot
        rw [if_pos c']
        by_cases y : r' * r' < b * b * d
        · rw [decide_eq_true y, if_pos rfl, if_pos y]
        · rw [decide_eq_false y, if_neg (by decide), if_neg y]
      · have c' : ¬ b < 0 := fun z => cc (decide_eq_true z)
        refine ⟨?_, rfl⟩
        unfold qroot
        rw [if_neg c']
        rfl
    · rintro σ H2 ⟨rfl, rfl⟩
      refine ⟨_, rfl, p, _, 0, _, rfl, rfl, hp, atI_nat (j := 0) rfl, _, rfl, _, _, rfl, rfl, _, rfl, p, _, 2, _, rfl, rfl, hp, atI_nat (j := 2) rfl, _, _, rfl, rfl, ⟨hc, Nat.lt_trans x2 (Nat.pow_lt_pow_right (by decide) (by decide))⟩, hk⟩
end
/-! ### the parts of such a number, beside a chain's -/
def runN : Chain → Nat → List Int
  | _, 0 => []
  | ch, n + 1 => if ch.ended = true then [] else ch.part :: runN ch.next n
theorem runN_len : ∀ (n : Nat) (ch : Chain), (runN ch n).length ≤ n
  | 0, _ => Nat.le_refl _
  | n + 1, ch => by
    rw [runN]
    split
    · exact Nat.zero_le _
    · show (runN ch.next n).length + 1 ≤ n + 1
      have := runN_len n ch.next
      omega
/-- the numbers of a law's triple are no greater than the chain's -/
theorem qrel_bd {d A B C : Int} {ch : Chain} (R : QRel d A B C ch) (ok : ch.Ok) : bd 1000 A ∧ bd 1000 B ∧ bd 1000 C := by
  cases ch with
  | frac t b =>
    obtain ⟨rfl, g, hg, rfl, rfl⟩ := R
    exact ⟨bd.of_dvd (a := g * A) ok.1 rfl hg, bd0, bd.of_dvd (a := g * C) ok.2 rfl hg⟩
  | root Pn s Qn r =>
    obtain ⟨g, hg, gB, rfl, rfl, hs⟩ := R
    obtain ⟨st, sb, _⟩ := root_small ok
    refine ⟨bd.of_dvd (a := g * A) st rfl hg, ?_, bd.of_dvd (a := g * C) sb rfl hg⟩
    have d0 : 0 < d := by
      rcases Int.lt_or_le 0 d with z | z
      · exact z
      · exfalso
        have k := Int.mul_nonneg (Int.mul_nonneg (show 0 ≤ g * B by omega) (show 0 ≤ g * B by omega)) (show 0 ≤ -d by omega)
        have e : g * B * (g * B) * -d = -(g * B * (g * B) * d) := by grind
        have rr := ok.rt
        have := sq_nonneg r
        have s0 : s = 0 := by have := rr.2.1; omega
        have r0 : r = 0 := by
          have := rr.2.1
          rcases Int.mul_eq_zero.mp (show r * r = 0 by omega) with y | y <;> exact y
        exact ok.ns (by rw [r0, s0]; rfl)
    have le : g * B * (g * B) ≤ s := by
      rw [hs]
      have := Int.mul_le_mul_of_nonneg_left (show 1 ≤ d from d0) (sq_nonneg (g * B))
      omega
    have lt : g * B < 2 ^ 200 := lt_of_sq (k := 200) (Int.le_of_lt gB) le ok.sw
    have z : bd 200 (g * B) := natAbs_lt_pow (Int.le_of_lt gB) lt
    exact (z.of_dvd rfl hg).mono (by decide)
  | ruled _ _ _ _ => exact R.elim
theorem qrel_end {d A B C : Int} {ch : Chain} (R : QRel d A B C ch) (hC : 0 < C) : ch.ended = false := by
  cases ch with
  | frac t b =>
    obtain ⟨_, g, hg, _, rfl⟩ := R
    refine decide_eq_false fun z => ?_
    rcases Int.mul_eq_zero.mp z with y | y
    · exact hg y
    · omega
  | root _ _ _ _ => rfl
  | ruled _ _ _ _ => exact R.elim
theorem qrel_part {d A B C r' : Int} {ch : Chain} (R : QRel d A B C ch) (ok : ch.Ok) (hC : 0 < C) (hr' : IsRoot (B * B * d) r') : qbelow A B C d r' = ch.part := by
  cases ch with
  | frac t b =>
    obtain ⟨rfl, g, hg, rfl, rfl⟩ := R
    have e0 : (0 : Int) * 0 * d = 0 := by grind
    rw [e0] at hr'
    have r0 : r' = 0 := hr'.unique ⟨by decide, by decide, by decide⟩
    have e : qbelow A 0 C d r' = A.fdiv C := by
      unfold qbelow qroot
      rw [if_neg (by decide), r0, Int.add_zero]
    rw [e]
    exact (fdiv_scale (A := A) hg hC).1.symm
  | root Pn s Qn r =>
    obtain ⟨g, hg, gB, rfl, rfl, rfl⟩ := R
    exact qfloor hg hC gB ok.rt ok.ns hr'
  | ruled _ _ _ _ => exact R.elim
section
variable {P : Program} {w : World} {K : PySem.W.Frag} {mg : Str → Option Value} {base : Heap} {A : Ad}
def sp_law_parts (K : PySem.W.Frag) : Sp := fun vs H Q _ => ∃ (p : Addr) (a b c d : Int) (many : Nat) (ch : Chain), vs = [.ref p, .int d, .int many] ∧ T3 K H p a b c ∧ 0 < c ∧ QRel d a b c ch ∧ ch.Ok ∧ 0 ≤ d ∧ bd 100 d ∧ many ≤ 1000 ∧
  ∀ l H', Same H H' → H l = none → H' l = some (.lst ((runN ch many).map V.int)) → Q (.ref l) H'
theorem ok_law_parts (T : CT K mg A) (D : DT K mg A) (G_law_common : COk P w K mg base CX0 1 "_law_common" ["_law_one", "_law_other"] sp_law_common) : COk P w K mg base CX0 5 "_law_parts" ["_law_one", "_law_d", "_law_many"] (sp_law_parts K) := by
  have G_law_made := ok_law_made (P := P) (w := w) (base := base) D G_law_common
  have G_law_sum : COk P w K mg base CX0 3 "_law_sum" ["_law_one", "_law_other", "_law_by"] (sp_law_sum K) := ok_law_sum D G_law_made
  have G_law_product : COk P w K mg base CX0 3 "_law_product" ["_law_one", "_law_other", "_law_d"] (sp_law_product K) := ok_law_product D G_law_made
  have G_law_quotient := ok_law_quotient (P := P) (w := w) (base := base) D G_law_made G_law_product
  have G_law_below := ok_law_below (P := P) (w := w) (base := base) T D
  refine COk.by D.law_parts fun f fd F => ?_
  refine F.ok sc_law_parts (fun vs H Q E h => ?_) (fun cdv Ar outer s H vs Q E hr h => ?_)
  · obtain ⟨p, a, b, c, d, many, ch, rfl, _⟩ := h
    rfl
  · obtain ⟨p0, a0, b0, c0, d, many, ch, rfl, hp0, hc0, R0, ok0, hd, bdd, hm, k⟩ := h
    refine ⟨_, (pss_cons (ps_set (i := 3) sc_law_parts.nd rfl (Or.inl rfl) (pe_lst pa_nil))
    (pss_cons (ps_while PassesOwn.never (PW.pt (pw_and (pt_cmpR op_notN (pv 0) pe_non (nomark _)) (pw_and1 (pt_cmpR op_lt (pe_callB call_len_seq (by rfl) T.b_len (by decide +kernel) (pa_cons (pv 3) pa_nil)) (pv 2) (nomark _)))))
      (pss_cons (ps_set (i := 4) sc_law_parts.nd rfl (Or.inl rfl) (pe_c G_law_below (hr.mono (by first | decide | omega)) (pa_cons (pv 0) (pa_cons (pv 1) pa_nil))))
    (pss_cons (ps_expr (pe_bm PySem.F.plainAttrs_list PySem.F.slot_list_append PySem.F.type_list_append mt_append (pv 3) (pa_cons (pv 4) pa_nil)))
    (pss_one (ps_set (i := 0) sc_law_parts.nd rfl (Or.inl rfl) (pe_c G_law_quotient (hr.mono (by first | decide | omega)) (pa_cons (pe_tup (pa_cons pe_int (pa_cons pe_int (pa_cons pe_int pa_nil)))) (pa_cons (pe_c G_law_sum (hr.mono (by first | decide | omega)) (pa_cons (pv 0) (pa_cons (pe_tup (pa_cons (pv 4) (pa_cons pe_int (pa_cons pe_int pa_nil)))) (pa_cons (pe_un un_neg pe_int) pa_nil)))) (pa_cons (pv 1) pa_nil)))))))))
    (pss_one (ps_ret (pv 3))))), ?_⟩
    refine ⟨Nat.zero_le _, fun l nl => ?_⟩
    have s0 := same_upd (o := .lst []) nl
    have hfl := runN_len many ch
    generalize hfull : runN ch many = full at *
    refine while_by (fun σ H2 => ∃ (v1 : V) (acc : List Int) (ch' : Chain) (v4 : Option V), σ = [some v1, some (.int d), some (.int many), some (.ref l), v4] ∧ acc.length ≤ many ∧ acc ++ runN ch' (many - acc.length) = full ∧ Same H H2 ∧ H2 l = some (.lst (acc.map V.int)) ∧ ch'.Ok ∧ ((v1 = .non ∧ ch'.ended = true) ∨ ∃ p a b c, v1 = .ref p ∧ T3 K H2 p a b c ∧ 0 < c ∧ QRel d a b c ch'))
      (fun _ H2 => match H2 l with | some (.lst xs) => many - xs.length | _ => 0) ⟨_, [], ch, none, rfl, Nat.zero_le _, hfull, s0, upd_same, ok0, .inr ⟨p0, a0, b0, c0, rfl, sqT_same hp0 s0, hc0, R0⟩⟩ ?_ ?_
    · rintro σ H2 ⟨v1, acc, ch', v4, rfl, hal, eq, sH, hl2, ok, hv⟩
      have hlen : (acc.map V.int).length = acc.length := List.length_map _
      have done : runN ch' (many - acc.length) = [] → tRet (tVar 3) { nx := fun _ H' => Q .non H', rt := Q } [some v1, some (.int d), some (.int many), some (.ref l), v4] H2 := fun e => by
        rw [e, List.append_nil] at eq
        refine ⟨_, rfl, k l H2 sH nl ?_⟩
        rw [← eq]
        exact hl2
      rcases hv with ⟨rfl, he⟩ | ⟨p, a, b, c, rfl, hp, hc, R⟩
      · refine ⟨_, rfl, rfl, _, rfl, ?_⟩
        refine iteF (iteF (done ?_))
        cases hmm : many - acc.length with
        | zero => rfl
        | succ n => rw [runN, if_pos he]
      · have he := qrel_end R hc
        refine ⟨_, rfl, rfl, _, rfl, iteT ⟨_, rfl, l, _, rfl, .inl (SqL.of hl2), _, rfl, _, _, rfl, rfl, _, rfl, ?_⟩⟩
        rw [hlen]
        by_cases cm : acc.length < many
        · rw [decide_eq_true (by omega)]
          refine iteT ?_
          obtain ⟨n, hn⟩ : ∃ n, many - acc.length = n + 1 := ⟨many - acc.length - 1, by omega⟩
          rw [hn, runN, he, if_neg (by decide)] at eq
          obtain ⟨ba, bb, bc⟩ := qrel_bd R ok
          -- the part
          refine ⟨_, rfl, _, rfl, p, a, b, c, d, rfl, hp, by omega, hd, ⟨ba.mono (by decide), bb.mono (by decide), bc.mono (by decide)⟩, bdd, fun r' hr' => ?_⟩
          rw [qrel_part R ok hc hr']
          have bpart : bd 1000 ch'.part := by
            cases ch' with
            | frac t b =>
              have hb : b ≠ 0 := fun z => by subst z; cases he
              exact small_fd ok.1 hb
            | root t s b r => exact (root_small ok).2.2.2.2.2.1
            | ruled _ _ _ _ => exact R.elim
          obtain ⟨pt, hpt⟩ : ∃ pt, ch'.part = pt := ⟨_, rfl⟩
          rw [hpt] at bpart eq ⊢
          refine ⟨_, rfl, .inl ⟨rfl, _, SqL.of hl2⟩, _, rfl, l, _, _, rfl, rfl, hl2, (by rw [hlen]; exact Nat.lt_of_lt_of_le (show acc.length < 1001 by omega) (by decide)), ?_⟩
          have hl3 : ∀ H', H' = upd H2 l (.lst (acc.map V.int ++ [V.int pt])) → H' l = some (.lst ((acc ++ [pt]).map V.int)) := fun H' e => by rw [e, upd_same, List.map_append]; rfl
          have hl3' := hl3 _ rfl
          have sH3 : Same H (upd H2 l (.lst (acc.map V.int ++ [V.int pt]))) := fun b o e => by
            rw [upd_ne (ne_of_none e nl)]
            exact sH b o e
          have hp3 : T3 K (upd H2 l (.lst (acc.map V.int ++ [V.int pt]))) p a b c := same_list (fun b o e n => by rw [upd_ne n]; exact e) hl2 hp
          generalize upd H2 l (.lst (acc.map V.int ++ [V.int pt])) = H3 at *
          -- one over what is left
          refine ⟨(by show 3 ≤ sizeLine; decide), fun q1 nq1 => ?_⟩
          have s4 := same_upd (o := .tup [V.int 1, .int 0, .int 1]) nq1
          refine ⟨_, rfl, _, rfl, (by show 3 ≤ sizeLine; decide), fun q2 nq2 => ?_⟩
          have s5 := same_upd (o := .tup [V.int pt, .int 0, .int 1]) nq2
          have q1h : T3 K (upd (upd H3 q1 (.tup [V.int 1, .int 0, .int 1])) q2 (.tup [V.int pt, .int 0, .int 1])) q1 1 0 1 := SqT.of (s5 _ _ upd_same)
          have q2h : T3 K (upd (upd H3 q1 (.tup [V.int 1, .int 0, .int 1])) q2 (.tup [V.int pt, .int 0, .int 1])) q2 pt 0 1 := SqT.of upd_same
          have sH5 : Same H (upd (upd H3 q1 (.tup [V.int 1, .int 0, .int 1])) q2 (.tup [V.int pt, .int 0, .int 1])) := (sH3.trans s4).trans s5
          have hl5 := s5 _ _ (s4 _ _ hl3')
          have hp5 : T3 K (upd (upd H3 q1 (.tup [V.int 1, .int 0, .int 1])) q2 (.tup [V.int pt, .int 0, .int 1])) p a b c := sqT_same (sqT_same hp3 s4) s5
          generalize upd (upd H3 q1 (.tup [V.int 1, .int 0, .int 1])) q2 (.tup [V.int pt, .int 0, .int 1]) = H5 at *
          have b1 : bd 1500 (1 : Int) := bd1 (by decide)
          have bm1 : bd 1500 (-1 : Int) := bd.neg b1
          refine ⟨1, rfl, p, q2, a, b, c, pt, 0, 1, -1, rfl, hp5, q2h, (by rw [Int.mul_one]; omega), ⟨ba.mono (by decide), bb.mono (by decide), bc.mono (by decide)⟩, ⟨bpart.mono (by decide), bd0, b1⟩, bm1, fun g1 u1 B1 C1 q3 e1 e2 e3 hC1 g10 prim1 nq3 => ?_⟩
          have s6 := same_upd (o := .tup [V.int u1, .int B1, .int C1]) nq3
          have E1 : a - pt * c = g1 * u1 := by rw [← e1]; grind
          have E2 : b = g1 * B1 := by rw [← e2]; grind
          have E3 : c = g1 * C1 := by rw [← e3]; grind
          have bu : bd 2001 (a - pt * c) := (ba.mono (show 1000 ≤ 2000 by decide)).sub (bpart.mul bc)
          refine ⟨_, rfl, q1, q3, 1, 0, 1, u1, B1, C1, d, rfl, sqT_same q1h s6, SqT.of upd_same, by decide, ⟨b1, bd0, b1⟩, ⟨(bu.of_dvd E1 g10).mono (by decide), (bb.of_dvd E2 g10).mono (by decide), (bc.of_dvd E3 g10).mono (by decide)⟩, bdd, fun z1 z2 => ?_, fun hn0 => ?_⟩
          · -- nothing is left
            have hb0 : b = 0 := by rw [E2, z2, Int.mul_zero]
            have hu0 : a - pt * c = 0 := by rw [E1, z1, Int.mul_zero]
            have ce : ch'.next.ended = true := by
              cases ch' with
              | frac t bb =>
                obtain ⟨_, g, hg, rfl, rfl⟩ := R
                show decide ((g * a).fmod (g * c) = 0) = true
                obtain ⟨f1, f2⟩ := fdiv_scale (A := a) hg hc
                have : (g * a).fdiv (g * c) = pt := hpt
                rw [f1] at this
                rw [f2, ← fmod_eq a c, this, hu0, Int.mul_zero]
                rfl
              | root t s bb r =>
                obtain ⟨g, hg, gB, _⟩ := R
                rw [hb0, Int.mul_zero] at gB
                exact absurd gB (by decide)
              | ruled _ _ _ _ => exact R.elim
            refine ⟨⟨.non, acc ++ [pt], ch'.next, _, rfl, ?_, ?_, sH5.trans s6, s6 _ _ hl5, ok.next he, .inl ⟨rfl, ce⟩⟩, ?_⟩
            · rw [List.length_append]
              show acc.length + 1 ≤ many
              omega
            · rw [List.length_append, show many - (acc.length + [pt].length) = n by show many - (acc.length + 1) = n; omega, List.append_assoc]
              exact eq
            · show (match (upd H5 q3 (.tup [V.int u1, .int B1, .int C1])) l with | some (.lst xs) => many - xs.length | _ => 0) < (match H2 l with | some (.lst xs) => many - xs.length | _ => 0)
              rw [s6 _ _ hl5, hl2]
              show many - ((acc ++ [pt]).map V.int).length < many - (acc.map V.int).length
              rw [List.length_map, List.length_map, List.length_append]
              show many - (acc.length + 1) < many - acc.length
              omega
          · have size0 : u1 * u1 - d * B1 * B1 ≠ 0 := fun z => by
              have zz : (a - pt * c) * (a - pt * c) - d * b * b = 0 := by
                rw [E1, E2]
                have : g1 * u1 * (g1 * u1) - d * (g1 * B1) * (g1 * B1) = g1 * g1 * (u1 * u1 - d * B1 * B1) := by grind
                rw [this, z, Int.mul_zero]
              cases ch' with
              | frac t bb =>
                obtain ⟨rfl, g, hg, _⟩ := R
                have hB1 : B1 = 0 := by
                  rcases Int.mul_eq_zero.mp E2.symm with y | y
                  · exact absurd y g10
                  · exact y
                rw [hB1, Int.mul_zero, Int.sub_zero] at z
                have hu1 : u1 = 0 := by rcases Int.mul_eq_zero.mp z with y | y <;> exact y
                exact hn0 ⟨hu1, hB1⟩
              | root t s bb r =>
                obtain ⟨g, hg, gB, rfl, rfl, hs⟩ := R
                have sq : (g * (a - pt * c)) * (g * (a - pt * c)) = s := by
                  rw [hs]
                  have e1 : g * (a - pt * c) * (g * (a - pt * c)) = g * g * ((a - pt * c) * (a - pt * c)) := by grind
                  have e2 : (a - pt * c) * (a - pt * c) = d * b * b := by omega
                  rw [e1, e2]
                  grind
                have u := (IsRoot.abs sq).unique ok.rt
                have e3 : ((g * (a - pt * c)).natAbs : Int) * (g * (a - pt * c)).natAbs = g * (a - pt * c) * (g * (a - pt * c)) := Int.natAbs_mul_self
                rw [u, sq] at e3
                exact ok.ns e3
              | ruled _ _ _ _ => exact R.elim
            refine ⟨size0, fun g2 x y z H6 x1 x2 x3 z0 g20 s7 => ?_⟩
            intro g3 A3 B3 C3 q4 y1 y2 y3 hC3 g30 prim3 nq4
            have s8 := same_upd (o := .tup [V.int A3, .int B3, .int C3]) nq4
            have Y1 : x = g3 * A3 := by rw [← y1]; grind
            have Y2 : y = g3 * B3 := by rw [← y2]; grind
            have Y3 : z = g3 * C3 := by rw [← y3]; grind
            have F1 : c * (a - pt * c) = (g1 * g1 * g2 * g3) * A3 := by
              have : c * (a - pt * c) = g1 * g1 * (C1 * u1) := by rw [E1, E3]; grind
              rw [this, x1, Y1]
              grind
            have F2 : -(c * b) = (g1 * g1 * g2 * g3) * B3 := by
              have : -(c * b) = g1 * g1 * (0 - C1 * B1) := by rw [E2, E3]; grind
              rw [this, x2, Y2]
              grind
            have F3 : (a - pt * c) * (a - pt * c) - d * b * b = (g1 * g1 * g2 * g3) * C3 := by
              have : (a - pt * c) * (a - pt * c) - d * b * b = g1 * g1 * (u1 * u1 - d * B1 * B1) := by rw [E1, E2]; grind
              rw [this, x3, Y3]
              grind
            have R3 : QRel d A3 B3 C3 ch'.next := by
              cases ch' with
              | frac t bb =>
                have hf : a.fdiv c = pt := by
                  obtain ⟨_, g, hg, rfl, rfl⟩ := id R
                  rw [← (fdiv_scale (A := a) hg hc).1]
                  exact hpt
                have hu : a - a.fdiv c * c ≠ 0 := fun y => by
                  rw [hf] at y
                  obtain ⟨hb0, _⟩ := id R
                  have hB1 : B1 = 0 := by
                    rw [hb0] at E2
                    rcases Int.mul_eq_zero.mp E2.symm with y | y
                    · exact absurd y g10
                    · exact y
                  have hu1 : u1 = 0 := by
                    rw [y] at E1
                    rcases Int.mul_eq_zero.mp E1.symm with y | y
                    · exact absurd y g10
                    · exact y
                  exact hn0 ⟨hu1, hB1⟩
                rw [← hf] at F1 F3
                exact qrel_next_frac R hc prim3 F1 F2 F3 hC3 hu
              | root t s bb r => exact qrel_next_root ok R hc hpt.symm prim3 F1 F2 F3 hC3
              | ruled _ _ _ _ => exact R.elim
            have hlf := s8 _ _ (s7 _ _ (s6 _ _ hl5))
            refine ⟨⟨.ref q4, acc ++ [pt], ch'.next, _, rfl, ?_, ?_, ((sH5.trans s6).trans s7).trans s8, hlf, ok.next he, .inr ⟨q4, A3, B3, C3, rfl, SqT.of upd_same, hC3, R3⟩⟩, ?_⟩
            · rw [List.length_append]
              show acc.length + 1 ≤ many
              omega
            · rw [List.length_append, show many - (acc.length + [pt].length) = n by show many - (acc.length + 1) = n; omega, List.append_assoc]
              exact eq
            · show (match (upd H6 q4 (.tup [V.int A3, .int B3, .int C3])) l with | some (.lst xs) => many - xs.length | _ => 0) < (match H2 l with | some (.lst xs) => many - xs.length | _ => 0)
              rw [hlf, hl2]
              show many - ((acc ++ [pt]).map V.int).length < many - (acc.map V.int).length
              rw [List.length_map, List.length_map, List.length_append]
              show many - (acc.length + 1) < many - acc.length
              omega
        · rw [decide_eq_false (by omega)]
          refine iteF (done ?_)
          rw [show many - acc.length = 0 by omega, runN]
    · intro σ H2 Q1 Q2 im hq2
      obtain ⟨x, e, y, b, eb, rest⟩ := hq2
      refine ⟨x, e, y, b, eb, ?_⟩
      cases b with
      | false => exact im _ _ rest
      | true =>
        obtain ⟨x2, f1, f2, f3, f4, f5, f6, f7, f8, f9, f10, f11, f12, f13, rest2⟩ := rest
        exact ⟨x2, f1, f2, f3, f4, f5, f6, f7, f8, f9, f10, f11, f12, f13, im _ _ rest2⟩
end
/-! ### rings: what is left comes again -/
/-- bounded for good, and by little -/
structure RootSm (t b r : Int) : Prop where
  t1 : t.natAbs ≤ 250
  bn : b < 0 → -b ≤ 36
  bp : 0 < b → b ≤ 2 * r + 1 + 36
theorem sm_next {t s b r : Int} (h : RootOk t s b r) (m : RootSm t b r) (hr90 : r ≤ 90) : RootSm (rootPart t b r * b - t) ((s - (rootPart t b r * b - t) * (rootPart t b r * b - t)).fdiv b) r := by
  obtain ⟨sp, sn⟩ := root_step h rfl
  have nx := root_next h
  obtain ⟨rt, ns, nz, ⟨q, hq⟩, sw, _, _, tw⟩ := h
  obtain ⟨t1, bn, bp⟩ := m
  generalize rootPart t b r = a at *
  obtain ⟨r0, r1, r2⟩ := rt
  have hd : s - (a * b - t) * (a * b - t) = (q - a * (a * b - 2 * t)) * b := by
    have e : s - (a * b - t) * (a * b - t) = (s - t * t) - (a * (a * b - 2 * t)) * b := by grind
    rw [e, hq]
    grind
  have e2 : (s - (a * b - t) * (a * b - t)).fdiv b = q - a * (a * b - 2 * t) := by
    rw [hd]
    exact Int.mul_fdiv_cancel _ nz
  rw [e2] at nx ⊢
  generalize q - a * (a * b - 2 * t) = c at *
  generalize a * b - t = u at *
  have ex : (r + 1) * (r + 1) = r * r + 2 * r + 1 := by grind
  refine ⟨?_, ?_, ?_⟩
  · rcases Int.lt_or_gt_of_ne nz with hb | hb
    · obtain ⟨u1, u2⟩ := sn hb
      have := bn hb
      omega
    · obtain ⟨u1, u2⟩ := sp hb
      have := bp hb
      omega
  · intro hc
    rcases Int.lt_or_gt_of_ne nz with hb | hb
    · exfalso
      obtain ⟨u1, u2⟩ := sn hb
      have k1 := Int.mul_nonneg_of_nonpos_of_nonpos (Int.le_of_lt hc) (Int.le_of_lt hb)
      have k2 := Int.mul_le_mul u1 u1 (by omega) (by omega)
      omega
    · obtain ⟨u1, u2⟩ := sp hb
      have hu : u ≤ -r - 1 := by
        rcases Int.lt_or_le u (-r) with z | z
        · omega
        · exfalso
          have k1 : u * u ≤ r * r := by
            have := Int.mul_nonneg (show 0 ≤ r - u by omega) (show 0 ≤ r + u by omega)
            have e : (r - u) * (r + u) = r * r - u * u := by grind
            omega
          have k2 := Int.mul_nonneg (show 0 ≤ -c - 1 by omega) (Int.le_of_lt hb)
          have e3 : (-c - 1) * b = -(c * b) - b := by grind
          omega
      have k3 : (-c) * b ≤ (-u - r) * b := by
        have k4 := Int.mul_le_mul_of_nonneg_left (show -u + r ≤ b by omega) (show 0 ≤ -u - r by omega)
        have e4 : (-u - r) * (-u + r) = u * u - r * r := by grind
        have e5 : -c * b = -(c * b) := by grind
        omega
      have k5 := le_of_mul hb k3
      have := bp hb
      omega
  · intro hc
    rcases Int.lt_or_gt_of_ne nz with hb | hb
    · obtain ⟨u1, u2⟩ := sn hb
      have k3 : c * (-b) ≤ (u + r) * (-b) := by
        have k4 := Int.mul_le_mul_of_nonneg_left (show u - r ≤ -b by omega) (show 0 ≤ u + r by omega)
        have e4 : (u + r) * (u - r) = u * u - r * r := by grind
        have e5 : c * -b = -(c * b) := by grind
        omega
      have k5 := le_of_mul (show 0 < -b by omega) k3
      have := bn hb
      omega
    · obtain ⟨u1, u2⟩ := sp hb
      have hu : -r ≤ u := by
        rcases Int.lt_or_le u (-r) with z | z
        · exfalso
          have k1 := Int.mul_le_mul (show r + 1 ≤ -u by omega) (show r + 1 ≤ -u by omega) (by omega) (by omega)
          have e : -u * -u = u * u := by grind
          have k2 := Int.mul_nonneg (Int.le_of_lt hc) (Int.le_of_lt hb)
          omega
        · exact z
      have k3 : c * b < (r + 1 + u) * b := by
        have k4 := Int.mul_le_mul_of_nonneg_left (show r + 1 - u ≤ b by omega) (show 0 ≤ r + 1 + u by omega)
        have e4 : (r + 1 + u) * (r + 1 - u) = (r + 1) * (r + 1) - u * u := by grind
        omega
      have k5 := lt_of_mul hb k3
      omega
/-- a root's chain with small numbers -/
def IsRt (s r : Int) (c : Chain) : Prop := ∃ t b, c = .root t s b r ∧ RootOk t s b r ∧ RootSm t b r
def chN (c : Chain) : Nat → Chain
  | 0 => c
  | n + 1 => (chN c n).next
def leftC : Chain → Int × Int
  | .root t _ b _ => (t, b)
  | _ => (0, 0)
theorem isrt_n {s r : Int} {c : Chain} (h : IsRt s r c) (hr : r ≤ 90) : ∀ n, IsRt s r (chN c n)
  | 0 => h
  | n + 1 => by
    obtain ⟨t, b, e, ok, sm⟩ := isrt_n h hr n
    exact ⟨_, _, by rw [chN, e]; rfl, root_next ok, sm_next ok sm hr⟩
theorem isrt_ok {s r : Int} {c : Chain} (h : IsRt s r c) : c.Ok ∧ c.ended = false := by
  obtain ⟨t, b, rfl, ok, _⟩ := h
  exact ⟨ok, rfl⟩
theorem pigeon : ∀ (N : Nat) (e : Nat → Nat), (∀ n, n ≤ N → e n < N) → ∃ i j, i < j ∧ j ≤ N ∧ e i = e j
  | 0, e, h => absurd (h 0 (Nat.le_refl _)) (Nat.not_lt_zero _)
  | N + 1, e, h => by
    by_cases c : ∃ i, i ≤ N ∧ e i = e (N + 1)
    · obtain ⟨i, hi, z⟩ := c
      exact ⟨i, N + 1, by omega, Nat.le_refl _, z⟩
    · have nv : ∀ i, i ≤ N → e i ≠ e (N + 1) := fun i hi z => c ⟨i, hi, z⟩
      have hv := h (N + 1) (Nat.le_refl _)
      obtain ⟨i, j, hij, hj, z⟩ := pigeon N (fun n => if e n = N then e (N + 1) else e n) (fun n hn => by
        have h1 := h n (by omega)
        have h2 := nv n hn
        show (if e n = N then e (N + 1) else e n) < N
        split <;> omega)
      refine ⟨i, j, hij, by omega, ?_⟩
      have h1 := nv i (by omega)
      have h2 := nv j (by omega)
      have z : (if e i = N then e (N + 1) else e i) = (if e j = N then e (N + 1) else e j) := z
      split at z <;> split at z <;> omega
theorem first_rep {α : Type} [DecidableEq α] (f : Nat → α) : ∀ N : Nat, (∃ i j, i < j ∧ j ≤ N ∧ f i = f j) → ∃ I J, I < J ∧ J ≤ N ∧ f I = f J ∧ ∀ i j, i < j → j < J → f i ≠ f j
  | 0, ⟨i, j, h1, h2, _⟩ => by omega
  | N + 1, ⟨i, j, h1, h2, h3⟩ => by
    by_cases c : ∃ i j, i < j ∧ j ≤ N ∧ f i = f j
    · obtain ⟨I, J, a, b, c, d⟩ := first_rep f N c
      exact ⟨I, J, a, by omega, c, d⟩
    · have : j = N + 1 := by
        rcases Nat.lt_or_ge j (N + 1) with z | z
        · exact absurd ⟨i, j, h1, by omega, h3⟩ c
        · omega
      subst this
      exact ⟨i, N + 1, h1, Nat.le_refl _, h3, fun i' j' a b z => c ⟨i', j', a, by omega, z⟩⟩
/-- where what is left comes again, for the first time -/
structure RingAt (c : Chain) (I J : Nat) : Prop where
  lt : I < J
  le : J ≤ 200000
  eq : leftC (chN c I) = leftC (chN c J)
  no : ∀ i j, i < j → j < J → leftC (chN c i) ≠ leftC (chN c j)
theorem ring_there {s r : Int} {c : Chain} (h : IsRt s r c) (hr : r ≤ 90) : ∃ I J, RingAt c I J := by
  have r0 : 0 ≤ r := by obtain ⟨_, _, _, ok, _⟩ := h; exact ok.rt.1
  have box : ∀ n, ∃ t b : Int, leftC (chN c n) = (t, b) ∧ t.natAbs ≤ 250 ∧ -36 ≤ b ∧ b ≤ 217 := fun n => by
    obtain ⟨t, b, e, ok, sm⟩ := isrt_n h hr n
    refine ⟨t, b, by rw [e]; rfl, sm.t1, ?_, ?_⟩
    · rcases Int.lt_or_le b 0 with z | z
      · have := sm.bn z; omega
      · omega
    · rcases Int.lt_or_le 0 b with z | z
      · have := sm.bp z; omega
      · omega
  obtain ⟨i, j, hij, hj, e⟩ := pigeon 150300 (fun n => (((leftC (chN c n)).1 + 250) * 300 + ((leftC (chN c n)).2 + 40)).toNat) (fun n _ => by
    obtain ⟨t, b, e, h1, h2, h3⟩ := box n
    rw [e]
    show ((t + 250) * 300 + (b + 40)).toNat < 150300
    omega)
  obtain ⟨I, J, a, b, c', d⟩ := first_rep (fun n => leftC (chN c n)) 150300 ⟨i, j, hij, hj, by
    obtain ⟨t, b, e1, h1, h2, h3⟩ := box i
    obtain ⟨t', b', e2, h1', h2', h3'⟩ := box j
    show leftC (chN c i) = leftC (chN c j)
    rw [e1, e2]
    rw [e1, e2] at e
    have e : ((t + 250) * 300 + (b + 40)).toNat = ((t' + 250) * 300 + (b' + 40)).toNat := e
    have : t = t' ∧ b = b' := by omega
    rw [this.1, this.2]⟩
  exact ⟨I, J, a, by omega, c', d⟩
theorem RingAt.one {c : Chain} {I J i : Nat} (h : RingAt c I J) (hi : i < J) (e : leftC (chN c i) = leftC (chN c J)) : i = I := by
  rcases Nat.lt_trichotomy i I with z | z | z
  · exact absurd (e.trans h.eq.symm) (h.no i I z h.lt)
  · exact z
  · exact absurd (h.eq.trans e.symm) (h.no I i z hi)
def partsN (c : Chain) (n : Nat) : List Int := (List.range n).map fun i => (chN c i).part
theorem partsN_succ (c : Chain) (n : Nat) : partsN c (n + 1) = partsN c n ++ [(chN c n).part] := by
  unfold partsN
  rw [List.range_succ, List.map_append]
  rfl
theorem partsN_len (c : Chain) (n : Nat) : (partsN c n).length = n := by unfold partsN; rw [List.length_map, List.length_range]
/-! the law's triple and what is left -/
theorem triple_eq {d A B C A' B' C' P Q P' Q' s r : Int} (hd : 0 < d) (R : QRel d A B C (.root P s Q r)) (R' : QRel d A' B' C' (.root P' s Q' r)) (p : Prim A B C) (p' : Prim A' B' C') (hC : 0 < C) (hC' : 0 < C') :
    (A = A' ∧ B = B' ∧ C = C') ↔ (P, Q) = (P', Q') := by
  obtain ⟨g, hg, gB, rfl, rfl, hs⟩ := R
  obtain ⟨g', hg', gB', rfl, rfl, hs'⟩ := R'
  have eB : g * B = g' * B' := by
    have e : (g * B * (g * B) - g' * B' * (g' * B')) * d = 0 := by
      have : g * B * (g * B) * d = g' * B' * (g' * B') * d := by rw [← hs, ← hs']
      rw [Int.sub_mul]
      omega
    have e2 : g * B * (g * B) = g' * B' * (g' * B') := by
      rcases Int.mul_eq_zero.mp e with y | y <;> omega
    generalize g * B = x at *
    generalize g' * B' = y at *
    rcases Int.lt_trichotomy x y with z | z | z
    · have := Int.mul_lt_mul' (Int.le_of_lt z) z (Int.le_of_lt gB) gB'
      omega
    · exact z
    · have := Int.mul_lt_mul' (Int.le_of_lt z) z (Int.le_of_lt gB') gB
      omega
  constructor
  · rintro ⟨rfl, rfl, rfl⟩
    have hB : B ≠ 0 := fun z => by rw [z, Int.mul_zero] at gB; omega
    have : g = g' := Int.eq_of_mul_eq_mul_right hB eB
    rw [this]
  · intro e
    have eA : g * A = g' * A' := (Prod.mk.inj e).1
    have eC : g * C = g' * C' := (Prod.mk.inj e).2
    have d1 : g ∣ g' := prim_dvd p' ⟨A, eA.symm⟩ ⟨B, eB.symm⟩ ⟨C, eC.symm⟩
    have d2 : g' ∣ g := prim_dvd p ⟨A', eA⟩ ⟨B', eB⟩ ⟨C', eC⟩
    have hab : g.natAbs = g'.natAbs := Nat.dvd_antisymm (Int.natAbs_dvd_natAbs.mpr d1) (Int.natAbs_dvd_natAbs.mpr d2)
    have eg : g = g' := by
      rcases Int.natAbs_eq_natAbs_iff.mp hab with z | z
      · exact z
      · exfalso
        rw [z] at eC
        have e1 : -g' * C = -(g' * C) := by grind
        rw [e1] at eC
        rcases Int.lt_or_gt_of_ne hg' with y | y
        · have k1 := Int.mul_neg_of_neg_of_pos y hC
          have k2 := Int.mul_neg_of_neg_of_pos y hC'
          omega
        · have k1 := Int.mul_pos y hC
          have k2 := Int.mul_pos y hC'
          omega
    subst eg
    exact ⟨Int.eq_of_mul_eq_mul_left hg eA, Int.eq_of_mul_eq_mul_left hg eB, Int.eq_of_mul_eq_mul_left hg eC⟩
def triD (x : Int × Int × Int) : PyData := .tuple [.int x.1, .int x.2.1, .int x.2.2]
theorem eqv_tri (x y : Int × Int × Int) : PyData.eqv (triD x) (triD y) = decide (x = y) := by
  obtain ⟨a, b, c⟩ := x
  obtain ⟨a', b', c'⟩ := y
  by_cases e : (a, b, c) = (a', b', c')
  · rw [decide_eq_true e]
    cases e
    simp [triD, PyData.eqv, PyData.eqvAll]
  · rw [decide_eq_false e]
    simp only [triD, PyData.eqv, PyData.eqvAll]
    rw [Bool.and_true]
    by_cases h1 : a = a'
    · by_cases h2 : b = b'
      · have h3 : c ≠ c' := fun z => e (by rw [h1, h2, z])
        simp [h3]
      · simp [h2]
    · simp [h1]
theorem shaped_tri (x : Int × Int × Int) : SeqAt.shaped (triD x) = true := by
  simp [triD, SeqAt.shaped, PyData.canLay0, PyData.canLayAll0, PyData.depth, PyData.depthAll]
theorem shaped_tris (xs : List (Int × Int × Int)) : SeqAt.shaped (.list (xs.map triD)) = true := by
  have h1 : PyData.canLayAll0 (xs.map triD) = true := by
    induction xs with
    | nil => rfl
    | cons x xs ih => simp [PyData.canLayAll0, triD, PyData.canLay0] at ih ⊢; exact ih
  have h2 : PyData.depthAll (xs.map triD) ≤ 1 := by
    induction xs with
    | nil => exact Nat.zero_le _
    | cons x xs ih =>
      simp only [List.map_cons, PyData.depthAll]
      have : PyData.depth (triD x) ≤ 1 := by simp [triD, PyData.depth, PyData.depthAll]
      have ih := ih (by simp [PyData.canLayAll0] at h1; exact h1.2)
      omega
  unfold SeqAt.shaped
  rw [Bool.and_eq_true]
  refine ⟨h1, decide_eq_true ?_⟩
  simp only [PyData.depth]
  omega
/-! ### rings: the program -/
theorem hu_of {k : Nat} {A : Around} (r : Room k A) : A.units + 1 < cLine := by have := r.un; omega
theorem hu65 {k : Nat} {A : Around} (r : Room k A) : A.units + 65 < cLine := by have := r.un; omega
theorem upd_at {H : Hp} {p : Addr} {o : HO} (_ : Same H (upd H p o)) : (upd H p o) p = some o := upd_same
theorem passX0 {X : Cx} : Passes (L2.CX X.prog X.w) X E0 := fun _ _ _ _ _ _ _ h => by
  obtain ⟨_, _, _, _, _, _, _, _, _, _, _, _, hE⟩ := h
  exact hE.elim
theorem while_nat {c : TT} {tb : TS} {D : Ends} {σ : St} {H : Hp} (Pv : Nat → St → Hp → Prop) {m0 : Nat} (h0 : Pv m0 σ H)
    (hs : ∀ m σ H, Pv m σ H → c σ H fun b H1 => if b = true then tb { D with nx := fun σ' H' => ∃ m', m' < m ∧ Pv m' σ' H', ct := fun σ' H' => ∃ m', m' < m ∧ Pv m' σ' H', bk := D.nx } σ H1 else D.nx σ H1)
    (mono : ∀ σ H Q Q', (∀ b H1, Q b H1 → Q' b H1) → c σ H Q → c σ H Q') : tWhile c tb D σ H := by
  refine ⟨Pv, ⟨_, h0⟩, ?_⟩
  intro m σ H p
  refine mono σ H _ _ (fun b H1 q => ?_) (hs m σ H p)
  cases b with
  | true => exact ⟨_, fun σ' H' z => z, q⟩
  | false => exact q
section
variable {X : Cx}
theorem count_eqU {x : V} : ∀ {xs : List V} {us : List Value}, Vals xs us → xs.all flatV = true → us.countP (eqU x) = xs.countP fun y => eqV y x
  | _, _, .nil, _ => rfl
  | y :: xs, u :: us, .cons r t, f => by
    rw [List.all_cons, Bool.and_eq_true] at f
    rw [List.countP_cons, List.countP_cons, eqU_of r f.1, count_eqU t f.2]
def rCountF (K : PySem.W.Frag) : V → List V → Hp → VK → Prop := fun x xs H Q => ∃ (a : Addr) (ys : List V) (y : V), x = V.ref a ∧ xs = [y] ∧ SqL K H a ys ∧ flatV y = true ∧ ys.all flatV = true ∧ Q (.int ((ys.countP fun z => eqV z y : Nat) : Int)) H
open PySem.Spec PyProof.Rows in
theorem mt_countF : MtR X "list.count" (rCountF X.K) := by
  intro pins s σ H x xs v us Q I rx rxs h
  obtain ⟨a, ys, y, rfl, rfl, hs, fy, fys, q⟩ := h
  cases rx
  cases rxs with
  | cons ry rt =>
    rename_i uy ut
    cases rt
    obtain ⟨its, rv, ⟨⟨cls, dd, data, sl⟩, n, ho, hc, hdn, hd⟩, hlen⟩ := I.list hs
    simp only at hc hd
    subst hc hd
    refine call_meets PySem.F.slot_list_count ⟨_, ho, rfl⟩ PySem.F.entry_list_count (PySem.F.args_list_count_2 _ _)
      (SeqAt.list_countAt a its.toArray n dd sl uy (eqU y)) ⟨ho, fun u' hu' => mem_eqAt ry fy rv fys u' (by simpa using hu'), ?_⟩
    have ec : its.toArray.toList.countP (eqU y) = ys.countP (fun z => eqV z y) := count_eqU rv fys
    refine ⟨.int ((ys.countP fun z => eqV z y : Nat) : Int), H, I.tok _, ⟨s.toks, ?_⟩, q⟩
    show Value.int ((its.toArray.toList.countP (eqU y) : Nat) : Int) s.toks = Value.int ((ys.countP fun z => eqV z y : Nat) : Int) s.toks
    rw [ec]
end
section
variable {X : Cx} {o e : Expr} {es : List Expr} {to : TE} {t : TA} {cpos apos : Pos} {T id : String} {name : Str} {r : V → List V → Hp → VK → Prop}
open PySem.Spec PyProof.Rows in
theorem pe_bmK {K0 : PySem.W.Frag} (hK : X.K = K0) (pa : PlainAttrs T) (slot : Slot T name id) (hty : typeOf (.builtin id) = pure (.type "method_descriptor")) (hm : MtR X id r) (ho : PE X o to) (ha : PA X (e :: es) t)
    (hbase : attributeBase o name X.env (eval o X.env) = eval o X.env := by rfl)
    (hfew : ((backTo cpos (starEach (e :: es) X.env)).all (fun x => !x.1) && (backToKw cpos (keywordEach [] X.env)).all (fun x => x.1.isSome)
      && decide ((e :: es).length + ([] : List Keyword).length + (if ([] : List Keyword).isEmpty then 0 else 1) < 30)) = true := by rfl)
    (hline : (apos.endLine == cpos.line) = true := by rfl) (hs : starEach (e :: es) X.env = (false, eval e X.env) :: starEach es X.env := by rfl) (hplain : (backTo cpos (starEach es X.env)).any (·.1) = false := by rfl) :
    PE X (.Call (.Attribute o name apos) (e :: es) [] cpos) (tBM K0 T r to t) := by
  subst hK
  exact pe_bm pa slot hty hm ho ha hbase hfew hline hs hplain
end
/-! what was left, by its place -/
def keyN (c : Chain) (i : Nat) : List Key := [.inl (leftC (chN c i)).1, .inl (leftC (chN c i)).2]
theorem keyN_eq {c : Chain} {i j : Nat} : keyN c i = keyN c j ↔ leftC (chN c i) = leftC (chN c j) := by
  constructor
  · intro h
    have h1 : (Sum.inl (leftC (chN c i)).1 : Key) = .inl (leftC (chN c j)).1 := (List.cons.inj h).1
    have h2 : (Sum.inl (leftC (chN c i)).2 : Key) = .inl (leftC (chN c j)).2 := (List.cons.inj (List.cons.inj h).2).1
    exact Prod.ext (Sum.inl.inj h1) (Sum.inl.inj h2)
  · intro h
    unfold keyN
    rw [h]
def placesN (c : Chain) (n : Nat) : List (List Key × V) := (List.range n).map fun i => (keyN c i, V.int (i : Int))
theorem places_succ (c : Chain) (n : Nat) : placesN c (n + 1) = placesN c n ++ [(keyN c n, V.int (n : Int))] := by
  unfold placesN
  rw [List.range_succ, List.map_append]
  rfl
theorem places_none {c : Chain} {k : List Key} : ∀ n : Nat, (∀ i, i < n → keyN c i ≠ k) → valV (placesN c n) k = none
  | 0, _ => rfl
  | n + 1, h => by
    rw [places_succ]
    have e := valV_snoc (keyN c n) k (V.int (n : Int)) (placesN c n)
    by_cases z : valV (placesN c n) (keyN c n) = none
    · rw [e z, if_neg (fun y => h n (by omega) y.symm)]
      exact places_none n fun i hi => h i (by omega)
    · have ih := places_none n fun i hi => h i (by omega)
      unfold valV at ih ⊢
      rw [List.find?_append]
      have ih2 : List.find? (fun kv => decide (kv.1 = k)) (placesN c n) = none := by
        cases q : List.find? (fun kv => decide (kv.1 = k)) (placesN c n) with
        | none => rfl
        | some y => rw [q] at ih; cases ih
      rw [ih2, List.find?_cons, decide_eq_false (h n (by omega))]
      rfl
theorem places_some {c : Chain} {I J : Nat} (R : RingAt c I J) : ∀ n : Nat, I < n → n ≤ J → valV (placesN c n) (keyN c J) = some (V.int (I : Int))
  | 0, h, _ => absurd h (Nat.not_lt_zero _)
  | n + 1, h, hn => by
    rw [places_succ]
    unfold valV
    rw [List.find?_append]
    by_cases z : I = n
    · subst z
      have h0 : valV (placesN c I) (keyN c J) = none := places_none I fun i hi e => by
        have := R.one (show i < J by omega) (keyN_eq.mp e)
        omega
      unfold valV at h0
      have ih2 : List.find? (fun kv => decide (kv.1 = keyN c J)) (placesN c I) = none := by
        cases q : List.find? (fun kv => decide (kv.1 = keyN c J)) (placesN c I) with
        | none => rfl
        | some y => rw [q] at h0; cases h0
      rw [ih2, List.find?_cons, decide_eq_true (keyN_eq.mpr R.eq)]
      rfl
    · have ih := places_some R n (by omega) (by omega)
      unfold valV at ih
      cases q : List.find? (fun kv => decide (kv.1 = keyN c J)) (placesN c n) with
      | none => rw [q] at ih; cases ih
      | some y => rw [q] at ih; exact ih
theorem places_put {c : Chain} {n : Nat} (h : valV (placesN c n) (keyN c n) = none) : putK (placesN c n) (keyN c n) (V.int (n : Int)) = placesN c (n + 1) := by
  unfold putK
  rw [valV_any, h, places_succ]
  rfl
section
variable {P : Program} {w : World} {K : PySem.W.Frag} {mg : Str → Option Value} {base : Heap} {A : Ad}
def sp_what_is_left (A : Ad) (K : PySem.W.Frag) : Sp := fun vs H Q _ => ∃ (c : Addr) (t s b r : Int), vs = [.ref c] ∧ Chain.At A K H c (.root t s b r) ∧ ∀ p, H p = none → Q (.ref p) (upd H p (.tup [.int t, .int b]))
theorem ok_what_is_left (T : CT K mg A) (D : DT K mg A) : MOk P w K mg base CX0 1 A.c_RootChain "what_is_left" ["self"] (sp_what_is_left A K) := by
  refine MOk.of T.cl_RootChain D.RootChain_what_is_left fun f fd F => ?_
  refine F.ok sc_RootChain_what_is_left (fun vs H Q E h => ?_) (fun cdv Ar outer s H vs Q E hr h => ?_)
  · obtain ⟨c, t, s, b, r, rfl, _⟩ := h
    rfl
  · obtain ⟨c, t, sq, b, r, rfl, ⟨dx, hc⟩, k⟩ := h
    refine ⟨_, (pss_one (ps_ret (pe_tup (pa_cons (pe_fld (pv 0) rfl) (pa_cons (pe_fld (pv 0) rfl) pa_nil))))), ?_⟩
    exact ⟨_, rfl, c, _, dx, _, _, rfl, hc, T.cl_RootChain, T.n_RootChain_top, rfl, _, rfl, c, _, dx, _, _, rfl, hc, T.cl_RootChain, T.n_RootChain_below, rfl, (by show 2 ≤ sizeLine; decide), fun p np => k p np⟩
def KpC (c : Addr) (H H' : Hp) : Prop := ∀ b o, H b = some o → b ≠ c → H' b = some o
def sp_read_round (A : Ad) (K : PySem.W.Frag) : Sp := fun vs H Q E => ∃ (c : Addr) (c0 : Chain) (s r most : Int) (I J : Nat), vs = [.ref c, .int most] ∧ Chain.At A K H c c0 ∧ IsRt s r c0 ∧ r ≤ 90 ∧ RingAt c0 I J ∧
  ((J : Int) ≤ most → ∀ p l H', H' p = some (.tup [.ref l, .int (I : Int)]) → H' l = some (.lst ((partsN c0 J).map V.int)) → KpC c H H' → Q (.ref p) H') ∧
  (most < (J : Int) → ∀ H', KpC c H H' → E (.ref A.c_TooLong) none H')
theorem ok_read_round (T : CT K mg A) (D : DT K mg A) : COk P w K mg base (L2.CX P w) 2 "read_round" ["chain", "most"] (sp_read_round A K) := by
  have M_left := ok_what_is_left (P := P) (w := w) (base := base) T D
  have M_next := ok_RootChain_next_part (P := P) (w := w) (base := base) T D
  refine COk.by D.read_round fun f fd F => ?_
  refine F.okX sc_read_round (fun vs H Q E h => ?_) (fun cdv Ar outer s H vs Q E hr h => ?_)
  · obtain ⟨c, c0, s, r, most, I, J, rfl, _⟩ := h
    rfl
  · obtain ⟨c, c0, s, r, most, I, J, rfl, hc, rt, hr90, RA, k1, k2⟩ := h
    refine ⟨_, (pss_cons (ps_set (i := 2) sc_read_round.nd rfl (Or.inl rfl) (pe_lst pa_nil))
    (pss_cons (ps_set (i := 3) sc_read_round.nd rfl (Or.inl rfl) (pe_dnewT))
    (pss_cons (ps_while (passes_of rfl) (pt_cmp (pc_dnotin (hu_of hr) (pe_m0 M_left (hr.mono (by first | decide | omega)) (pv 0)) (pv 3)))
      (pss_cons (ps_if (pt_cmpR op_ge (pe_callB call_len_seq (by rfl) T.b_len (by decide +kernel) (pa_cons (pv 2) pa_nil)) (pv 1) (nomark _))
      (pss_one (ps_raise rfl (takes_of rfl rfl rfl rfl) (pmk_own PySem.F.excBase_ValueError T.x_TooLong.x T.x_TooLong.g T.x_TooLong.k (raises_own T.x_TooLong.b T.x_TooLong.t) rfl))) pss_nil)
    (pss_cons (ps_dput (hu_of hr) (pv 3) (pe_m0 M_left (hr.mono (by first | decide | omega)) (pv 0)) (pe_callB call_len_seq (by rfl) T.b_len (by decide +kernel) (pa_cons (pv 2) pa_nil)) rfl)
    (pss_one (ps_expr (pe_bm PySem.F.plainAttrs_list PySem.F.slot_list_append PySem.F.type_list_append mt_append (pv 2) (pa_cons (pe_m0 M_next (hr.mono (by first | decide | omega)) (pv 0)) pa_nil)))))))
    (pss_one (ps_ret (pe_tup (pa_cons (pv 2) (pa_cons (pe_dget (hu_of hr) (pv 3) (pe_m0 M_left (hr.mono (by first | decide | omega)) (pv 0)) (fun _ _ => rfl)) pa_nil)))))))), ?_⟩
    obtain ⟨C0, dc0, fs0, ec0⟩ := hc.there
    refine ⟨Nat.zero_le _, fun l nl => ?_⟩
    have s1 := same_upd (o := .lst []) nl
    have hl1 := upd_at s1
    have hc1 := hc.same s1
    have nlc : l ≠ c := (ne_of_none ec0 nl).symm
    have ec1 := s1 _ _ ec0
    generalize upd H l _ = H1 at *
    refine fun d nd => ?_
    have s2 := same_upd (o := .dT []) nd
    have hd2 := upd_at s2
    have hl2 := s2 _ _ hl1
    have hc2 := hc1.same s2
    have ndc : d ≠ c := (ne_of_none ec1 nd).symm
    have ndl : d ≠ l := (ne_of_none hl1 nd).symm
    have ss := s1.trans s2
    have nlH : H l = none := nl
    have ndH : H d = none := s1.free nd
    generalize upd H1 d _ = H2 at *
    have Jle := RA.le
    refine while_nat (fun μ σ H' => ∃ n : Nat, n ≤ J ∧ μ = J - n ∧ σ = [some (.ref c), some (.int most), some (.ref l), some (.ref d)] ∧ (n = 0 ∨ (n : Int) ≤ most) ∧ H' l = some (.lst ((partsN c0 n).map V.int)) ∧ H' d = some (.dT (placesN c0 n)) ∧ Chain.At A K H' c (chN c0 n) ∧ KpC c H H')
      ⟨0, Nat.zero_le _, rfl, rfl, .inl rfl, hl2, hd2, hc2, fun b o e _ => ss _ _ e⟩ ?_ ?_
    · rintro μ σ H3 ⟨n, hn, rfl, rfl, hmo, hl3, hd3, hc3, kp3⟩
      obtain ⟨t, b, en, ok, sm⟩ := isrt_n rt hr90 n
      have hc3' : Chain.At A K H3 c (.root t s b r) := by rw [← en]; exact hc3
      obtain ⟨dx, ec3⟩ := hc3'
      have kn : keyN c0 n = [.inl t, .inl b] := by unfold keyN; rw [en]; rfl
      refine ⟨_, rfl, c, dx, _, rfl, ec3, rfl, c, t, s, b, r, rfl, ⟨dx, ec3⟩, fun p np => ?_⟩
      have s4 := same_upd (o := .tup [V.int t, .int b]) np
      have hp4 := upd_at s4
      have hl4 := s4 _ _ hl3
      have hd4 := s4 _ _ hd3
      have ec4 := s4 _ _ ec3
      have kp4 : KpC c H _ := fun b o e nb => s4 _ _ (kp3 b o e nb)
      generalize upd H3 p _ = H4 at *
      have hkey : H4 p = some (.tup ((keyN c0 n).map kV)) := by rw [kn]; exact hp4
      refine ⟨_, rfl, d, _, rfl, DGet.t hd4 hkey, _, rfl, ?_⟩
      by_cases hJ : n = J
      · have e1 : valV (placesN c0 n) (keyN c0 n) = some (V.int (I : Int)) := by
          rw [hJ]
          exact places_some RA J RA.lt (Nat.le_refl _)
        rw [e1]
        refine iteF ⟨_, rfl, _, rfl, _, rfl, c, dx, _, rfl, ec4, rfl, c, t, s, b, r, rfl, ⟨dx, ec4⟩, fun p2 np2 => ?_⟩
        have s5 := same_upd (o := .tup [V.int t, .int b]) np2
        have hkey5 : (upd H4 p2 (.tup [V.int t, .int b])) p2 = some (.tup ((keyN c0 n).map kV)) := by rw [kn]; exact upd_at s5
        refine ⟨d, _, rfl, (by rw [← e1]; exact DGet.t (s5 _ _ hd4) hkey5), (by show 2 ≤ sizeLine; decide), fun p3 np3 => ?_⟩
        have s6 := same_upd (o := .tup [V.ref l, .int (I : Int)]) np3
        have hm : (J : Int) ≤ most := by
          rcases hmo with z | z
          · have := RA.lt; omega
          · omega
        refine k1 hm p3 l _ upd_same (s6 _ _ (s5 _ _ (by rw [← hJ]; exact hl4))) fun b o e nb => s6 _ _ (s5 _ _ (kp4 b o e nb))
      · have hlt : n < J := by omega
        have e1 : valV (placesN c0 n) (keyN c0 n) = none := places_none n fun i hi z => RA.no i n hi hlt (keyN_eq.mp z)
        rw [e1]
        refine iteT ?_
        have lenP : ((((partsN c0 n).map V.int).length : Nat) : Int) = (n : Int) := by rw [List.length_map, partsN_len]
        refine ⟨_, rfl, l, _, rfl, .inl (SqL.of hl4), _, rfl, _, _, rfl, rfl, _, rfl, ?_⟩
        rw [lenP]
        by_cases hm : most ≤ (n : Int)
        · rw [decide_eq_true hm]
          exact iteT (k2 (by omega) H4 kp4)
        · rw [decide_eq_false hm]
          refine iteF ?_
          refine ⟨_, rfl, l, _, rfl, .inl (SqL.of hl4), ?_⟩
          rw [lenP]
          refine ⟨_, rfl, _, rfl, c, dx, _, rfl, ec4, rfl, c, t, s, b, r, rfl, ⟨dx, ec4⟩, fun p2 np2 => ?_⟩
          have s5 := same_upd (o := .tup [V.int t, .int b]) np2
          have hkey5 : (upd H4 p2 (.tup [V.int t, .int b])) p2 = some (.tup ((keyN c0 n).map kV)) := by rw [kn]; exact upd_at s5
          have hl5 := s5 _ _ hl4
          have hd5 := s5 _ _ hd4
          have ec5 := s5 _ _ ec4
          have kp5 : KpC c H _ := fun b o e nb => s5 _ _ (kp4 b o e nb)
          generalize upd H4 p2 _ = H5 at *
          have lpl : (placesN c0 n).length < sizeLine := by unfold placesN; rw [List.length_map, List.length_range, sizeLine_eq]; omega
          refine ⟨d, _, rfl, DPut.t hd5 hkey5 lpl, ?_⟩
          rw [places_put e1]
          have hl6 : (upd H5 d (.dT (placesN c0 (n + 1)))) l = some (.lst ((partsN c0 n).map V.int)) := by rw [upd_ne ndl.symm]; exact hl5
          have hd6 : (upd H5 d (.dT (placesN c0 (n + 1)))) d = some (.dT (placesN c0 (n + 1))) := upd_same
          have ec6 : (upd H5 d (.dT (placesN c0 (n + 1)))) c = _ := (upd_ne ndc.symm).trans ec5
          have kp6 : KpC c H (upd H5 d (.dT (placesN c0 (n + 1)))) := fun b o e nb => by rw [upd_ne (ne_of_none e ndH)]; exact kp5 b o e nb
          generalize upd H5 d _ = H6 at *
          refine ⟨_, rfl, .inl ⟨rfl, _, SqL.of hl6⟩, _, rfl, c, dx, _, rfl, ec6, rfl, c, t, s, b, r, rfl, ⟨dx, ec6⟩, ok, fun H7 hc7 kp7 => ?_⟩
          have hl7 := kp7 _ _ hl6 nlc
          have hd7 := kp7 _ _ hd6 ndc
          refine ⟨l, _, _, rfl, rfl, hl7, (by rw [List.length_map, partsN_len, sizeLine_eq]; omega), ?_⟩
          have hc8 : Chain.At A K (upd H7 l (.lst ((partsN c0 n).map V.int ++ [V.int (rootPart t b r)]))) c (chN c0 (n + 1)) := by
            rw [chN, en]
            exact hc7.kept (N := fun z => z = l) nlc.symm (fun z o e nz => by rw [upd_ne nz]; exact e) fun z o e y => by
              subst e
              rw [hl7] at y
              cases y
              exact ⟨fun _ q => (by cases q), fun _ _ q => (by cases q)⟩
          refine ⟨J - (n + 1), by omega, n + 1, by omega, rfl, rfl, .inr (by omega), ?_, ?_, hc8, fun b o e nb => ?_⟩
          · rw [upd_same, partsN_succ, List.map_append, en]
            rfl
          · rw [upd_ne ndl]; exact hd7
          · rw [upd_ne (ne_of_none e nlH)]; exact kp7 _ _ (kp6 b o e nb) nb
    · intro σ H' Q1 Q2 im hq
      obtain ⟨x, e, a, dx, fs, e1, e2, e3, c', t, s', b, r', e4, hA, hall⟩ := hq
      refine ⟨x, e, a, dx, fs, e1, e2, e3, c', t, s', b, r', e4, hA, fun p np => ?_⟩
      obtain ⟨x2, e5, a2, o2, e6, g, b2, e7, z⟩ := hall p np
      exact ⟨x2, e5, a2, o2, e6, g, b2, e7, im _ _ z⟩
end
/-! ### rings: the law's own way -/
theorem cut_takeN (xs : List V) (n : Nat) : cutV xs none (some (n : Int)) = xs.take n := by
  unfold cutV
  rw [HT.sIx_none, HT.sIx_nat, List.drop_zero, Nat.sub_zero]
  rcases Nat.le_total n xs.length with h | h
  · rw [Nat.min_eq_left h]
  · rw [Nat.min_eq_right h, List.take_of_length_le (Nat.le_refl _), List.take_of_length_le h]
theorem cut_dropN (xs : List V) (n : Nat) : cutV xs (some (n : Int)) none = xs.drop n := by
  unfold cutV
  rw [HT.sIx_none, HT.sIx_nat]
  rcases Nat.le_total n xs.length with h | h
  · rw [Nat.min_eq_left h, List.take_of_length_le (Nat.le_of_eq List.length_drop)]
  · rw [Nat.min_eq_right h, List.take_of_length_le (Nat.le_of_eq List.length_drop), List.drop_of_length_le (Nat.le_refl _), List.drop_of_length_le h]
/-- triples, one behind another -/
def TrisAt (K : PySem.W.Frag) (H : Hp) : List Addr → List (Int × Int × Int) → Prop
  | [], [] => True
  | t :: ts, c :: cs => T3 K H t c.1 c.2.1 c.2.2 ∧ TrisAt K H ts cs
  | _, _ => False
section
variable {P : Program} {w : World} {K : PySem.W.Frag} {mg : Str → Option Value} {base : Heap} {A : Ad}
theorem TrisAt.len {H : Hp} : ∀ {ts : List Addr} {cs : List (Int × Int × Int)}, TrisAt K H ts cs → ts.length = cs.length
  | [], [], _ => rfl
  | _ :: ts, _ :: cs, h => by rw [List.length_cons, List.length_cons, TrisAt.len h.2]
  | [], _ :: _, h => h.elim
  | _ :: _, [], h => h.elim
theorem TrisAt.but {H H' : Hp} {N : Addr → Prop} (k : ∀ c o, H c = some o → ¬ N c → H' c = some o) (hN : ∀ c o, N c → H c = some o → (∀ ys, o ≠ .tup ys) ∧ ∀ ob u, o ≠ .frz ob u) : ∀ {ts : List Addr} {cs : List (Int × Int × Int)}, TrisAt K H ts cs → TrisAt K H' ts cs
  | [], [], _ => trivial
  | _ :: ts, _ :: cs, h => ⟨sqT_but (N := N) h.1 k hN, TrisAt.but k hN h.2⟩
  | [], _ :: _, h => h.elim
  | _ :: _, [], h => h.elim
theorem TrisAt.same {H H' : Hp} (s : Same H H') {ts : List Addr} {cs : List (Int × Int × Int)} (h : TrisAt K H ts cs) : TrisAt K H' ts cs := h.but (N := fun _ => False) (fun c o e _ => s c o e) fun _ _ z => z.elim
theorem TrisAt.snoc {H : Hp} {t : Addr} {c : Int × Int × Int} (hc : T3 K H t c.1 c.2.1 c.2.2) : ∀ {ts : List Addr} {cs : List (Int × Int × Int)}, TrisAt K H ts cs → TrisAt K H (ts ++ [t]) (cs ++ [c])
  | [], [], _ => ⟨hc, trivial⟩
  | _ :: ts, _ :: cs, h => ⟨h.1, TrisAt.snoc hc h.2⟩
  | [], _ :: _, h => h.elim
  | _ :: _, [], h => h.elim
theorem tri_dp {H : Hp} {t : Addr} {c : Int × Int × Int} (h : T3 K H t c.1 c.2.1 c.2.2) : Dp K H (.ref t) (triD c) := .tup h (.cons (.int _) (.cons (.int _) (.cons (.int _) .nil)))
theorem TrisAt.dp {H : Hp} : ∀ {ts : List Addr} {cs : List (Int × Int × Int)}, TrisAt K H ts cs → DpAll K H (ts.map V.ref) (cs.map triD)
  | [], [], _ => .nil
  | _ :: ts, _ :: cs, h => .cons (tri_dp h.1) (TrisAt.dp h.2)
  | [], _ :: _, h => h.elim
  | _ :: _, [], h => h.elim
theorem lstNo {H : Hp} {l : Addr} {xs : List V} (h : H l = some (.lst xs)) : ∀ b o, b = l → H b = some o → (∀ ys, o ≠ .tup ys) ∧ ∀ ob u, o ≠ .frz ob u := fun b o e z => by
  subst e
  rw [h] at z
  cases z
  exact ⟨fun _ q => (by cases q), fun _ _ q => (by cases q)⟩
/-- a triple beside the n-th of what is left -/
def TriAt (d : Int) (c0 : Chain) (n : Nat) (x : Int × Int × Int) : Prop := QRel d x.1 x.2.1 x.2.2 (chN c0 n) ∧ Prim x.1 x.2.1 x.2.2 ∧ 0 < x.2.2
theorem tri_eq {d s r : Int} {c0 : Chain} {i j : Nat} {x y : Int × Int × Int} (hd : 0 < d) (rt : IsRt s r c0) (hr : r ≤ 90) (h : TriAt d c0 i x) (h' : TriAt d c0 j y) : x = y ↔ leftC (chN c0 i) = leftC (chN c0 j) := by
  obtain ⟨t, b, e, ok, _⟩ := isrt_n rt hr i
  obtain ⟨t', b', e', ok', _⟩ := isrt_n rt hr j
  obtain ⟨A, B, C⟩ := x
  obtain ⟨A', B', C'⟩ := y
  obtain ⟨R, p, hC⟩ := h
  obtain ⟨R', p', hC'⟩ := h'
  rw [e] at R
  rw [e'] at R'
  have := triple_eq hd R R' p p' hC hC'
  rw [e, e']
  show _ ↔ (t, b) = (t', b')
  rw [← this]
  constructor
  · intro z
    have z1 := Prod.mk.inj z
    have z2 := Prod.mk.inj z1.2
    exact ⟨z1.1, z2.1, z2.2⟩
  · rintro ⟨z1, z2, z3⟩
    dsimp only at z1 z2 z3
    rw [z1, z2, z3]
def sp_law_ring (K : PySem.W.Frag) : Sp := fun vs H Q _ => ∃ (p : Addr) (x : Int × Int × Int) (d s r : Int) (c0 : Chain) (I J : Nat), vs = [.ref p, .int d] ∧ T3 K H p x.1 x.2.1 x.2.2 ∧ TriAt d c0 0 x ∧ IsRt s r c0 ∧ r ≤ 90 ∧ 0 < d ∧ bd 100 d ∧ RingAt c0 I J ∧
  ∀ q l1 l2 H', H' q = some (.tup [.ref l1, .ref l2]) → H' l1 = some (.lst (((partsN c0 J).take I).map V.int)) → H' l2 = some (.lst (((partsN c0 J).drop I).map V.int)) → Same H H' → Q (.ref q) H'
theorem ok_law_ring (T : CT K mg A) (D : DT K mg A) (G_law_common : COk P w K mg base CX0 1 "_law_common" ["_law_one", "_law_other"] sp_law_common) : COk P w K mg base CX0 5 "_law_ring" ["_law_one", "_law_d"] (sp_law_ring K) := by
  have G_law_made := ok_law_made (P := P) (w := w) (base := base) D G_law_common
  have G_law_sum : COk P w K mg base CX0 3 "_law_sum" ["_law_one", "_law_other", "_law_by"] (sp_law_sum K) := ok_law_sum D G_law_made
  have G_law_product : COk P w K mg base CX0 3 "_law_product" ["_law_one", "_law_other", "_law_d"] (sp_law_product K) := ok_law_product D G_law_made
  have G_law_quotient := ok_law_quotient (P := P) (w := w) (base := base) D G_law_made G_law_product
  have G_law_below := ok_law_below (P := P) (w := w) (base := base) T D
  refine COk.by D.law_ring fun f fd F => ?_
  refine F.ok sc_law_ring (fun vs H Q E h => ?_) (fun cdv Ar outer s H vs Q E hr h => ?_)
  · obtain ⟨p, x, d, s, r, c0, I, J, rfl, _⟩ := h
    rfl
  · obtain ⟨p0, x0, d, s, r, c0, I, J, rfl, hp0, tr0, rt, hr90, hd, bdd, RA, k⟩ := h
    refine ⟨_, (pss_cons (ps_set (i := 2) sc_law_ring.nd rfl (Or.inl rfl) (pe_lst pa_nil))
    (pss_cons (ps_set (i := 3) sc_law_ring.nd rfl (Or.inl rfl) (pe_lst pa_nil))
    (pss_cons (ps_while PassesOwn.never (pt_cmpR (op_notInD (hu65 hr)) (pv 0) (pv 2) rfl)
      (pss_cons (ps_expr (pe_bm PySem.F.plainAttrs_list PySem.F.slot_list_append PySem.F.type_list_append mt_append (pv 2) (pa_cons (pv 0) pa_nil)))
    (pss_cons (ps_set (i := 4) sc_law_ring.nd rfl (Or.inl rfl) (pe_c G_law_below (hr.mono (by first | decide | omega)) (pa_cons (pv 0) (pa_cons (pv 1) pa_nil))))
    (pss_cons (ps_expr (pe_bm PySem.F.plainAttrs_list PySem.F.slot_list_append PySem.F.type_list_append mt_append (pv 3) (pa_cons (pv 4) pa_nil)))
    (pss_one (ps_set (i := 0) sc_law_ring.nd rfl (Or.inl rfl) (pe_c G_law_quotient (hr.mono (by first | decide | omega)) (pa_cons (pe_tup (pa_cons pe_int (pa_cons pe_int (pa_cons pe_int pa_nil)))) (pa_cons (pe_c G_law_sum (hr.mono (by first | decide | omega)) (pa_cons (pv 0) (pa_cons (pe_tup (pa_cons (pv 4) (pa_cons pe_int (pa_cons pe_int pa_nil)))) (pa_cons (pe_un un_neg pe_int) pa_nil)))) (pa_cons (pv 1) pa_nil))))))))))
    (pss_cons (ps_set (i := 5) sc_law_ring.nd rfl (Or.inl rfl) (pe_bm PySem.F.plainAttrs_list PySem.F.slot_list_index PySem.F.type_list_index (mt_indexD (hu65 hr)) (pv 2) (pa_cons (pv 0) pa_nil)))
    (pss_one (ps_ret (pe_tup (pa_cons (pe_slice sl_list (pv 3) po_none (po_some (pv 5))) (pa_cons (pe_slice sl_list (pv 3) (po_some (pv 5)) po_none) pa_nil))))))))), ?_⟩
    refine ⟨Nat.zero_le _, fun sn nsn => ?_⟩
    have s1 := same_upd (o := .lst []) nsn
    have hsn1 := upd_at s1
    have hp1 := sqT_same hp0 s1
    generalize upd H sn _ = H1 at *
    refine ⟨Nat.zero_le _, fun pl npl => ?_⟩
    have s2 := same_upd (o := .lst []) npl
    have hpl2 := upd_at s2
    have hsn2 := s2 _ _ hsn1
    have hp2 := sqT_same hp1 s2
    have ss := s1.trans s2
    have nplH : H pl = none := s1.free npl
    have nps : pl ≠ sn := (ne_of_none hsn1 npl).symm
    generalize upd H1 pl _ = H2 at *
    have Jle := RA.le
    have hd' : 0 ≤ d := by omega
    have b1 : bd 1500 (1 : Int) := bd1 (by decide)
    have bm1 : bd 1500 (-1 : Int) := bd.neg b1
    refine while_nat (fun μ σ H' => ∃ (n : Nat) (p : Addr) (x : Int × Int × Int) (qs : List Addr) (xs : List (Int × Int × Int)) (v4 : Option V), n ≤ J ∧ μ = J - n ∧ σ = [some (.ref p), some (.int d), some (.ref sn), some (.ref pl), v4, none] ∧ T3 K H' p x.1 x.2.1 x.2.2 ∧ TriAt d c0 n x ∧ H' sn = some (.lst (qs.map V.ref)) ∧ TrisAt K H' qs xs ∧ xs.length = n ∧ (∀ i y, xs[i]? = some y → TriAt d c0 i y) ∧ H' pl = some (.lst ((partsN c0 n).map V.int)) ∧ Same H H')
      ⟨0, p0, x0, [], [], none, Nat.zero_le _, rfl, rfl, hp2, tr0, hsn2, trivial, rfl, (fun i y z => by cases z), hpl2, ss⟩ ?_ ?_
    · rintro μ σ H3 ⟨n, p, x, qs, xs, v4, hn, rfl, rfl, hp3, tr, hsn3, tri3, lxs, hall, hpl3, sH⟩
      refine ⟨_, rfl, _, rfl, triD x, xs.map triD, tri_dp hp3, .lst (SqL.of hsn3) tri3.dp, shaped_tri x, shaped_tris xs, _, rfl, ?_⟩
      by_cases hJ : n = J
      · -- it comes again
        have hI : ∃ y, xs[I]? = some y := ⟨_, List.getElem?_eq_getElem (show I < xs.length by rw [lxs, hJ]; exact RA.lt)⟩
        obtain ⟨y, hy⟩ := hI
        have eyx : y = x := (tri_eq hd rt hr90 (hall I y hy) tr).mpr (by rw [hJ]; exact RA.eq)
        have hany : ((xs.map triD).any fun z => PyData.eqv z (triD x)) = true := by
          rw [List.any_map, List.any_eq_true]
          exact ⟨y, List.mem_of_getElem? hy, by show PyData.eqv (triD y) (triD x) = true; rw [eqv_tri, decide_eq_true eyx]⟩
        rw [hany]
        refine iteF ?_
        refine ⟨_, rfl, .inl ⟨rfl, _, SqL.of hsn3⟩, _, rfl, sn, _, triD x, xs.map triD, I, triD y, rfl, rfl, .lst (SqL.of hsn3) tri3.dp, tri_dp hp3, shaped_tris xs, shaped_tri x, (by rw [List.getElem?_map, hy]; rfl), (by rw [eqv_tri, decide_eq_true eyx]), (fun m z' hm hz' => ?_), ?_⟩
        · rw [List.getElem?_map] at hz'
          cases ey' : xs[m]? with
          | none => rw [ey'] at hz'; cases hz'
          | some y' =>
            rw [ey'] at hz'
            cases hz'
            rw [eqv_tri]
            refine decide_eq_false fun z => ?_
            have e1 := (tri_eq hd rt hr90 (hall m y' ey') tr).mp z
            rw [hJ] at e1
            have := RA.one (show m < J by have := RA.lt; omega) e1
            omega
        · refine ⟨_, rfl, _, rfl, _, rfl, pl, _, rfl, SqL.of hpl3, fun l1 nl1 => ?_⟩
          have s4 := same_upd (o := .lst (cutV ((partsN c0 n).map V.int) none (some (I : Int)))) nl1
          refine ⟨_, rfl, _, rfl, _, rfl, pl, _, rfl, SqL.of (s4 _ _ hpl3), fun l2 nl2 => ?_⟩
          have s5 := same_upd (o := .lst (cutV ((partsN c0 n).map V.int) (some (I : Int)) none)) nl2
          refine ⟨(by show 2 ≤ sizeLine; decide), fun q nq => ?_⟩
          have s6 := same_upd (o := .tup [V.ref l1, .ref l2]) nq
          refine k q l1 l2 _ upd_same ?_ ?_ (sH.trans ((s4.trans s5).trans s6))
          · rw [(s5.trans s6) _ _ (upd_at s4), hJ, cut_takeN, List.map_take]
          · rw [s6 _ _ (upd_at s5), hJ, cut_dropN, List.map_drop]
      · have hlt : n < J := by omega
        have hany : ((xs.map triD).any fun z => PyData.eqv z (triD x)) = false := by
          rw [List.any_map, List.any_eq_false]
          intro y hy
          obtain ⟨i, hi⟩ := List.mem_iff_getElem?.mp hy
          have hil : i < n := by have := (List.getElem?_eq_some_iff.mp hi).1; omega
          show ¬ PyData.eqv (triD y) (triD x) = true
          rw [eqv_tri]
          intro z
          exact RA.no i n hil hlt ((tri_eq hd rt hr90 (hall i y hi) tr).mp (of_decide_eq_true z))
        rw [hany]
        refine iteT ?_
        -- seen
        refine ⟨_, rfl, .inl ⟨rfl, _, SqL.of hsn3⟩, _, rfl, sn, _, _, rfl, rfl, hsn3, (by rw [List.length_map, tri3.len, lxs, sizeLine_eq]; omega), ?_⟩
        have kp4 : ∀ b o, H3 b = some o → ¬ b = sn → (upd H3 sn (.lst (qs.map V.ref ++ [V.ref p]))) b = some o := fun b o e nb => by rw [upd_ne nb]; exact e
        have hsn4 : (upd H3 sn (.lst (qs.map V.ref ++ [V.ref p]))) sn = some (.lst ((qs ++ [p]).map V.ref)) := by rw [upd_same, List.map_append]; rfl
        have tri4 := tri3.but (N := fun b => b = sn) kp4 (lstNo hsn3)
        have hp4 : T3 K (upd H3 sn (.lst (qs.map V.ref ++ [V.ref p]))) p x.1 x.2.1 x.2.2 := sqT_but (N := fun b => b = sn) hp3 kp4 (lstNo hsn3)
        have hpl4 := kp4 _ _ hpl3 nps
        have sH4 : Same H (upd H3 sn (.lst (qs.map V.ref ++ [V.ref p]))) := fun b o e => by rw [upd_ne (ne_of_none e nsn)]; exact sH b o e
        generalize upd H3 sn _ = H4 at *
        obtain ⟨R, prim, hC⟩ := tr
        obtain ⟨t, b, en, ok, sm⟩ := isrt_n rt hr90 n
        rw [en] at R
        have okc : Chain.Ok (.root t s b r) := ok
        obtain ⟨ba, bb, bc⟩ := qrel_bd R okc
        refine ⟨_, rfl, _, rfl, p, x.1, x.2.1, x.2.2, d, rfl, hp4, by omega, hd', ⟨ba.mono (by decide), bb.mono (by decide), bc.mono (by decide)⟩, bdd, fun r' hr' => ?_⟩
        rw [qrel_part R okc hC hr']
        have bpart : bd 1000 (Chain.part (.root t s b r)) := (root_small ok).2.2.2.2.2.1
        obtain ⟨pt, hpt⟩ : ∃ pt, Chain.part (.root t s b r) = pt := ⟨_, rfl⟩
        rw [hpt] at bpart ⊢
        refine ⟨_, rfl, .inl ⟨rfl, _, SqL.of hpl4⟩, _, rfl, pl, _, _, rfl, rfl, hpl4, (by rw [List.length_map, partsN_len, sizeLine_eq]; omega), ?_⟩
        have kp5 : ∀ b o, H4 b = some o → ¬ b = pl → (upd H4 pl (.lst ((partsN c0 n).map V.int ++ [V.int pt]))) b = some o := fun b o e nb => by rw [upd_ne nb]; exact e
        have hpl5 : (upd H4 pl (.lst ((partsN c0 n).map V.int ++ [V.int pt]))) pl = some (.lst ((partsN c0 (n + 1)).map V.int)) := by
          rw [upd_same, partsN_succ, List.map_append, en, hpt]
          rfl
        have tri5 := tri4.but (N := fun b => b = pl) kp5 (lstNo hpl4)
        have hp5 : T3 K (upd H4 pl (.lst ((partsN c0 n).map V.int ++ [V.int pt]))) p x.1 x.2.1 x.2.2 := sqT_but (N := fun b => b = pl) hp4 kp5 (lstNo hpl4)
        have hsn5 := kp5 _ _ hsn4 nps.symm
        have sH5 : Same H (upd H4 pl (.lst ((partsN c0 n).map V.int ++ [V.int pt]))) := fun b o e => by rw [upd_ne (ne_of_none e nplH)]; exact sH4 b o e
        generalize upd H4 pl _ = H5 at *
        -- one over what is left
        refine ⟨(by show 3 ≤ sizeLine; decide), fun q1 nq1 => ?_⟩
        have s6 := same_upd (o := .tup [V.int 1, .int 0, .int 1]) nq1
        refine ⟨_, rfl, _, rfl, (by show 3 ≤ sizeLine; decide), fun q2 nq2 => ?_⟩
        have s7 := same_upd (o := .tup [V.int pt, .int 0, .int 1]) nq2
        have q1h : T3 K _ q1 1 0 1 := SqT.of (s7 _ _ (upd_at s6))
        have q2h : T3 K _ q2 pt 0 1 := SqT.of (upd_at s7)
        have s67 := s6.trans s7
        have hp7 := sqT_same hp5 s67
        have tri7 := tri5.same s67
        have hsn7 := s67 _ _ hsn5
        have hpl7 := s67 _ _ hpl5
        have sH7 := sH5.trans s67
        generalize upd (upd H5 q1 _) q2 _ = H7 at *
        obtain ⟨a, bb', c⟩ := x
        dsimp only at *
        refine ⟨1, rfl, p, q2, a, bb', c, pt, 0, 1, -1, rfl, hp7, q2h, (by rw [Int.mul_one]; omega), ⟨ba.mono (by decide), bb.mono (by decide), bc.mono (by decide)⟩, ⟨bpart.mono (by decide), bd0, b1⟩, bm1, fun g1 u1 B1 C1 q3 e1 e2 e3 hC1 g10 prim1 nq3 => ?_⟩
        have s8 := same_upd (o := .tup [V.int u1, .int B1, .int C1]) nq3
        have E1 : a - pt * c = g1 * u1 := by rw [← e1]; grind
        have E2 : bb' = g1 * B1 := by rw [← e2]; grind
        have E3 : c = g1 * C1 := by rw [← e3]; grind
        have bu : bd 2001 (a - pt * c) := (ba.mono (show 1000 ≤ 2000 by decide)).sub (bpart.mul bc)
        obtain ⟨g, hg, gB, eP, eQ, hs⟩ := id R
        have size0 : u1 * u1 - d * B1 * B1 ≠ 0 := fun z => by
          have zz : (a - pt * c) * (a - pt * c) - d * bb' * bb' = 0 := by
            rw [E1, E2]
            have : g1 * u1 * (g1 * u1) - d * (g1 * B1) * (g1 * B1) = g1 * g1 * (u1 * u1 - d * B1 * B1) := by grind
            rw [this, z, Int.mul_zero]
          have sq : (g * (a - pt * c)) * (g * (a - pt * c)) = s := by
            rw [hs]
            have e1 : g * (a - pt * c) * (g * (a - pt * c)) = g * g * ((a - pt * c) * (a - pt * c)) := by grind
            have e2 : (a - pt * c) * (a - pt * c) = d * bb' * bb' := by omega
            rw [e1, e2]
            grind
          have u := (IsRoot.abs sq).unique ok.rt
          have e3 : ((g * (a - pt * c)).natAbs : Int) * (g * (a - pt * c)).natAbs = g * (a - pt * c) * (g * (a - pt * c)) := Int.natAbs_mul_self
          rw [u, sq] at e3
          exact ok.ns e3
        refine ⟨_, rfl, q1, q3, 1, 0, 1, u1, B1, C1, d, rfl, sqT_same q1h s8, SqT.of upd_same, by decide, ⟨b1, bd0, b1⟩, ⟨(bu.of_dvd E1 g10).mono (by decide), (bb.of_dvd E2 g10).mono (by decide), (bc.of_dvd E3 g10).mono (by decide)⟩, bdd, (fun z1 z2 => ?_), fun hn0 => ⟨size0, fun g2 x' y' z' H8 x1 x2 x3 z0 g20 s9 => ?_⟩⟩
        · exfalso
          have hb0 : bb' = 0 := by rw [E2, z2, Int.mul_zero]
          rw [hb0, Int.mul_zero] at gB
          exact absurd gB (by decide)
        intro g3 A3 B3 C3 q4 y1 y2 y3 hC3 g30 prim3 nq4
        have s10 := same_upd (o := .tup [V.int A3, .int B3, .int C3]) nq4
        have Y1 : x' = g3 * A3 := by rw [← y1]; grind
        have Y2 : y' = g3 * B3 := by rw [← y2]; grind
        have Y3 : z' = g3 * C3 := by rw [← y3]; grind
        have F1 : c * (a - pt * c) = (g1 * g1 * g2 * g3) * A3 := by
          have : c * (a - pt * c) = g1 * g1 * (C1 * u1) := by rw [E1, E3]; grind
          rw [this, x1, Y1]
          grind
        have F2 : -(c * bb') = (g1 * g1 * g2 * g3) * B3 := by
          have : -(c * bb') = g1 * g1 * (0 - C1 * B1) := by rw [E2, E3]; grind
          rw [this, x2, Y2]
          grind
        have F3 : (a - pt * c) * (a - pt * c) - d * bb' * bb' = (g1 * g1 * g2 * g3) * C3 := by
          have : (a - pt * c) * (a - pt * c) - d * bb' * bb' = g1 * g1 * (u1 * u1 - d * B1 * B1) := by rw [E1, E2]; grind
          rw [this, x3, Y3]
          grind
        have R3 : QRel d A3 B3 C3 (chN c0 (n + 1)) := by
          rw [chN, en]
          exact qrel_next_root ok R hC hpt.symm prim3 F1 F2 F3 hC3
        have sE := (s8.trans s9).trans s10
        refine ⟨J - (n + 1), by omega, n + 1, q4, (A3, B3, C3), qs ++ [p], xs ++ [(a, bb', c)], _, by omega, rfl, rfl, SqT.of upd_same, ⟨R3, prim3, hC3⟩, sE _ _ hsn7, (TrisAt.snoc (c := (a, bb', c)) hp7 tri7).same sE, by rw [List.length_append, lxs]; rfl, (fun i y hy => ?_), sE _ _ hpl7, sH7.trans sE⟩
        rcases Nat.lt_or_ge i xs.length with z | z
        · rw [List.getElem?_append_left z] at hy
          exact hall i y hy
        · rw [List.getElem?_append_right z] at hy
          have hi0 : i - xs.length = 0 := by
            have := (List.getElem?_eq_some_iff.mp hy).1
            have : i - xs.length < 1 := this
            omega
          rw [hi0] at hy
          cases hy
          have : i = n := by omega
          subst this
          exact ⟨by rw [en]; exact R, prim, hC⟩
    · intro σ H' Q1 Q2 im hq
      obtain ⟨x, e, y, e2, d1, ds, h1, h2, h3, h4, b, eb, z⟩ := hq
      exact ⟨x, e, y, e2, d1, ds, h1, h2, h3, h4, b, eb, im _ _ z⟩
end
/-! ### calls of defs that may raise -/
section
variable {X : Cx} {k : Nat} {x m : Str} {ps : List Str} {sp : Sp} {o e : Expr} {es : List Expr} {ta : TE} {t : TA} {p pos apos : Pos} {C : Addr}
theorem pe_cX {E : XK} (C : COk X.prog X.w X.K X.mg X.base (L2.CX X.prog X.w) k x ps sp) (hr : Room k X.A) (hx : Passes (L2.CX X.prog X.w) X E) (ha : PA X (e :: es) t) (hg : Gl X x := by rfl)
    (hdb : (x == ("__debug__" : Str)) = false := by decide) (he : starEach (e :: es) X.env = (false, eval e X.env) :: starEach es X.env := by rfl) (hpl : (backTo pos (starEach es X.env)).any (·.1) = false := by rfl) :
    PE X (.Call (.Name x p) (e :: es) [] pos) (tCall sp [] E t) := by
  obtain ⟨f, fd, F, a, b, c⟩ := C
  exact pe_call F hr hg a b c .nil hx ha hdb he hpl
def tCallS (sp : Sp) (E : L2.St → XK) (t : TA) : TE := fun σ H Q => t σ H fun vs H2 => sp vs H2 Q (E σ)
open PySem.Spec PyProof.Rows in
theorem pe_cS {E : L2.St → XK} (C : COk X.prog X.w X.K X.mg X.base (L2.CX X.prog X.w) k x ps sp) (hr : Room k X.A) (hx : ∀ σ, PassesAt (L2.CX X.prog X.w) X σ (E σ)) (ha : PA X (e :: es) t) (hg : Gl X x := by rfl)
    (hdb : (x == ("__debug__" : Str)) = false := by decide) (he : starEach (e :: es) X.env = (false, eval e X.env) :: starEach es X.env := by rfl) (hpl : (backTo pos (starEach es X.env)).any (·.1) = false := by rfl) :
    PE X (.Call (.Name x p) (e :: es) [] pos) (tCallS sp E t) := by
  obtain ⟨f, fd, F, a, b, c⟩ := C
  refine ⟨fun pins s σ H Q I h => ?_⟩
  refine wpAny_Call_Name_kw (ld_glob I hg a ?_ hdb)
  refine PySem.W.callWith_K (h₀ := X.base) I.ok.mod.kin b (thn (ha.run pos pins s σ H _ I h) fun us s1 ⟨vs, H1, I1, r, q⟩ => ⟨I1.kIn, ?_⟩) he hpl
  exact run_fnS F hr c (hx σ) I1 r q
end
/-! ### rings: ring_of, and how it is refused -/
structure XAd where
  c_PartError : Addr
structure XET (K : PySem.W.Frag) (mg : Str → Option Value) (A : Ad) (XA : XAd) : Prop where
  g_PartError : mg "PartError" = some (.ref XA.c_PartError)
  b_ValueError : mg "ValueError" = none
  exB : ExcC K A.c_BadTree
  exT : ExcC K A.c_TooLong
  emB : PySem.W.exmOne K (.ref A.c_BadTree) (.ref XA.c_PartError) = some true
  emT : PySem.W.exmOne K (.ref A.c_TooLong) (.ref XA.c_PartError) = some true
  kBB : PySem.W.kitOne K (.ref A.c_BadTree) (.ref A.c_BadTree) = some true
  kBT : PySem.W.kitOne K (.ref A.c_BadTree) (.ref A.c_TooLong) = some false
  kBN : PySem.W.kitOne K (.ref A.c_BadTree) (.ref A.c_NoValue) = some false
  kBV : PySem.W.kitOne K (.ref A.c_BadTree) (.type "ValueError") = some true
  kTB : PySem.W.kitOne K (.ref A.c_TooLong) (.ref A.c_BadTree) = some false
  kTT : PySem.W.kitOne K (.ref A.c_TooLong) (.ref A.c_TooLong) = some true
  kTN : PySem.W.kitOne K (.ref A.c_TooLong) (.ref A.c_NoValue) = some false
  kTV : PySem.W.kitOne K (.ref A.c_TooLong) (.type "ValueError") = some true
  haF : PySem.W.findIn K (.ref A.c_FractionChain) "__class__" = some (some (.builtin "object.__class__"))
  hmF : PySem.W.mroIn K A.c_FractionChain (.type "object") = some true
  haR : PySem.W.findIn K (.ref A.c_RootChain) "__class__" = some (some (.builtin "object.__class__"))
  hmR : PySem.W.mroIn K A.c_RootChain (.type "object") = some true
  kFF : PySem.W.kitOne K (.ref A.c_FractionChain) (.ref A.c_FractionChain) = some true
  kRF : PySem.W.kitOne K (.ref A.c_RootChain) (.ref A.c_FractionChain) = some false
section
variable {X : Cx}
theorem call_isE' {a D : Addr} {oe : Obj} {cls : Value} {d : Option Addr} {pn : List (Addr × Obj)} (C : ExcC X.K D) (hz : Zc cls d oe) (hf : ∃ vs, oe.data = .fields vs) : CallR (X.suite a ((a, oe) :: pn)) (.builtin "isinstance") (fun xs H Q => cls = .ref D ∧ d = none ∧ rIsE X.K D a xs H Q) := by
  intro pins s σ H xs us Q I r h
  obtain ⟨rfl, rfl, h⟩ := h
  exact call_isE C hz hf pins s σ H xs us Q I r h
end
section
variable {P : Program} {w : World} {K : PySem.W.Frag} {mg : Str → Option Value} {base : Heap} {A : Ad} {XA : XAd}
/-- what ring_of finds: a square, or a ring -/
def RingIs (t sq b : Int) (c0 : Chain) (I J : Nat) : Prop := (∃ s r, IsRt s r c0 ∧ r ≤ 90) ∧ (∀ ch, Leaf.Starts (.root t sq b) ch → ch = c0) ∧ RingAt c0 I J
def sp_ring_of (A : Ad) (K : PySem.W.Frag) : Sp := fun vs H Q E => ∃ (t sq b most : Int), vs = [.int t, .int sq, .int b, .int most] ∧ Leaf.Good (.root t sq b) ∧
  (((∃ r, IsRoot sq r ∧ r * r = sq) ∧ ∀ H', Same H H' → E (.ref A.c_BadTree) none H') ∨
   (∃ c0 I J, RingIs t sq b c0 I J ∧ ((J : Int) ≤ most → ∀ p l1 l2 H', H' p = some (.tup [.ref l1, .ref l2]) → H' l1 = some (.lst (((partsN c0 J).take I).map V.int)) → H' l2 = some (.lst (((partsN c0 J).drop I).map V.int)) → Same H H' → Q (.ref p) H') ∧
     (most < (J : Int) → ∀ H', Same H H' → E (.ref A.c_TooLong) none H')))
theorem ok_ring_of (T : CT K mg A) (TT : TB K w mg A) (XE : XET K mg A XA) (D : DT K mg A) : COk P w K mg base (L2.CX P w) 7 "ring_of" ["top", "square", "below", "most"] (sp_ring_of A K) := by
  have G_at := ok_check_at_depth (P := P) (w := w) (base := base) (k := 3) T TT D (by decide) (ok_check_fraction T D) (ok_check_root T D) (ok_check_ruled T D) (ok_no D.check_four) (ok_no D.check_eight) (ok_no D.check_power)
  have G_check_tree := ok_check_tree D G_at
  have G_root_chain := ok_root_chain (P := P) (w := w) (base := base) T D
  have G_read_round := ok_read_round (P := P) (w := w) (base := base) T D
  refine COk.by D.ring_of fun f fd F => ?_
  refine F.okX (k := 6) sc_ring_of (fun vs H Q E h => ?_) (fun cdv Ar outer s H vs Q E hr h => ?_)
  · obtain ⟨t, sq, b, most, rfl, _⟩ := h
    rfl
  · obtain ⟨t, sq, b, most, rfl, hg, alt⟩ := h
    refine ⟨_, (pss_cons (ps_expr (pe_c G_check_tree (hr.mono (by first | decide | omega)) (pa_cons (pe_tup (pa_cons pe_str (pa_cons (pv 0) (pa_cons (pv 1) (pa_cons (pv 2) pa_nil))))) pa_nil)))
    (pss_cons (ps_set (i := 4) sc_ring_of.nd rfl (Or.inl rfl) (pe_c G_root_chain (hr.mono (by first | decide | omega)) (pa_cons (pv 0) (pa_cons (pv 1) (pa_cons (pv 2) pa_nil)))))
    (pss_cons (ps_if (pt_val (pe_callB call_isi (by rfl) T.b_isinstance (by decide +kernel) (pa_cons (pv 4) (pa_cons (pe_glob (v := .ref A.c_FractionChain) (by rfl) T.g_FractionChain rfl) pa_nil))))
      (pss_one (ps_raise rfl (takes_of rfl rfl rfl rfl) (pmk_own PySem.F.excBase_ValueError T.x_BadTree.x T.x_BadTree.g T.x_BadTree.k (raises_own T.x_BadTree.b T.x_BadTree.t) rfl))) pss_nil)
    (pss_cons (ps_asg (pe_cX G_read_round (hr.mono (by first | decide | omega)) (passes_tk (takes_of rfl rfl rfl rfl)) (pa_cons (pv 4) (pa_cons (pv 3) pa_nil))) (pg_tup rfl (pgs_cons (pg_name (i := 5) sc_ring_of.nd rfl (Or.inl rfl)) (pgs_cons (pg_name (i := 6) sc_ring_of.nd rfl (Or.inl rfl)) pgs_nil))))
    (pss_one (ps_ret (pe_tup (pa_cons (pe_slice sl_list (pv 5) po_none (po_some (pv 6))) (pa_cons (pe_slice sl_list (pv 5) (po_some (pv 6)) po_none) pa_nil))))))))), ?_⟩
    refine ⟨_, rfl, _, rfl, _, rfl, (by show 4 ≤ sizeLine; decide), fun v nv => ?_⟩
    have s1 := same_upd (o := .tup [V.str "root", .int t, .int sq, .int b]) nv
    have hv : SqT K _ v [V.str "root", .int t, .int sq, .int b] := SqT.of (upd_at s1)
    generalize upd H v _ = H1 at *
    refine ⟨_, rfl, v, "root", [.int t, .int sq, .int b], 1, rfl, by decide, hv, .inr (.inl ⟨rfl, rfl, v, t, sq, b, 1, rfl, hv, hg.1, hg.2.1, hg.2.2.1, hg.2.2.2.1, hg.2.2.2.2, fun H2 s2 => ?_⟩)⟩
    refine ⟨_, rfl, _, rfl, _, rfl, t, sq, b, rfl, hg, fun c ch H3 hc st ok s3 nc => ?_⟩
    have ss := (s1.trans s2).trans s3
    have ncH : H c = none := (s1.trans s2).free nc
    rcases alt with ⟨⟨r, hr1, hr2⟩, kE⟩ | ⟨c0, I, J, ⟨⟨s', r, rt, hr90⟩, uni, RA⟩, kQ, kE⟩
    · obtain ⟨r', hr', z⟩ := st
      have er : r' = r := hr'.unique hr1
      subst er
      rcases z with ⟨_, rfl⟩ | ⟨z, _⟩
      · obtain ⟨dx, ec⟩ := hc
        refine ⟨_, rfl, _, _, _, _, true, rfl, .own _, .base (.ins ec T.cl_FractionChain XE.haF XE.exB.hn XE.exB.ht XE.hmF), XE.kFF, _, rfl, iteT ?_⟩
        exact kE H3 ss
      · exact absurd hr2 z
    · have ech := uni ch st
      subst ech
      obtain ⟨t0, b0, e0, ok0, _⟩ := id rt
      have hc' : Chain.At A K H3 c (.root t0 s' b0 r) := by rw [← e0]; exact hc
      obtain ⟨dx, ec⟩ := hc'
      refine ⟨_, rfl, _, _, _, _, false, rfl, .own _, .base (.ins ec T.cl_RootChain XE.haR XE.exB.hn XE.exB.ht XE.hmR), XE.kRF, _, rfl, iteF ?_⟩
      have same_of : ∀ H4, KpC c H3 H4 → Same H H4 := fun H4 kp b o e => kp b o (ss _ _ e) (ne_of_none e ncH)
      refine ⟨_, rfl, _, rfl, c, ch, s', r, most, I, J, rfl, hc, rt, hr90, RA, fun hm p l H4 hp hl kp => ?_, fun hm H4 kp => kE hm H4 (same_of H4 kp)⟩
      refine ⟨p, _, rfl, SqT.of hp, rfl, _, _, rfl, _, _, rfl, rfl, ?_⟩
      refine ⟨_, rfl, _, rfl, _, rfl, l, _, rfl, SqL.of hl, fun l1 nl1 => ?_⟩
      have s5 := same_upd (o := .lst (cutV ((partsN ch J).map V.int) none (some (I : Int)))) nl1
      refine ⟨_, rfl, _, rfl, _, rfl, l, _, rfl, SqL.of (s5 _ _ hl), fun l2 nl2 => ?_⟩
      have s6 := same_upd (o := .lst (cutV ((partsN ch J).map V.int) (some (I : Int)) none)) nl2
      refine ⟨(by show 2 ≤ sizeLine; decide), fun q nq => ?_⟩
      have s7 := same_upd (o := .tup [V.ref l1, .ref l2]) nq
      refine kQ hm q l1 l2 _ upd_same ?_ ?_ ((same_of H4 kp).trans ((s5.trans s6).trans s7))
      · rw [(s6.trans s7) _ _ (upd_at s5), cut_takeN, List.map_take]
      · rw [s7 _ _ (upd_at s6), cut_dropN, List.map_drop]
def sp_law_why (K : PySem.W.Frag) : Sp := fun vs H Q _ => ∃ (t sq b most : Int), vs = [.int t, .int sq, .int b, .int most] ∧ Leaf.Good (.root t sq b) ∧
  (((∃ r, IsRoot sq r ∧ r * r = sq) ∧ ∀ H', Same H H' → Q (.str "bad") H') ∨
   (∃ c0 I J, RingIs t sq b c0 I J ∧ most < (J : Int) ∧ ∀ H', Same H H' → Q (.str "long") H'))
theorem ok_law_why (T : CT K mg A) (TT : TB K w mg A) (XE : XET K mg A XA) (D : DT K mg A) : COk P w K mg base CX0 8 "_law_why" ["_law_top", "_law_d", "_law_below_here", "_law_most"] (sp_law_why K) := by
  have G_ring_of := ok_ring_of (P := P) (w := w) (base := base) T TT XE D
  refine COk.by D.law_why fun f fd F => ?_
  refine F.ok (k := 7) sc_law_why (fun vs H Q E h => ?_) (fun cdv Ar outer s H vs Q E hr h => ?_)
  · obtain ⟨t, sq, b, most, rfl, _⟩ := h
    rfl
  · obtain ⟨t, sq, b, most, rfl, hg, alt⟩ := h
    refine ⟨_, (pss_cons (ps_try_as (i := 4) rfl rfl sc_law_why.nd rfl rfl ⟨rfl, by decide, .inl XE.g_PartError⟩ takes0 (fun W pn xe tk _ => (pss_one (ps_expr (pe_cS G_ring_of (hr.mono (by first | decide | omega)) (fun σ => passAt tk σ) (pa_cons (pv 0) (pa_cons (pv 1) (pa_cons (pv 2) (pa_cons (pv 3) pa_nil))))))))
      (fun a oe cls d pn hz hf => (pss_cons (ps_set (i := 5) sc_law_why.nd rfl (Or.inl rfl) (pe_lst (pa_cons (pe_alt (pe_callB (call_isE' XE.exB hz hf) (by rfl) T.b_isinstance (by decide +kernel) (pa_cons (pv 4) (pa_cons (pe_glob (v := .ref A.c_BadTree) (by rfl) T.x_BadTree.g rfl) pa_nil))) (pe_callB (call_isE' XE.exT hz hf) (by rfl) T.b_isinstance (by decide +kernel) (pa_cons (pv 4) (pa_cons (pe_glob (v := .ref A.c_BadTree) (by rfl) T.x_BadTree.g rfl) pa_nil)))) (pa_cons (pe_alt (pe_callB (call_isE' XE.exB hz hf) (by rfl) T.b_isinstance (by decide +kernel) (pa_cons (pv 4) (pa_cons (pe_glob (v := .ref A.c_TooLong) (by rfl) T.x_TooLong.g rfl) pa_nil))) (pe_callB (call_isE' XE.exT hz hf) (by rfl) T.b_isinstance (by decide +kernel) (pa_cons (pv 4) (pa_cons (pe_glob (v := .ref A.c_TooLong) (by rfl) T.x_TooLong.g rfl) pa_nil)))) (pa_cons (pe_alt (pe_callB (call_isE' XE.exB hz hf) (by rfl) T.b_isinstance (by decide +kernel) (pa_cons (pv 4) (pa_cons (pe_glob (v := .ref A.c_NoValue) (by rfl) T.x_NoValue.g rfl) pa_nil))) (pe_callB (call_isE' XE.exT hz hf) (by rfl) T.b_isinstance (by decide +kernel) (pa_cons (pv 4) (pa_cons (pe_glob (v := .ref A.c_NoValue) (by rfl) T.x_NoValue.g rfl) pa_nil)))) pa_nil)))))
    (pss_cons (ps_if (PW.pt (pw_or (pt_not (pt_val (pe_alt (pe_callB (call_isE' XE.exB hz hf) (by rfl) T.b_isinstance (by decide +kernel) (pa_cons (pv 4) (pa_cons (pe_bltn (v := .ty "ValueError") (by rfl) XE.b_ValueError (by decide +kernel) rfl) pa_nil))) (pe_callB (call_isE' XE.exT hz hf) (by rfl) T.b_isinstance (by decide +kernel) (pa_cons (pv 4) (pa_cons (pe_bltn (v := .ty "ValueError") (by rfl) XE.b_ValueError (by decide +kernel) rfl) pa_nil)))))) (pw_or1 (pt_cmpR op_ne (pe_bmK (K0 := K) rfl PySem.F.plainAttrs_list PySem.F.slot_list_count PySem.F.type_list_count (show MtR _ "list.count" (rCountF K) from mt_countF) (pv 5) (pa_cons pe_bl pa_nil)) pe_int (nomark _)))))
      (pss_one (ps_ret pe_str)) pss_nil)
    (pss_one (ps_ret (pe_ix (show IxR _ (rIxL K) from ix_list) (pe_lst (pa_cons pe_str (pa_cons pe_str (pa_cons pe_str pa_nil)))) (pe_bmK (K0 := K) rfl PySem.F.plainAttrs_list PySem.F.slot_list_index PySem.F.type_list_index (show MtR _ "list.index" (rIndex K) from mt_index) (pv 5) (pa_cons pe_bl pa_nil)) (fun _ _ => rfl))))))))
    (pss_one (ps_ret pe_str))), ?_⟩
    refine ⟨_, rfl, _, rfl, _, rfl, _, rfl, t, sq, b, most, rfl, hg, ?_⟩
    rcases alt with ⟨hsq, kB⟩ | ⟨c0, I, J, RI, hm, kT⟩
    · refine .inl ⟨hsq, fun H' sH => ?_⟩
      refine ⟨true, XE.emB, fun _ a0 na => ?_, fun z => nomatch z⟩
      refine .inl ⟨_, rfl, rfl, rfl, _, _, true, rfl, (fun u hu => hu), XE.kBB, .inl ⟨_, rfl, rfl, rfl, _, _, false, rfl, (fun u hu => hu), XE.kBT, .inl ⟨_, rfl, rfl, rfl, _, _, false, rfl, (fun u hu => hu), XE.kBN, (by show 3 ≤ sizeLine; decide), fun kl nkl => ?_⟩⟩⟩
      have s1 := same_upd (o := .lst [V.bl true, .bl false, .bl false]) nkl
      have hkl := upd_at s1
      refine .inl ⟨_, rfl, rfl, rfl, _, _, true, rfl, (fun u hu => hu), XE.kBV, _, rfl, iteF ?_⟩
      refine ⟨_, rfl, .inl ⟨rfl, _, SqL.of hkl⟩, kl, _, _, rfl, rfl, SqL.of hkl, rfl, rfl, rfl, _, rfl, iteF ?_⟩
      refine ⟨(by show 3 ≤ sizeLine; decide), fun wl nwl => ?_⟩
      have s2 := same_upd (o := .lst [V.str "bad", .str "long", .str "none"]) nwl
      refine ⟨_, rfl, .inl ⟨rfl, _, SqL.of (s2 _ _ hkl)⟩, kl, _, _, 0, _, rfl, rfl, SqL.of (s2 _ _ hkl), rfl, rfl, rfl, rfl, (fun m z' hm => absurd hm (Nat.not_lt_zero _)), wl, _, _, _, rfl, rfl, SqL.of upd_same, atI_nat (j := 0) rfl, ?_⟩
      exact kB _ (sH.trans (s1.trans s2))
    · refine .inr ⟨c0, I, J, RI, fun z => absurd z (by omega), fun _ H' sH => ?_⟩
      refine ⟨true, XE.emT, fun _ a0 na => ?_, fun z => nomatch z⟩
      refine .inr ⟨_, rfl, rfl, rfl, _, _, false, rfl, (fun u hu => hu), XE.kTB, .inr ⟨_, rfl, rfl, rfl, _, _, true, rfl, (fun u hu => hu), XE.kTT, .inr ⟨_, rfl, rfl, rfl, _, _, false, rfl, (fun u hu => hu), XE.kTN, (by show 3 ≤ sizeLine; decide), fun kl nkl => ?_⟩⟩⟩
      have s1 := same_upd (o := .lst [V.bl false, .bl true, .bl false]) nkl
      have hkl := upd_at s1
      refine .inr ⟨_, rfl, rfl, rfl, _, _, true, rfl, (fun u hu => hu), XE.kTV, _, rfl, iteF ?_⟩
      refine ⟨_, rfl, .inl ⟨rfl, _, SqL.of hkl⟩, kl, _, _, rfl, rfl, SqL.of hkl, rfl, rfl, rfl, _, rfl, iteF ?_⟩
      refine ⟨(by show 3 ≤ sizeLine; decide), fun wl nwl => ?_⟩
      have s2 := same_upd (o := .lst [V.str "bad", .str "long", .str "none"]) nwl
      refine ⟨_, rfl, .inl ⟨rfl, _, SqL.of (s2 _ _ hkl)⟩, kl, _, _, 1, _, rfl, rfl, SqL.of (s2 _ _ hkl), rfl, rfl, rfl, rfl, (fun m z' hm hz => ?_), wl, _, _, _, rfl, rfl, SqL.of upd_same, atI_nat (j := 1) rfl, ?_⟩
      · obtain rfl : m = 0 := by omega
        cases hz
        rfl
      · exact kT _ (sH.trans (s1.trans s2))
/-! ### lists held against lists -/
def sp_law_list (K : PySem.W.Frag) : Sp := fun vs H Q _ => ∃ (p q : Addr) (ns : List Int), vs = [.ref p, .ref q] ∧ H p = some (.lst (ns.map V.int)) ∧ H q = some (.lst (ns.map V.int)) ∧ Q (.bl true) H
theorem ok_law_list (T : CT K mg A) (D : DT K mg A) (G_law_whole : COk P w K mg base CX0 1 "_law_whole" ["_law_found"] sp_law_whole) : COk P w K mg base CX0 2 "_law_list" ["_law_found", "_law_due"] (sp_law_list K) := by
  refine COk.by D.law_list fun f fd F => ?_
  refine F.ok sc_law_list (fun vs H Q E h => ?_) (fun cdv Ar outer s H vs Q E hr h => ?_)
  · obtain ⟨p, q, ns, rfl, _⟩ := h
    rfl
  · obtain ⟨p, q, ns, rfl, hp, hq, k⟩ := h
    refine ⟨_, (pss_cons (ps_if (PW.pt (pw_or (pt_not (pt_val (pe_callB call_isi (by rfl) T.b_isinstance (by decide +kernel) (pa_cons (pv 0) (pa_cons (pe_bltn (v := .ty "list") (by rfl) T.b_list (by decide +kernel) rfl) pa_nil))))) (pw_or1 (pt_cmpR op_ne (pe_callB call_len_seq (by rfl) T.b_len (by decide +kernel) (pa_cons (pv 0) pa_nil)) (pe_callB call_len_seq (by rfl) T.b_len (by decide +kernel) (pa_cons (pv 1) pa_nil)) (nomark _)))))
      (pss_one (ps_ret pe_bl)) pss_nil)
    (pss_cons (ps_for PassesOwn.never rfl (pi_list (pv 0)) (pg_name (i := 2) sc_law_list.nd rfl (Or.inl rfl))
      (pss_one (ps_if (pt_not (pt_val (pe_c G_law_whole (hr.mono (by first | decide | omega)) (pa_cons (pv 2) pa_nil))))
      (pss_one (ps_ret pe_bl)) pss_nil)))
    (pss_one (ps_ret (pe_cmpR (op_eqD hr.units) (pv 0) (pv 1) (nomark _)))))), ?_⟩
    refine ⟨_, rfl, _, _, _, _, true, rfl, .ty "list", .base (.lst hp), kit_ty (by decide +kernel), _, rfl, iteF ?_⟩
    refine ⟨_, rfl, p, _, rfl, .inl (SqL.of hp), _, rfl, q, _, rfl, .inl (SqL.of hq), rfl, _, rfl, ?_⟩
    rw [decide_eq_true rfl]
    refine iteF ?_
    refine ⟨_, rfl, p, rfl, ⟨_, SqL.of hp⟩, for_list (K := K) (a := p) (xs := ns.map V.int) (fun i σ H2 => ∃ v : Option V, σ = [some (.ref p), some (.ref q), v] ∧ H2 = H) ⟨none, rfl, rfl⟩ (fun i σ H2 _ ⟨_, _, e⟩ => by rw [e]; exact SqL.of hp) ?_ ?_⟩
    · rintro i y σ H2 hi ⟨v, rfl, rfl⟩
      obtain ⟨z, hz, rfl⟩ := ints_at' hi
      exact ⟨_, rfl, z, rfl, _, rfl, iteF ⟨_, rfl, rfl⟩⟩
    · rintro σ H2 ⟨v, rfl, rfl⟩
      refine ⟨_, rfl, _, rfl, _, _, .lst (SqL.of hp) (dpAll_ints _), .lst (SqL.of hq) (dpAll_ints _), shaped_ints _, shaped_ints _, ?_⟩
      rw [SeqAt.eqv_refl _ (SeqAt.canLay_of_shaped (shaped_ints _))]
      exact k
end
/-! ### the law -/
def sp_law (K : PySem.W.Frag) : Sp := fun vs H Q _ => ∃ (a : Addr) (ns : List Int), vs = [.ref a] ∧ ScrAt K H a ns ∧ ns.length ≤ 63 ∧ ∀ H', Q (.bl true) H'
theorem chN_next (c : Chain) : ∀ i, chN c.next i = chN c (i + 1)
  | 0 => rfl
  | i + 1 => by rw [chN, chN_next c i]; rfl
theorem partsN_cons (c : Chain) (n : Nat) : partsN c (n + 1) = c.part :: partsN c.next n := by
  unfold partsN
  rw [List.range_succ_eq_map, List.map_cons, List.map_map]
  congr 1
  apply List.map_congr_left
  intro i _
  show (chN c (i + 1)).part = (chN c.next i).part
  rw [chN_next]
theorem isrt_next {s r : Int} {c : Chain} (h : IsRt s r c) (hr : r ≤ 90) : IsRt s r c.next := isrt_n h hr 1
theorem first_run {s r : Int} (hr : r ≤ 90) : ∀ (n : Nat) (c : Chain) (left : Int), IsRt s r c → (n : Int) ≤ left → firstC c n left = (partsN c n, ("parts" : Str))
  | 0, c, left, _, _ => rfl
  | n + 1, c, left, h, hl => by
    rw [firstC, (isrt_ok h).2, if_neg (by decide), if_neg (by omega), first_run hr n c.next (left - 1) (isrt_next h hr) (by omega), partsN_cons]
theorem chN_add (c : Chain) (i : Nat) : ∀ k, chN c (i + k) = chN (chN c i) k
  | 0 => rfl
  | k + 1 => by
    show (chN c (i + k)).next = (chN (chN c i) k).next
    rw [chN_add c i k]
theorem ring_same {s r : Int} {c : Chain} {I J : Nat} (h : IsRt s r c) (hr : r ≤ 90) (RA : RingAt c I J) : chN c I = chN c J := by
  obtain ⟨t, b, e, _, _⟩ := isrt_n h hr I
  obtain ⟨t', b', e', _, _⟩ := isrt_n h hr J
  have z := RA.eq
  rw [e, e'] at z ⊢
  have z1 : (t, b) = (t', b') := z
  rw [(Prod.mk.inj z1).1, (Prod.mk.inj z1).2]
theorem parts_round {s r : Int} {c : Chain} {I J : Nat} (h : IsRt s r c) (hr : r ≤ 90) (RA : RingAt c I J) : partsN c J ++ (partsN c J).drop I = partsN c (J + (J - I)) := by
  have hlt := RA.lt
  apply List.ext_getElem
  · rw [List.length_append, List.length_drop, partsN_len, partsN_len]
  · intro i h1 h2
    have e : ∀ (n : Nat) (i : Nat) (hi : i < (partsN c n).length), (partsN c n)[i] = (chN c i).part := fun n i hi => by
      simp [partsN]
    rw [e (J + (J - I)) i h2]
    rcases Nat.lt_or_ge i J with z | z
    · rw [List.getElem_append_left (by rw [partsN_len]; exact z), e]
    · rw [List.getElem_append_right (by rw [partsN_len]; exact z), List.getElem_drop, e]
      rw [partsN_len, show I + (i - J) = I + (i - J) from rfl, chN_add, ring_same h hr RA, ← chN_add, show J + (i - J) = i by omega]
/-- a small root's chain -/
theorem small_first {t d b r q : Int} (ht : t.natAbs ≤ 20) (hd0 : 0 ≤ d) (hd : d ≤ 201) (hb : b.natAbs ≤ 6) (hb0 : b ≠ 0) (hr : IsRoot d r) (hn : r * r ≠ d) (hq : IsRoot (d * (b.natAbs : Int) * (b.natAbs : Int)) q) :
    IsRt (d * (b.natAbs : Int) * (b.natAbs : Int)) q (.root (t * (b.natAbs : Int)) (d * (b.natAbs : Int) * (b.natAbs : Int)) (b * (b.natAbs : Int)) q) ∧ q ≤ 90 := by
  have tm : ∀ {z : Int}, z.natAbs ≤ 1000 → tame z := fun h => ⟨by omega, by omega⟩
  have ok := root_first (t := t) (s := d) (b := b) (tm (by omega)) hd0 (by omega) (tm (by omega)) hb0 hr hn hq
  have w0 : (0 : Int) < b.natAbs := by omega
  have w6 : (b.natAbs : Int) ≤ 6 := by omega
  have hbw : b = b.natAbs ∨ b = -(b.natAbs : Int) := by omega
  have tw : (t * (b.natAbs : Int)).natAbs ≤ 120 := by
    rw [Int.natAbs_mul]
    exact Nat.mul_le_mul ht (show ((b.natAbs : Int)).natAbs ≤ 6 by omega)
  have bw : (b * (b.natAbs : Int)).natAbs ≤ 36 := by
    rw [Int.natAbs_mul]
    exact Nat.mul_le_mul hb (show ((b.natAbs : Int)).natAbs ≤ 6 by omega)
  have q0 := hq.1
  have hq90 : q ≤ 90 := by
    rcases Int.lt_or_le q 91 with z | z
    · omega
    · exfalso
      have k1 := Int.mul_le_mul z z (by decide) (by omega)
      have k2 : d * (b.natAbs : Int) * (b.natAbs : Int) ≤ 201 * 6 * 6 := Int.mul_le_mul (Int.mul_le_mul hd w6 (by omega) (by decide)) w6 (by omega) (by decide)
      have := hq.2.1
      omega
  exact ⟨⟨_, _, rfl, ok, by omega, fun _ => by omega, fun _ => by omega⟩, hq90⟩
section
variable {P : Program} {w : World} {K : PySem.W.Frag} {mg : Str → Option Value} {base : Heap} {A : Ad} {XA : XAd}
theorem ok_law (T : CT K mg A) (TT : TB K w mg A) (XE : XET K mg A XA) (D : DT K mg A) {f : Addr} {fd : FuncData} (F : Fun K "law" "law" s_law f fd) : FnOk P w K mg base CX0 10 f fd ["_law_script"] (sp_law K) := by
  have G_law_row : COk P w K mg base CX0 1 "_law_row" ["_law_script"] (sp_law_row K) := COk.by D.law_row fun f fd F => ok_law_row F
  have G_law_taken : COk P w K mg base CX0 1 "_law_taken" ["_law_row_here", "_law_many"] (sp_law_taken K) := COk.by D.law_taken fun f fd F => ok_law_taken F T.toBT
  have G_law_signed : COk P w K mg base CX0 2 "_law_signed" ["_law_row_here", "_law_most"] (sp_law_signed K) := COk.by D.law_signed fun f fd F => ok_law_signed F G_law_taken
  have G_law_whole : COk P w K mg base CX0 1 "_law_whole" ["_law_found"] sp_law_whole := COk.by D.law_whole fun f fd F => ok_law_whole F T.toBT
  have G_law_common : COk P w K mg base CX0 1 "_law_common" ["_law_one", "_law_other"] sp_law_common := COk.by D.law_common fun f fd F => ok_law_common F T.toBT
  have G_law_root := ok_law_root (P := P) (w := w) (K := K) (base := base) D
  have G_law_made := ok_law_made (P := P) (w := w) (base := base) D G_law_common
  have G_law_ring := ok_law_ring (P := P) (w := w) (base := base) T D G_law_common
  have G_law_why := ok_law_why (P := P) (w := w) (base := base) T TT XE D
  have G_ring_of := ok_ring_of (P := P) (w := w) (base := base) T TT XE D
  have G_law_list := ok_law_list (P := P) (w := w) (base := base) T D G_law_whole
  have G_first_parts := ok_first_leaf (P := P) (w := w) (base := base) T TT D
  refine F.ok (k := 9) sc_law (fun vs H Q E h => ?_) (fun cdv Ar outer s H vs Q E hr h => ?_)
  · obtain ⟨a, ns, rfl, _⟩ := h
    rfl
  · obtain ⟨a, ns, rfl, hS, hlen, k⟩ := h
    refine ⟨_, (pss_cons (ps_set (i := 1) sc_law.nd rfl (Or.inl rfl) (pe_c G_law_row (hr.mono (by first | decide | omega)) (pa_cons (pv 0) pa_nil)))
    (pss_cons (ps_set (i := 2) sc_law.nd rfl (Or.inl rfl) (pe_c G_law_signed (hr.mono (by first | decide | omega)) (pa_cons (pv 1) (pa_cons pe_int pa_nil))))
    (pss_cons (ps_set (i := 3) sc_law.nd rfl (Or.inl rfl) (pe_op op_add pe_int (pe_c G_law_taken (hr.mono (by first | decide | omega)) (pa_cons (pv 1) (pa_cons pe_int pa_nil)))))
    (pss_cons (ps_set (i := 4) sc_law.nd rfl (Or.inl rfl) (pe_c G_law_signed (hr.mono (by first | decide | omega)) (pa_cons (pv 1) (pa_cons pe_int pa_nil))))
    (pss_cons (ps_set (i := 5) sc_law.nd rfl (Or.inl rfl) (pe_c G_law_taken (hr.mono (by first | decide | omega)) (pa_cons (pv 1) (pa_cons pe_int pa_nil))))
    (C8.pss_cut (ps_if (pt_cmpR op_eq (pv 4) pe_int (nomark _))
      (pss_one (ps_set (i := 4) sc_law.nd rfl (Or.inl rfl) pe_int)) pss_nil)
    (pss_cons (ps_set (i := 6) sc_law.nd rfl (Or.inl rfl) (pe_c G_law_root (hr.mono (by first | decide | omega)) (pa_cons (pv 3) pa_nil)))
    (pss_cons (ps_if (pt_cmpR op_eq (pv 5) pe_int (nomark _))
      (pss_one (ps_ret (pe_cmpR op_eq (pe_c G_law_why (hr.mono (by first | decide | omega)) (pa_cons (pv 2) (pa_cons (pe_op op_mul (pv 6) (pv 6)) (pa_cons (pv 4) (pa_cons pe_int pa_nil))))) pe_str (nomark _)))) pss_nil)
    (C8.pss_cut (ps_if (pt_cmpR op_eq (pe_op op_mul (pv 6) (pv 6)) (pv 3) (nomark _))
      (pss_one (ps_set (i := 3) sc_law.nd rfl (Or.inl rfl) (pe_op op_add (pv 3) pe_int))) pss_nil)
    (pss_cons (ps_set (i := 7) sc_law.nd rfl (Or.inl rfl) (pe_c G_law_ring (hr.mono (by first | decide | omega)) (pa_cons (pe_c G_law_made (hr.mono (by first | decide | omega)) (pa_cons (pv 2) (pa_cons pe_int (pa_cons (pv 4) pa_nil)))) (pa_cons (pv 3) pa_nil))))
    (pss_cons (ps_set (i := 8) sc_law.nd rfl (Or.inl rfl) (pe_op op_add (pe_callB call_len_seq (by rfl) T.b_len (by decide +kernel) (pa_cons (pe_ix ix_tup (pv 7) pe_int (fun _ _ => rfl)) pa_nil)) (pe_callB call_len_seq (by rfl) T.b_len (by decide +kernel) (pa_cons (pe_ix ix_tup (pv 7) pe_int (fun _ _ => rfl)) pa_nil))))
    (pss_cons (ps_if (PW.pt (pw_or (pt_cmpR op_ne (pe_c G_law_why (hr.mono (by first | decide | omega)) (pa_cons (pv 2) (pa_cons (pv 3) (pa_cons (pv 4) (pa_cons (pe_op op_sub (pv 8) pe_int) pa_nil))))) pe_str (nomark _)) (pw_or1 (pt_cmpR op_ne (pe_c G_law_why (hr.mono (by first | decide | omega)) (pa_cons (pv 2) (pa_cons (pv 3) (pa_cons (pv 4) (pa_cons pe_int pa_nil))))) pe_str (nomark _)))))
      (pss_one (ps_ret pe_bl)) pss_nil)
    (pss_cons (ps_set (i := 9) sc_law.nd rfl (Or.inl rfl) (pe_cX G_ring_of (hr.mono (by first | decide | omega)) passX0 (pa_cons (pv 2) (pa_cons (pv 3) (pa_cons (pv 4) (pa_cons (pe_op op_add (pv 8) (pe_ix ix_list (pe_lst (pa_cons pe_int (pa_cons pe_int pa_nil))) (pe_op op_mod (pv 5) pe_int) (fun _ _ => rfl))) pa_nil))))))
    (pss_cons (ps_if (PW.pt (pw_or (pt_not (pt_val (pe_callB call_isi (by rfl) T.b_isinstance (by decide +kernel) (pa_cons (pv 9) (pa_cons (pe_bltn (v := .ty "tuple") (by rfl) T.b_tuple (by decide +kernel) rfl) pa_nil))))) (pw_or1 (pt_cmpR op_ne (pe_callB call_len_seq (by rfl) T.b_len (by decide +kernel) (pa_cons (pv 9) pa_nil)) pe_int (nomark _)))))
      (pss_one (ps_ret pe_bl)) pss_nil)
    (pss_cons (ps_if (PW.pt (pw_or (pt_not (pt_val (pe_c G_law_list (hr.mono (by first | decide | omega)) (pa_cons (pe_ix ix_tup (pv 9) pe_int (fun _ _ => rfl)) (pa_cons (pe_ix ix_tup (pv 7) pe_int (fun _ _ => rfl)) pa_nil))))) (pw_or1 (pt_not (pt_val (pe_c G_law_list (hr.mono (by first | decide | omega)) (pa_cons (pe_ix ix_tup (pv 9) pe_int (fun _ _ => rfl)) (pa_cons (pe_ix ix_tup (pv 7) pe_int (fun _ _ => rfl)) pa_nil))))))))
      (pss_one (ps_ret pe_bl)) pss_nil)
    (pss_cons (ps_set (i := 10) sc_law.nd rfl (Or.inl rfl) (pe_op op_cat (pe_op op_cat (pe_ix ix_tup (pv 7) pe_int (fun _ _ => rfl)) (pe_ix ix_tup (pv 7) pe_int (fun _ _ => rfl))) (pe_ix ix_tup (pv 7) pe_int (fun _ _ => rfl))))
    (pss_cons (ps_set (i := 11) sc_law.nd rfl (Or.inl rfl) (pe_c G_first_parts (hr.mono (by first | decide | omega)) (pa_cons (pe_tup (pa_cons pe_str (pa_cons (pv 2) (pa_cons (pv 3) (pa_cons (pv 4) pa_nil))))) (pa_cons (pe_callB call_len_seq (by rfl) T.b_len (by decide +kernel) (pa_cons (pv 10) pa_nil)) (pa_cons (pe_op op_mul pe_int (pe_callB call_len_seq (by rfl) T.b_len (by decide +kernel) (pa_cons (pv 10) pa_nil))) pa_nil)))))
    (pss_one (ps_ret (pe_and (pe_c G_law_list (hr.mono (by first | decide | omega)) (pa_cons (pe_ix ix_tup (pv 11) pe_int (fun _ _ => rfl)) (pa_cons (pv 10) pa_nil))) (pe_one (pe_cmpR op_eq (pe_ix ix_tup (pv 11) pe_int (fun _ _ => rfl)) pe_str (nomark _))))))))))))))))))))))), ?_⟩
    have wd : ∀ z : Int, z ≤ 1000 → z < 2 ^ 8000 := fun z hz => Int.lt_of_le_of_lt hz (by decide +kernel)
    have b7 : ∀ {z : Int}, z.natAbs ≤ 1000 → bd 7000 z := fun h => Nat.lt_of_le_of_lt h (Nat.lt_of_lt_of_le (show 1000 < 2 ^ 10 by decide) (Nat.pow_le_pow_right (by decide) (by decide)))
    refine ⟨_, rfl, a, ns, rfl, hS, hlen, fun r H1 nr s1 R1 => ?_⟩
    refine ⟨_, rfl, r, a, ns, _, rfl, R1, by decide, by decide, fun top H2 t1 t2 R2 kp2 => ?_⟩
    refine ⟨_, rfl, r, a, ns, _, rfl, R2, by decide, wd _ (by decide), fun d0 H3 d1 d2 R3 kp3 => ⟨_, _, rfl, rfl, ?_⟩⟩
    refine ⟨_, rfl, r, a, ns, _, rfl, R3, by decide, by decide, fun b0 H4 b1 b2 R4 kp4 => ?_⟩
    refine ⟨_, rfl, r, a, ns, _, rfl, R4, by decide, wd _ (by decide), fun way H5 w1 w2 R5 kp5 => ?_⟩
    refine ⟨fun σ H' => ∃ b : Int, b ≠ 0 ∧ b.natAbs ≤ 6 ∧ H5 = H' ∧ σ = [some (.ref a), some (.ref r), some (.int top), some (.int (2 + d0)), some (.int b), some (.int way), none, none, none, none, none, none], ?_, ?_⟩
    · refine ⟨_, rfl, rfl, _, rfl, ite2 (fun c => ?_) (fun c => ?_)⟩
      · exact ⟨1, by decide, by decide, rfl, rfl⟩
      · exact ⟨b0, fun z => c (decide_eq_true (congrArg V.int z)), by omega, rfl, rfl⟩
    rintro σ H' ⟨b, hb0, hb6, rfl, rfl⟩
    have ht20 : top.natAbs ≤ 20 := by omega
    have tm : ∀ {z : Int}, z.natAbs ≤ 1000 → tame z := fun h => ⟨by omega, by omega⟩
    refine ⟨_, rfl, 2 + d0, rfl, by omega, b7 (by omega), fun rt hrt => ?_⟩
    have rt0 := hrt.1
    have rt15 : rt ≤ 14 := by
      rcases Int.lt_or_le rt 15 with z | z
      · omega
      · exfalso
        have k1 := Int.mul_le_mul z z (by decide) (by omega)
        have := hrt.2.1
        omega
    have w64 : ∀ x : Int, CMul rt x := fun x => .inl ⟨by omega, by omega⟩
    refine ⟨_, rfl, rfl, _, rfl, ite2 (fun c => ?_) (fun c => ?_)⟩
    · -- a square
      have sq0 : 0 ≤ rt * rt := Int.mul_nonneg rt0 rt0
      have sq1 : rt * rt ≤ 2 + d0 := hrt.2.1
      have isr : IsRoot (rt * rt) rt := ⟨rt0, Int.le_refl _, Int.mul_lt_mul' (by omega) (by omega) rt0 (by omega)⟩
      refine ⟨_, rfl, _, rfl, _, rfl, _, _, rfl, rfl, w64 _, _, rfl, top, rt * rt, b, 50, rfl, ⟨tm (by omega), tm (by omega), sq0, tm (by omega), hb0⟩, .inl ⟨⟨rt, isr, rfl⟩, fun H' sH => ?_⟩⟩
      exact ⟨rfl, k _⟩
    -- no square
    refine ⟨fun σ H' => ∃ d : Int, 2 ≤ d ∧ d ≤ 201 ∧ (∃ r', IsRoot d r' ∧ r' * r' ≠ d) ∧ H5 = H' ∧ σ = [some (.ref a), some (.ref r), some (.int top), some (.int d), some (.int b), some (.int way), some (.int rt), none, none, none, none, none], ?_, ?_⟩
    · refine ⟨_, rfl, _, rfl, _, _, rfl, rfl, w64 _, _, rfl, rfl, _, rfl, ite2 (fun c => ?_) (fun c => ?_)⟩
      · have c' : rt * rt = 2 + d0 := V.int.inj (of_decide_eq_true c)
        have rt1 : 1 ≤ rt := by
          rcases Int.lt_or_le rt 1 with z | z
          · have : rt = 0 := by omega
            rw [this] at c'
            omega
          · exact z
        have ex : (rt + 1) * (rt + 1) = rt * rt + 2 * rt + 1 := by grind
        exact ⟨_, rfl, _, _, rfl, rfl, 2 + d0 + 1, by omega, by omega, ⟨rt, ⟨rt0, by omega, by omega⟩, by omega⟩, rfl, rfl⟩
      · have c' : rt * rt ≠ 2 + d0 := fun z => c (decide_eq_true (congrArg V.int z))
        exact ⟨2 + d0, by omega, by omega, ⟨rt, hrt, c'⟩, rfl, rfl⟩
    rintro σ H' ⟨d, hd2, hd201, ⟨r', hr', hn'⟩, rfl, rfl⟩
    have good : Leaf.Good (.root top d b) := ⟨tm (by omega), tm (by omega), by omega, tm (by omega), hb0⟩
    obtain ⟨q, hq⟩ : ∃ q, IsRoot (d * (b.natAbs : Int) * (b.natAbs : Int)) q := root_there _ (Int.mul_nonneg (Int.mul_nonneg (by omega) (by omega)) (by omega))
    obtain ⟨irt, hq90⟩ := small_first ht20 (by omega) hd201 hb6 hb0 hr' hn' hq
    obtain ⟨c0, hc0⟩ : ∃ c0 : Chain, c0 = .root (top * (b.natAbs : Int)) (d * (b.natAbs : Int) * (b.natAbs : Int)) (b * (b.natAbs : Int)) q := ⟨_, rfl⟩
    rw [← hc0] at irt
    have uni : ∀ ch, Leaf.Starts (.root top d b) ch → ch = c0 := fun ch st => by
      obtain ⟨r2, hr2, z⟩ := st
      have e2 : r2 = r' := hr2.unique hr'
      subst e2
      rcases z with ⟨z, _⟩ | ⟨_, q2, hq2, rfl⟩
      · exact absurd z hn'
      · rw [hq2.unique hq, hc0]
    obtain ⟨I, J, RA⟩ := ring_there irt hq90
    have hIJ := RA.lt
    have hJ := RA.le
    have RI : RingIs top d b c0 I J := ⟨⟨_, _, irt, hq90⟩, uni, RA⟩
    -- what is due
    refine ⟨_, rfl, _, rfl, top, 1, b, rfl, hb0, b7 (by omega), b7 (by decide), b7 (by omega), ?_⟩
    intro g a' b' c' p e1 e2 e3 hc' hg prim np
    have s6 := same_upd (o := .tup [V.int a', .int b', .int c']) np
    have hp6 : T3 K _ p a' b' c' := SqT.of (upd_at s6)
    have w0 : (0 : Int) < b.natAbs := by omega
    have tri0 : TriAt d c0 0 (a', b', c') := by
      refine ⟨?_, prim, hc'⟩
      rw [hc0]
      have eb : g * (b.natAbs : Int) * b' = (b.natAbs : Int) := by
        have : g * (b.natAbs : Int) * b' = g * b' * (b.natAbs : Int) := by grind
        rw [this, ← e2, Int.one_mul]
      refine ⟨g * (b.natAbs : Int), ?_, ?_, ?_, ?_, ?_⟩
      · intro z
        rcases Int.mul_eq_zero.mp z with y | y
        · exact hg y
        · omega
      · show 0 < g * (b.natAbs : Int) * b'
        rw [eb]
        exact w0
      · show top * (b.natAbs : Int) = g * (b.natAbs : Int) * a'
        rw [e1]
        grind
      · show b * (b.natAbs : Int) = g * (b.natAbs : Int) * c'
        have : g * (b.natAbs : Int) * c' = g * c' * (b.natAbs : Int) := by grind
        rw [this, ← e3]
      · show d * (b.natAbs : Int) * (b.natAbs : Int) = g * (b.natAbs : Int) * b' * (g * (b.natAbs : Int) * b') * d
        rw [eb]
        grind
    have bdd : bd 100 d := Nat.lt_of_le_of_lt (show d.natAbs ≤ 201 by omega) (by decide)
    generalize upd H5 p _ = H6 at *
    refine ⟨_, rfl, p, (a', b', c'), d, _, _, c0, I, J, rfl, hp6, tri0, irt, hq90, by omega, bdd, RA, fun du l1 l2 H7 hdu hl1 hl2 s7 => ?_⟩
    have len1 : ((partsN c0 J).take I).length = I := by rw [List.length_take, partsN_len]; omega
    have len2 : ((partsN c0 J).drop I).length = J - I := by rw [List.length_drop, partsN_len]
    refine ⟨_, rfl, du, _, 0, _, rfl, rfl, SqT.of hdu, atI_nat (j := 0) rfl, l1, _, rfl, .inl (SqL.of hl1), _, rfl, du, _, 1, _, rfl, rfl, SqT.of hdu, atI_nat (j := 1) rfl, l2, _, rfl, .inl (SqL.of hl2), _, _, rfl, rfl, ?_⟩
    have emany : (((((partsN c0 J).take I).map V.int).length : Nat) : Int) + (((((partsN c0 J).drop I).map V.int).length : Nat) : Int) = (J : Int) := by
      rw [List.length_map, List.length_map, len1, len2]
      omega
    show tSeq _ _ _ [some (.ref a), some (.ref r), some (.int top), some (.int d), some (.int b), some (.int way), some (.int rt), some (.ref du), some (.int ((((((partsN c0 J).take I).map V.int).length : Nat) : Int) + (((((partsN c0 J).drop I).map V.int).length : Nat) : Int))), none, none, none] H7
    rw [emany]
    -- too long
    refine ⟨_, rfl, _, rfl, _, rfl, _, rfl, _, _, rfl, rfl, top, d, b, (J : Int) - 1, rfl, good, .inr ⟨c0, I, J, RI, by omega, fun H8 s8 => ?_⟩⟩
    refine ⟨rfl, _, rfl, iteF ?_⟩
    refine ⟨_, rfl, _, rfl, _, rfl, top, d, b, 0, rfl, good, .inr ⟨c0, I, J, RI, by omega, fun H9 s9 => ?_⟩⟩
    refine ⟨rfl, _, rfl, iteF ?_⟩
    have s79 := s8.trans s9
    have hdu9 := s79 _ _ hdu
    have hl19 := s79 _ _ hl1
    have hl29 := s79 _ _ hl2
    -- found
    refine ⟨_, rfl, _, rfl, _, rfl, _, rfl, (by show 2 ≤ sizeLine; decide), fun ml nml => ?_⟩
    have s10 := same_upd (o := .lst [V.int 0, .int 20]) nml
    have m2 : 0 ≤ way % 2 := Int.emod_nonneg _ (by decide)
    have m3 : way % 2 < 2 := Int.emod_lt_of_pos _ (by decide)
    obtain ⟨mo, hmo, mo0⟩ : ∃ mo : Int, atI [V.int 0, .int 20] (way % 2) = some (.int mo) ∧ 0 ≤ mo := by
      obtain e | e : way % 2 = 0 ∨ way % 2 = 1 := by omega
      · rw [e]; exact ⟨0, rfl, by decide⟩
      · rw [e]; exact ⟨20, rfl, by decide⟩
    refine ⟨_, rfl, _, _, rfl, rfl, (by show (0 : Int) < 2; decide), ml, _, _, _, rfl, rfl, SqL.of (upd_at s10), hmo, _, _, rfl, rfl, ?_⟩
    refine ⟨top, d, b, (J : Int) + mo, rfl, good, .inr ⟨c0, I, J, RI, fun hm fp f1 f2 H11 hfp hf1 hf2 s11 => ?_, fun hm => absurd hm (by omega)⟩⟩
    have s911 := s10.trans s11
    have hdu11 := s911 _ _ hdu9
    have hl111 := s911 _ _ hl19
    have hl211 := s911 _ _ hl29
    refine ⟨_, rfl, _, _, _, _, true, rfl, .ty "tuple", tyT (SqT.of hfp), kit_ty (by decide +kernel), _, rfl, iteF ?_⟩
    refine ⟨_, rfl, fp, _, rfl, .inr (SqT.of hfp), rfl, _, rfl, iteF ?_⟩
    refine ⟨_, rfl, fp, _, 0, _, rfl, rfl, SqT.of hfp, atI_nat (j := 0) rfl, _, rfl, du, _, 0, _, rfl, rfl, SqT.of hdu11, atI_nat (j := 0) rfl, f1, l1, _, rfl, hf1, hl111, _, rfl, iteF ?_⟩
    refine ⟨_, rfl, fp, _, 1, _, rfl, rfl, SqT.of hfp, atI_nat (j := 1) rfl, _, rfl, du, _, 1, _, rfl, rfl, SqT.of hdu11, atI_nat (j := 1) rfl, f2, l2, _, rfl, hf2, hl211, _, rfl, iteF ?_⟩
    -- the parts, told
    refine ⟨_, rfl, du, _, 0, _, rfl, rfl, SqT.of hdu11, atI_nat (j := 0) rfl, _, rfl, du, _, 1, _, rfl, rfl, SqT.of hdu11, atI_nat (j := 1) rfl, l1, l2, _, _, rfl, rfl, hl111, hl211, (by rw [List.length_map, List.length_map, len1, len2, sizeLine_eq]; omega), fun x1 nx1 => ?_⟩
    have s12 := same_upd (o := .lst (((partsN c0 J).take I).map V.int ++ ((partsN c0 J).drop I).map V.int)) nx1
    have hx1 : (upd H11 x1 (.lst (((partsN c0 J).take I).map V.int ++ ((partsN c0 J).drop I).map V.int))) x1 = some (.lst ((partsN c0 J).map V.int)) := by
      rw [upd_at s12, ← List.map_append, List.take_append_drop]
    have hdu12 := s12 _ _ hdu11
    have hl212 := s12 _ _ hl211
    generalize upd H11 x1 _ = H12 at *
    refine ⟨_, rfl, du, _, 1, _, rfl, rfl, SqT.of hdu12, atI_nat (j := 1) rfl, x1, l2, _, _, rfl, rfl, hx1, hl212, (by rw [List.length_map, List.length_map, len2, partsN_len, sizeLine_eq]; omega), fun x2 nx2 => ?_⟩
    have s13 := same_upd (o := .lst ((partsN c0 J).map V.int ++ ((partsN c0 J).drop I).map V.int)) nx2
    have hx2 : (upd H12 x2 (.lst ((partsN c0 J).map V.int ++ ((partsN c0 J).drop I).map V.int))) x2 = some (.lst ((partsN c0 (J + (J - I))).map V.int)) := by
      rw [upd_at s13, ← List.map_append, parts_round irt hq90 RA]
    generalize upd H12 x2 _ = H13 at *
    have lenN : ((((partsN c0 (J + (J - I))).map V.int).length : Nat) : Int) = ((J + (J - I) : Nat) : Int) := by rw [List.length_map, partsN_len]
    refine ⟨_, rfl, _, rfl, _, rfl, (by show 4 ≤ sizeLine; decide), fun tv ntv => ?_⟩
    have s14 := same_upd (o := .tup [V.str "root", .int top, .int d, .int b]) ntv
    have htv : Leaf.At K _ tv (.root top d b) := SqT.of (upd_at s14)
    have hx3 := s14 _ _ hx2
    generalize upd H13 tv _ = H14 at *
    refine ⟨_, rfl, x2, _, rfl, .inl (SqL.of hx3), _, rfl, x2, _, rfl, .inl (SqL.of hx3), _, _, rfl, rfl, .inl ⟨by decide, by decide⟩, ?_⟩
    rw [lenN]
    refine ⟨tv, .root top d b, J + (J - I), _, rfl, htv, good, by omega, by omega, fun ch tp tl H15 st s15 ntp ntl htp htl => ?_⟩
    have ech := uni ch st
    subst ech
    rw [first_run hq90 _ _ _ irt (by omega)] at htp htl
    refine ⟨_, rfl, tp, _, 0, _, rfl, rfl, SqT.of htp, atI_nat (j := 0) rfl, _, rfl, tl, x2, _, rfl, htl, s15 _ _ hx3, _, rfl, iteT ?_⟩
    exact ⟨_, rfl, tp, _, 1, _, rfl, rfl, SqT.of htp, atI_nat (j := 1) rfl, rfl, k _⟩
end
theorem fun_ofD {K : PySem.W.Frag} {x qual : Str} {st : Stmt} {f : Addr} {fd : FuncData} (F : FunD K x qual (defArgs st) (defBody st) (defScope st) [] [] f fd) : Fun K x qual st f fd := by
  obtain ⟨⟨oc, od, dV, kV, doc, pm, an, cdv, ct, osl, rfl, lk, hcd, hd, hk⟩, kp⟩ := F
  rcases hd with ⟨_, rfl⟩ | ⟨z, _⟩
  · exact ⟨⟨oc, od, kV, doc, pm, an, cdv, ct, osl, rfl, lk, hcd⟩, kp⟩
  · exact absurd rfl z
def adOf (K : PySem.W.Frag) : Ad := ⟨He.ga K "Meter", He.ga K "FractionChain", He.ga K "RootChain", He.ga K "RuledChain", He.ga K "Leaf", He.ga K "FractionBox", He.ga K "FourBox", He.ga K "EightBox", He.ga K "Reading", He.ga K "END", He.ga K "WAITS", He.ga K "TIMES", He.ga K "LENGTHS", He.ga K "CHECKS", He.ga K "BadTree", He.ga K "NoValue", He.ga K "TooLong"⟩
section
variable {w : World} {K : PySem.W.Frag} {h : Heap} {mg : Str → Option Value}
theorem ct_of (X : K.In h) (G : h.Ns mainGlobals mg) (c : He.SaysX faL fnL tsL [] exL w h K) : CT K mg (adOf K) := by
  have d := c.t.d
  have ex : exL K = true := c.more
  obtain ⟨e0, ex⟩ := He.ba ex
  obtain ⟨e1, ex⟩ := He.ba ex
  obtain ⟨e2, ex⟩ := He.ba ex
  obtain ⟨e3, ex⟩ := He.ba ex
  obtain ⟨e4, ex⟩ := He.ba ex
  have e5 := ex
  exact {
    b_len := He.free_ok X G (d.fact 0 (f := .free "len") (by rfl)),
    b_isinstance := He.free_ok X G (d.fact 1 (f := .free "isinstance") (by rfl)),
    b_range := He.free_ok X G (d.fact 2 (f := .free "range") (by rfl)),
    b_zip := He.free_ok X G (d.fact 3 (f := .free "zip") (by rfl)),
    b_abs := He.free_ok X G (d.fact 4 (f := .free "abs") (by rfl)),
    b_divmod := He.free_ok X G (d.fact 5 (f := .free "divmod") (by rfl)),
    b_min := He.free_ok X G (d.fact 6 (f := .free "min") (by rfl)),
    b_all := He.free_ok X G (d.fact 7 (f := .free "all") (by rfl)),
    b_any := He.free_ok X G (d.fact 8 (f := .free "any") (by rfl)),
    b_list := He.free_ok X G (d.fact 9 (f := .free "list") (by rfl)),
    b_tuple := He.free_ok X G (d.fact 10 (f := .free "tuple") (by rfl)),
    b_str := He.free_ok X G (d.fact 11 (f := .free "str") (by rfl)),
    b_int := He.free_ok X G (d.fact 12 (f := .free "int") (by rfl)),
    b_bool := He.free_ok X G (d.fact 13 (f := .free "bool") (by rfl)),
    b_sum := He.free_ok X G (d.fact 14 (f := .free "sum") (by rfl)),
    b_max := He.free_ok X G (d.fact 15 (f := .free "max") (by rfl)),
    cl_Meter := He.cls_ok (d.fact 30 (f := .cls "Meter") (by rfl)),
    n_Meter_left := He.noat_ok (d.fact 34 (f := .noat "Meter" "left") (by rfl)),
    n_Meter_spent := He.noat_ok (d.fact 35 (f := .noat "Meter" "spent") (by rfl)),
    g_Meter := He.glo_ok X G (d.fact 29 (f := .glo "Meter") (by rfl)),
    cl_FractionChain := He.cls_ok (d.fact 37 (f := .cls "FractionChain") (by rfl)),
    n_FractionChain_top := He.noat_ok (d.fact 41 (f := .noat "FractionChain" "top") (by rfl)),
    n_FractionChain_below := He.noat_ok (d.fact 42 (f := .noat "FractionChain" "below") (by rfl)),
    g_FractionChain := He.glo_ok X G (d.fact 36 (f := .glo "FractionChain") (by rfl)),
    cl_RootChain := He.cls_ok (d.fact 44 (f := .cls "RootChain") (by rfl)),
    n_RootChain_top := He.noat_ok (d.fact 49 (f := .noat "RootChain" "top") (by rfl)),
    n_RootChain_square := He.noat_ok (d.fact 50 (f := .noat "RootChain" "square") (by rfl)),
    n_RootChain_below := He.noat_ok (d.fact 51 (f := .noat "RootChain" "below") (by rfl)),
    n_RootChain_root := He.noat_ok (d.fact 52 (f := .noat "RootChain" "root") (by rfl)),
    g_RootChain := He.glo_ok X G (d.fact 43 (f := .glo "RootChain") (by rfl)),
    cl_RuledChain := He.cls_ok (d.fact 54 (f := .cls "RuledChain") (by rfl)),
    n_RuledChain_parts := He.noat_ok (d.fact 58 (f := .noat "RuledChain" "parts") (by rfl)),
    n_RuledChain_ring := He.noat_ok (d.fact 59 (f := .noat "RuledChain" "ring") (by rfl)),
    n_RuledChain_steps := He.noat_ok (d.fact 60 (f := .noat "RuledChain" "steps") (by rfl)),
    n_RuledChain_at := He.noat_ok (d.fact 61 (f := .noat "RuledChain" "at") (by rfl)),
    g_RuledChain := He.glo_ok X G (d.fact 53 (f := .glo "RuledChain") (by rfl)),
    cl_Leaf := He.cls_ok (d.fact 63 (f := .cls "Leaf") (by rfl)),
    n_Leaf_chain := He.noat_ok (d.fact 66 (f := .noat "Leaf" "chain") (by rfl)),
    g_Leaf := He.glo_ok X G (d.fact 62 (f := .glo "Leaf") (by rfl)),
    cl_FractionBox := He.cls_ok (d.fact 90 (f := .cls "FractionBox") (by rfl)),
    n_FractionBox_top := He.noat_ok (d.fact 94 (f := .noat "FractionBox" "top") (by rfl)),
    n_FractionBox_below := He.noat_ok (d.fact 95 (f := .noat "FractionBox" "below") (by rfl)),
    n_FractionBox_told := He.noat_ok (d.fact 96 (f := .noat "FractionBox" "told") (by rfl)),
    g_FractionBox := He.glo_ok X G (d.fact 89 (f := .glo "FractionBox") (by rfl)),
    cl_FourBox := He.cls_ok (d.fact 98 (f := .cls "FourBox") (by rfl)),
    n_FourBox_numbers := He.noat_ok (d.fact 103 (f := .noat "FourBox" "numbers") (by rfl)),
    n_FourBox_tree := He.noat_ok (d.fact 104 (f := .noat "FourBox" "tree") (by rfl)),
    n_FourBox_started := He.noat_ok (d.fact 105 (f := .noat "FourBox" "started") (by rfl)),
    n_FourBox_told := He.noat_ok (d.fact 106 (f := .noat "FourBox" "told") (by rfl)),
    n_FourBox_rest := He.noat_ok (d.fact 107 (f := .noat "FourBox" "rest") (by rfl)),
    g_FourBox := He.glo_ok X G (d.fact 97 (f := .glo "FourBox") (by rfl)),
    cl_EightBox := He.cls_ok (d.fact 109 (f := .cls "EightBox") (by rfl)),
    n_EightBox_numbers := He.noat_ok (d.fact 115 (f := .noat "EightBox" "numbers") (by rfl)),
    n_EightBox_trees := He.noat_ok (d.fact 116 (f := .noat "EightBox" "trees") (by rfl)),
    n_EightBox_taken := He.noat_ok (d.fact 117 (f := .noat "EightBox" "taken") (by rfl)),
    n_EightBox_told := He.noat_ok (d.fact 118 (f := .noat "EightBox" "told") (by rfl)),
    n_EightBox_rest := He.noat_ok (d.fact 119 (f := .noat "EightBox" "rest") (by rfl)),
    g_EightBox := He.glo_ok X G (d.fact 108 (f := .glo "EightBox") (by rfl)),
    cl_Reading := He.cls_ok (d.fact 129 (f := .cls "Reading") (by rfl)),
    n_Reading_box := He.noat_ok (d.fact 133 (f := .noat "Reading" "box") (by rfl)),
    n_Reading_meter := He.noat_ok (d.fact 134 (f := .noat "Reading" "meter") (by rfl)),
    g_Reading := He.glo_ok X G (d.fact 128 (f := .glo "Reading") (by rfl)),
    g_END := He.glo_ok X G (d.fact 27 (f := .glo "END") (by rfl)),
    t_END := fun H => He.tupB_ok e0 H,
    g_WAITS := He.glo_ok X G (d.fact 28 (f := .glo "WAITS") (by rfl)),
    t_WAITS := fun H => He.tupB_ok e1 H,
    g_TIMES := He.glo_ok X G (d.fact 127 (f := .glo "TIMES") (by rfl)),
    t_TIMES := fun H => He.tupB_ok e4 H,
    i_MOST_NUMBER := He.int_ok X G (d.fact 69 (f := .int "MOST_NUMBER" 1000000000000) (by rfl)),
    i_MOST_DEPTH := He.int_ok X G (d.fact 70 (f := .int "MOST_DEPTH" 5) (by rfl)),
    i_MOST_PARTS := He.int_ok X G (d.fact 71 (f := .int "MOST_PARTS" 12) (by rfl)),
    i_MOST_POWER := He.int_ok X G (d.fact 72 (f := .int "MOST_POWER" 4) (by rfl)),
    g_LENGTHS := He.glo_ok X G (d.fact 85 (f := .glo "LENGTHS") (by rfl)),
    g_CHECKS := He.glo_ok X G (d.fact 86 (f := .glo "CHECKS") (by rfl)),
    x_BadTree := ⟨He.glo_ok X G (d.fact 23 (f := .glo "BadTree") (by rfl)), (He.exc_ok (d.fact 16 (f := .exc "BadTree") (by rfl))).1, (He.exc_ok (d.fact 16 (f := .exc "BadTree") (by rfl))).2.1, (He.exc_ok (d.fact 16 (f := .exc "BadTree") (by rfl))).2.2.1, (He.exc_ok (d.fact 16 (f := .exc "BadTree") (by rfl))).2.2.2⟩,
    x_NoValue := ⟨He.glo_ok X G (d.fact 24 (f := .glo "NoValue") (by rfl)), (He.exc_ok (d.fact 17 (f := .exc "NoValue") (by rfl))).1, (He.exc_ok (d.fact 17 (f := .exc "NoValue") (by rfl))).2.1, (He.exc_ok (d.fact 17 (f := .exc "NoValue") (by rfl))).2.2.1, (He.exc_ok (d.fact 17 (f := .exc "NoValue") (by rfl))).2.2.2⟩,
    x_TooLong := ⟨He.glo_ok X G (d.fact 25 (f := .glo "TooLong") (by rfl)), (He.exc_ok (d.fact 18 (f := .exc "TooLong") (by rfl))).1, (He.exc_ok (d.fact 18 (f := .exc "TooLong") (by rfl))).2.1, (He.exc_ok (d.fact 18 (f := .exc "TooLong") (by rfl))).2.2.1, (He.exc_ok (d.fact 18 (f := .exc "TooLong") (by rfl))).2.2.2⟩ }
theorem tb_of (X : K.In h) (G : h.Ns mainGlobals mg) (c : He.SaysX faL fnL tsL [] exL w h K) : TB K w mg (adOf K) := by
  have d := c.t.d
  have ex : exL K = true := c.more
  obtain ⟨e0, ex⟩ := He.ba ex
  obtain ⟨e1, ex⟩ := He.ba ex
  obtain ⟨e2, ex⟩ := He.ba ex
  obtain ⟨e3, ex⟩ := He.ba ex
  obtain ⟨e4, ex⟩ := He.ba ex
  have e5 := ex
  refine ⟨c.t.tab 0 (t := (fun K => He.ga K "LENGTHS", ["fraction", "root", "ruled", "four", "eight", "power"])) (by rfl), c.t.tab 1 (t := (fun K => He.ga K "CHECKS", ["fraction", "root", "ruled", "four", "eight", "power"])) (by rfl), fun x n hm => ?_, fun x y f hm hf => ?_⟩
  · simp only [List.mem_cons, Prod.mk.injEq, List.not_mem_nil, or_false] at hm
    rcases hm with ⟨rfl, rfl⟩ | ⟨rfl, rfl⟩ | ⟨rfl, rfl⟩ | ⟨rfl, rfl⟩ | ⟨rfl, rfl⟩ | ⟨rfl, rfl⟩
    · obtain ⟨u, e, t, rfl⟩ := He.valsB_ok e2 (q := ("fraction", .int 3)) (by simp)
      exact ⟨t, e⟩
    · obtain ⟨u, e, t, rfl⟩ := He.valsB_ok e2 (q := ("root", .int 4)) (by simp)
      exact ⟨t, e⟩
    · obtain ⟨u, e, t, rfl⟩ := He.valsB_ok e2 (q := ("ruled", .int 4)) (by simp)
      exact ⟨t, e⟩
    · obtain ⟨u, e, t, rfl⟩ := He.valsB_ok e2 (q := ("four", .int 3)) (by simp)
      exact ⟨t, e⟩
    · obtain ⟨u, e, t, rfl⟩ := He.valsB_ok e2 (q := ("eight", .int 4)) (by simp)
      exact ⟨t, e⟩
    · obtain ⟨u, e, t, rfl⟩ := He.valsB_ok e2 (q := ("power", .int 3)) (by simp)
      exact ⟨t, e⟩
  · simp only [List.mem_cons, Prod.mk.injEq, List.not_mem_nil, or_false] at hm
    rcases hm with ⟨rfl, rfl⟩ | ⟨rfl, rfl⟩ | ⟨rfl, rfl⟩ | ⟨rfl, rfl⟩ | ⟨rfl, rfl⟩ | ⟨rfl, rfl⟩
    · obtain ⟨u, e, r⟩ := He.valsB_ok e3 (q := ("fraction", .glo "check_fraction")) (by simp)
      have g := (He.glo_ok X G (d.fact 78 (f := .glo "check_fraction") (by rfl))).symm.trans hf
      cases g
      cases r
      exact e
    · obtain ⟨u, e, r⟩ := He.valsB_ok e3 (q := ("root", .glo "check_root")) (by simp)
      have g := (He.glo_ok X G (d.fact 79 (f := .glo "check_root") (by rfl))).symm.trans hf
      cases g
      cases r
      exact e
    · obtain ⟨u, e, r⟩ := He.valsB_ok e3 (q := ("ruled", .glo "check_ruled")) (by simp)
      have g := (He.glo_ok X G (d.fact 80 (f := .glo "check_ruled") (by rfl))).symm.trans hf
      cases g
      cases r
      exact e
    · obtain ⟨u, e, r⟩ := He.valsB_ok e3 (q := ("four", .glo "check_four")) (by simp)
      have g := (He.glo_ok X G (d.fact 81 (f := .glo "check_four") (by rfl))).symm.trans hf
      cases g
      cases r
      exact e
    · obtain ⟨u, e, r⟩ := He.valsB_ok e3 (q := ("eight", .glo "check_eight")) (by simp)
      have g := (He.glo_ok X G (d.fact 82 (f := .glo "check_eight") (by rfl))).symm.trans hf
      cases g
      cases r
      exact e
    · obtain ⟨u, e, r⟩ := He.valsB_ok e3 (q := ("power", .glo "check_power")) (by simp)
      have g := (He.glo_ok X G (d.fact 84 (f := .glo "check_power") (by rfl))).symm.trans hf
      cases g
      cases r
      exact e
def xadOf (K : PySem.W.Frag) : XAd := ⟨He.ga K "PartError"⟩
theorem xet_of (X : K.In h) (G : h.Ns mainGlobals mg) (c : He.SaysX faL fnL tsL [] exL w h K) : XET K mg (adOf K) (xadOf K) := by
  have d := c.t.d
  have ex : exL K = true := c.more
  obtain ⟨e0, ex⟩ := He.ba ex
  obtain ⟨e1, ex⟩ := He.ba ex
  obtain ⟨e2, ex⟩ := He.ba ex
  obtain ⟨e3, ex⟩ := He.ba ex
  obtain ⟨e4, ex⟩ := He.ba ex
  have e5 := ex
  obtain ⟨x1, z⟩ := He.ba e5
  obtain ⟨x2, z⟩ := He.ba z
  obtain ⟨x3, z⟩ := He.ba z
  obtain ⟨x4, z⟩ := He.ba z
  obtain ⟨x5, z⟩ := He.ba z
  obtain ⟨x6, z⟩ := He.ba z
  obtain ⟨x7, z⟩ := He.ba z
  obtain ⟨x8, z⟩ := He.ba z
  obtain ⟨x9, z⟩ := He.ba z
  obtain ⟨x10, z⟩ := He.ba z
  obtain ⟨x11, z⟩ := He.ba z
  obtain ⟨x12, z⟩ := He.ba z
  obtain ⟨x13, z⟩ := He.ba z
  exact ⟨He.glo_ok X G (d.fact 22 (f := .glo "PartError") (by rfl)), He.free_ok X G (d.fact 19 (f := .free "ValueError") (by rfl)), excC_of x1, excC_of x2, He.exm_ok (d.fact 20 (f := .exm "BadTree" "PartError" true) (by rfl)), He.exm_ok (d.fact 21 (f := .exm "TooLong" "PartError" true) (by rfl)), of_decide_eq_true x3, of_decide_eq_true x4, of_decide_eq_true x5, of_decide_eq_true x6, of_decide_eq_true x7, of_decide_eq_true x8, of_decide_eq_true x9, of_decide_eq_true x10, (clsB_ok x11).1, (clsB_ok x11).2, (clsB_ok x12).1, (clsB_ok x12).2, of_decide_eq_true x13, of_decide_eq_true z⟩
theorem dt_of (X : K.In h) (G : h.Ns mainGlobals mg) (c : He.SaysX faL fnL tsL [] exL w h K) : DT K mg (adOf K) := by
  have d := c.t.d
  exact {
    root_below := by
      obtain ⟨fd, F0⟩ := d.def_ 0 (d := d_root_below) (by rfl)
      have F := fun_ofD (st := s_root_below) F0
      exact ⟨_, fd, F, He.glo_ok X G (d.fact 26 (f := .glo "root_below") (by rfl)), (F.binds (ps := ["number"]) fun _ _ _ _ _ _ us hl => match us, hl with | [_], _ => rfl)⟩
    Meter_init := by
      obtain ⟨fd, F0⟩ := d.def_ 1 (d := d_Meter_init) (by rfl)
      have F := fun_ofD (st := s_Meter_init) F0
      exact ⟨_, fd, F, He.mkr_ok (d.fact 31 (f := .mkr "Meter") (by rfl)), (F.binds (ps := ["self"]) fun _ _ _ _ _ _ us hl => match us, hl with | [_], _ => rfl)⟩
    Meter_allow := by
      obtain ⟨fd, F0⟩ := d.def_ 2 (d := d_Meter_allow) (by rfl)
      have F := fun_ofD (st := s_Meter_allow) F0
      exact ⟨_, fd, F, He.meth_ok (d.fact 32 (f := .meth "Meter" "allow") (by rfl)), (F.binds (ps := ["self", "most"]) fun _ _ _ _ _ _ us hl => match us, hl with | [_, _], _ => rfl)⟩
    Meter_pay := by
      obtain ⟨fd, F0⟩ := d.def_ 3 (d := d_Meter_pay) (by rfl)
      have F := fun_ofD (st := s_Meter_pay) F0
      exact ⟨_, fd, F, He.meth_ok (d.fact 33 (f := .meth "Meter" "pay") (by rfl)), (F.binds (ps := ["self"]) fun _ _ _ _ _ _ us hl => match us, hl with | [_], _ => rfl)⟩
    FractionChain_init := by
      obtain ⟨fd, F0⟩ := d.def_ 4 (d := d_FractionChain_init) (by rfl)
      have F := fun_ofD (st := s_FractionChain_init) F0
      exact ⟨_, fd, F, He.mkr_ok (d.fact 38 (f := .mkr "FractionChain") (by rfl)), (F.binds (ps := ["self", "top", "below"]) fun _ _ _ _ _ _ us hl => match us, hl with | [_, _, _], _ => rfl)⟩
    FractionChain_has_ended := by
      obtain ⟨fd, F0⟩ := d.def_ 5 (d := d_FractionChain_has_ended) (by rfl)
      have F := fun_ofD (st := s_FractionChain_has_ended) F0
      exact ⟨_, fd, F, He.meth_ok (d.fact 39 (f := .meth "FractionChain" "has_ended") (by rfl)), (F.binds (ps := ["self"]) fun _ _ _ _ _ _ us hl => match us, hl with | [_], _ => rfl)⟩
    FractionChain_next_part := by
      obtain ⟨fd, F0⟩ := d.def_ 6 (d := d_FractionChain_next_part) (by rfl)
      have F := fun_ofD (st := s_FractionChain_next_part) F0
      exact ⟨_, fd, F, He.meth_ok (d.fact 40 (f := .meth "FractionChain" "next_part") (by rfl)), (F.binds (ps := ["self"]) fun _ _ _ _ _ _ us hl => match us, hl with | [_], _ => rfl)⟩
    RootChain_init := by
      obtain ⟨fd, F0⟩ := d.def_ 7 (d := d_RootChain_init) (by rfl)
      have F := fun_ofD (st := s_RootChain_init) F0
      exact ⟨_, fd, F, He.mkr_ok (d.fact 45 (f := .mkr "RootChain") (by rfl)), (F.binds (ps := ["self", "top", "square", "below"]) fun _ _ _ _ _ _ us hl => match us, hl with | [_, _, _, _], _ => rfl)⟩
    RootChain_has_ended := by
      obtain ⟨fd, F0⟩ := d.def_ 8 (d := d_RootChain_has_ended) (by rfl)
      have F := fun_ofD (st := s_RootChain_has_ended) F0
      exact ⟨_, fd, F, He.meth_ok (d.fact 46 (f := .meth "RootChain" "has_ended") (by rfl)), (F.binds (ps := ["self"]) fun _ _ _ _ _ _ us hl => match us, hl with | [_], _ => rfl)⟩
    RootChain_next_part := by
      obtain ⟨fd, F0⟩ := d.def_ 9 (d := d_RootChain_next_part) (by rfl)
      have F := fun_ofD (st := s_RootChain_next_part) F0
      exact ⟨_, fd, F, He.meth_ok (d.fact 47 (f := .meth "RootChain" "next_part") (by rfl)), (F.binds (ps := ["self"]) fun _ _ _ _ _ _ us hl => match us, hl with | [_], _ => rfl)⟩
    RootChain_what_is_left := by
      obtain ⟨fd, F0⟩ := d.def_ 10 (d := d_RootChain_what_is_left) (by rfl)
      have F := fun_ofD (st := s_RootChain_what_is_left) F0
      exact ⟨_, fd, F, He.meth_ok (d.fact 48 (f := .meth "RootChain" "what_is_left") (by rfl)), (F.binds (ps := ["self"]) fun _ _ _ _ _ _ us hl => match us, hl with | [_], _ => rfl)⟩
    RuledChain_init := by
      obtain ⟨fd, F0⟩ := d.def_ 11 (d := d_RuledChain_init) (by rfl)
      have F := fun_ofD (st := s_RuledChain_init) F0
      exact ⟨_, fd, F, He.mkr_ok (d.fact 55 (f := .mkr "RuledChain") (by rfl)), (F.binds (ps := ["self", "parts", "ring", "steps"]) fun _ _ _ _ _ _ us hl => match us, hl with | [_, _, _, _], _ => rfl)⟩
    RuledChain_has_ended := by
      obtain ⟨fd, F0⟩ := d.def_ 12 (d := d_RuledChain_has_ended) (by rfl)
      have F := fun_ofD (st := s_RuledChain_has_ended) F0
      exact ⟨_, fd, F, He.meth_ok (d.fact 56 (f := .meth "RuledChain" "has_ended") (by rfl)), (F.binds (ps := ["self"]) fun _ _ _ _ _ _ us hl => match us, hl with | [_], _ => rfl)⟩
    RuledChain_next_part := by
      obtain ⟨fd, F0⟩ := d.def_ 13 (d := d_RuledChain_next_part) (by rfl)
      have F := fun_ofD (st := s_RuledChain_next_part) F0
      exact ⟨_, fd, F, He.meth_ok (d.fact 57 (f := .meth "RuledChain" "next_part") (by rfl)), (F.binds (ps := ["self"]) fun _ _ _ _ _ _ us hl => match us, hl with | [_], _ => rfl)⟩
    Leaf_init := by
      obtain ⟨fd, F0⟩ := d.def_ 14 (d := d_Leaf_init) (by rfl)
      have F := fun_ofD (st := s_Leaf_init) F0
      exact ⟨_, fd, F, He.mkr_ok (d.fact 64 (f := .mkr "Leaf") (by rfl)), (F.binds (ps := ["self", "chain"]) fun _ _ _ _ _ _ us hl => match us, hl with | [_, _], _ => rfl)⟩
    Leaf_ask := by
      obtain ⟨fd, F0⟩ := d.def_ 15 (d := d_Leaf_ask) (by rfl)
      have F := fun_ofD (st := s_Leaf_ask) F0
      exact ⟨_, fd, F, He.meth_ok (d.fact 65 (f := .meth "Leaf" "ask") (by rfl)), (F.binds (ps := ["self", "meter"]) fun _ _ _ _ _ _ us hl => match us, hl with | [_, _], _ => rfl)⟩
    leaf_of := by
      obtain ⟨fd, F0⟩ := d.def_ 16 (d := d_leaf_of) (by rfl)
      have F := fun_ofD (st := s_leaf_of) F0
      exact ⟨_, fd, F, He.glo_ok X G (d.fact 67 (f := .glo "leaf_of") (by rfl)), (F.binds (ps := ["tree"]) fun _ _ _ _ _ _ us hl => match us, hl with | [_], _ => rfl)⟩
    root_chain := by
      obtain ⟨fd, F0⟩ := d.def_ 17 (d := d_root_chain) (by rfl)
      have F := fun_ofD (st := s_root_chain) F0
      exact ⟨_, fd, F, He.glo_ok X G (d.fact 68 (f := .glo "root_chain") (by rfl)), (F.binds (ps := ["top", "square", "below"]) fun _ _ _ _ _ _ us hl => match us, hl with | [_, _, _], _ => rfl)⟩
    check_tree := by
      obtain ⟨fd, F0⟩ := d.def_ 18 (d := d_check_tree) (by rfl)
      have F := fun_ofD (st := s_check_tree) F0
      exact ⟨_, fd, F, He.glo_ok X G (d.fact 73 (f := .glo "check_tree") (by rfl)), (F.binds (ps := ["tree"]) fun _ _ _ _ _ _ us hl => match us, hl with | [_], _ => rfl)⟩
    check_at_depth := by
      obtain ⟨fd, F0⟩ := d.def_ 19 (d := d_check_at_depth) (by rfl)
      have F := fun_ofD (st := s_check_at_depth) F0
      exact ⟨_, fd, F, He.glo_ok X G (d.fact 74 (f := .glo "check_at_depth") (by rfl)), (F.binds (ps := ["tree", "depth"]) fun _ _ _ _ _ _ us hl => match us, hl with | [_, _], _ => rfl)⟩
    require := by
      obtain ⟨fd, F0⟩ := d.def_ 20 (d := d_require) (by rfl)
      have F := fun_ofD (st := s_require) F0
      exact ⟨_, fd, F, He.glo_ok X G (d.fact 75 (f := .glo "require") (by rfl)), (F.binds (ps := ["holds", "why"]) fun _ _ _ _ _ _ us hl => match us, hl with | [_, _], _ => rfl)⟩
    check_row := by
      obtain ⟨fd, F0⟩ := d.def_ 21 (d := d_check_row) (by rfl)
      have F := fun_ofD (st := s_check_row) F0
      exact ⟨_, fd, F, He.glo_ok X G (d.fact 76 (f := .glo "check_row") (by rfl)), (F.binds (ps := ["row", "fewest", "most"]) fun _ _ _ _ _ _ us hl => match us, hl with | [_, _, _], _ => rfl)⟩
    is_whole := by
      obtain ⟨fd, F0⟩ := d.def_ 22 (d := d_is_whole) (by rfl)
      have F := fun_ofD (st := s_is_whole) F0
      exact ⟨_, fd, F, He.glo_ok X G (d.fact 77 (f := .glo "is_whole") (by rfl)), (F.binds (ps := ["number"]) fun _ _ _ _ _ _ us hl => match us, hl with | [_], _ => rfl)⟩
    check_fraction := by
      obtain ⟨fd, F0⟩ := d.def_ 23 (d := d_check_fraction) (by rfl)
      have F := fun_ofD (st := s_check_fraction) F0
      exact ⟨_, fd, F, He.glo_ok X G (d.fact 78 (f := .glo "check_fraction") (by rfl)), (F.binds (ps := ["tree", "depth"]) fun _ _ _ _ _ _ us hl => match us, hl with | [_, _], _ => rfl)⟩
    check_root := by
      obtain ⟨fd, F0⟩ := d.def_ 24 (d := d_check_root) (by rfl)
      have F := fun_ofD (st := s_check_root) F0
      exact ⟨_, fd, F, He.glo_ok X G (d.fact 79 (f := .glo "check_root") (by rfl)), (F.binds (ps := ["tree", "depth"]) fun _ _ _ _ _ _ us hl => match us, hl with | [_, _], _ => rfl)⟩
    check_ruled := by
      obtain ⟨fd, F0⟩ := d.def_ 25 (d := d_check_ruled) (by rfl)
      have F := fun_ofD (st := s_check_ruled) F0
      exact ⟨_, fd, F, He.glo_ok X G (d.fact 80 (f := .glo "check_ruled") (by rfl)), (F.binds (ps := ["tree", "depth"]) fun _ _ _ _ _ _ us hl => match us, hl with | [_, _], _ => rfl)⟩
    check_four := by
      obtain ⟨fd, F0⟩ := d.def_ 26 (d := d_check_four) (by rfl)
      have F := fun_ofD (st := s_check_four) F0
      exact ⟨_, fd, F, He.glo_ok X G (d.fact 81 (f := .glo "check_four") (by rfl)), (F.binds (ps := ["tree", "depth"]) fun _ _ _ _ _ _ us hl => match us, hl with | [_, _], _ => rfl)⟩
    check_eight := by
      obtain ⟨fd, F0⟩ := d.def_ 27 (d := d_check_eight) (by rfl)
      have F := fun_ofD (st := s_check_eight) F0
      exact ⟨_, fd, F, He.glo_ok X G (d.fact 82 (f := .glo "check_eight") (by rfl)), (F.binds (ps := ["tree", "depth"]) fun _ _ _ _ _ _ us hl => match us, hl with | [_, _], _ => rfl)⟩
    check_line := by
      obtain ⟨fd, F0⟩ := d.def_ 28 (d := d_check_line) (by rfl)
      have F := fun_ofD (st := s_check_line) F0
      exact ⟨_, fd, F, He.glo_ok X G (d.fact 83 (f := .glo "check_line") (by rfl)), (F.binds (ps := ["numbers"]) fun _ _ _ _ _ _ us hl => match us, hl with | [_], _ => rfl)⟩
    check_power := by
      obtain ⟨fd, F0⟩ := d.def_ 29 (d := d_check_power) (by rfl)
      have F := fun_ofD (st := s_check_power) F0
      exact ⟨_, fd, F, He.glo_ok X G (d.fact 84 (f := .glo "check_power") (by rfl)), (F.binds (ps := ["tree", "depth"]) fun _ _ _ _ _ _ us hl => match us, hl with | [_, _], _ => rfl)⟩
    ring_of := by
      obtain ⟨fd, F0⟩ := d.def_ 30 (d := d_ring_of) (by rfl)
      have F := fun_ofD (st := s_ring_of) F0
      exact ⟨_, fd, F, He.glo_ok X G (d.fact 87 (f := .glo "ring_of") (by rfl)), (F.binds (ps := ["top", "square", "below", "most"]) fun _ _ _ _ _ _ us hl => match us, hl with | [_, _, _, _], _ => rfl)⟩
    read_round := by
      obtain ⟨fd, F0⟩ := d.def_ 31 (d := d_read_round) (by rfl)
      have F := fun_ofD (st := s_read_round) F0
      exact ⟨_, fd, F, He.glo_ok X G (d.fact 88 (f := .glo "read_round") (by rfl)), (F.binds (ps := ["chain", "most"]) fun _ _ _ _ _ _ us hl => match us, hl with | [_, _], _ => rfl)⟩
    FractionBox_init := by
      obtain ⟨fd, F0⟩ := d.def_ 32 (d := d_FractionBox_init) (by rfl)
      have F := fun_ofD (st := s_FractionBox_init) F0
      exact ⟨_, fd, F, He.mkr_ok (d.fact 91 (f := .mkr "FractionBox") (by rfl)), (F.binds (ps := ["self", "top", "below", "told"]) fun _ _ _ _ _ _ us hl => match us, hl with | [_, _, _, _], _ => rfl)⟩
    FractionBox_ask := by
      obtain ⟨fd, F0⟩ := d.def_ 33 (d := d_FractionBox_ask) (by rfl)
      have F := fun_ofD (st := s_FractionBox_ask) F0
      exact ⟨_, fd, F, He.meth_ok (d.fact 92 (f := .meth "FractionBox" "ask") (by rfl)), (F.binds (ps := ["self", "meter"]) fun _ _ _ _ _ _ us hl => match us, hl with | [_, _], _ => rfl)⟩
    FractionBox_nothing_left := by
      obtain ⟨fd, F0⟩ := d.def_ 34 (d := d_FractionBox_nothing_left) (by rfl)
      have F := fun_ofD (st := s_FractionBox_nothing_left) F0
      exact ⟨_, fd, F, He.meth_ok (d.fact 93 (f := .meth "FractionBox" "nothing_left") (by rfl)), (F.binds (ps := ["self"]) fun _ _ _ _ _ _ us hl => match us, hl with | [_], _ => rfl)⟩
    FourBox_init := by
      obtain ⟨fd, F0⟩ := d.def_ 35 (d := d_FourBox_init) (by rfl)
      have F := fun_ofD (st := s_FourBox_init) F0
      exact ⟨_, fd, F, He.mkr_ok (d.fact 99 (f := .mkr "FourBox") (by rfl)), (F.binds (ps := ["self", "numbers", "tree", "started", "told"]) fun _ _ _ _ _ _ us hl => match us, hl with | [_, _, _, _, _], _ => rfl)⟩
    FourBox_ask := by
      obtain ⟨fd, F0⟩ := d.def_ 36 (d := d_FourBox_ask) (by rfl)
      have F := fun_ofD (st := s_FourBox_ask) F0
      exact ⟨_, fd, F, He.meth_ok (d.fact 100 (f := .meth "FourBox" "ask") (by rfl)), (F.binds (ps := ["self", "meter"]) fun _ _ _ _ _ _ us hl => match us, hl with | [_, _], _ => rfl)⟩
    FourBox_tell := by
      obtain ⟨fd, F0⟩ := d.def_ 37 (d := d_FourBox_tell) (by rfl)
      have F := fun_ofD (st := s_FourBox_tell) F0
      exact ⟨_, fd, F, He.meth_ok (d.fact 101 (f := .meth "FourBox" "tell") (by rfl)), (F.binds (ps := ["self", "part"]) fun _ _ _ _ _ _ us hl => match us, hl with | [_, _], _ => rfl)⟩
    FourBox_take := by
      obtain ⟨fd, F0⟩ := d.def_ 38 (d := d_FourBox_take) (by rfl)
      have F := fun_ofD (st := s_FourBox_take) F0
      exact ⟨_, fd, F, He.meth_ok (d.fact 102 (f := .meth "FourBox" "take") (by rfl)), (F.binds (ps := ["self", "answer"]) fun _ _ _ _ _ _ us hl => match us, hl with | [_, _], _ => rfl)⟩
    EightBox_init := by
      obtain ⟨fd, F0⟩ := d.def_ 39 (d := d_EightBox_init) (by rfl)
      have F := fun_ofD (st := s_EightBox_init) F0
      exact ⟨_, fd, F, He.mkr_ok (d.fact 110 (f := .mkr "EightBox") (by rfl)), (F.binds (ps := ["self", "numbers", "one", "other"]) fun _ _ _ _ _ _ us hl => match us, hl with | [_, _, _, _], _ => rfl)⟩
    EightBox_ask := by
      obtain ⟨fd, F0⟩ := d.def_ 40 (d := d_EightBox_ask) (by rfl)
      have F := fun_ofD (st := s_EightBox_ask) F0
      exact ⟨_, fd, F, He.meth_ok (d.fact 111 (f := .meth "EightBox" "ask") (by rfl)), (F.binds (ps := ["self", "meter"]) fun _ _ _ _ _ _ us hl => match us, hl with | [_, _], _ => rfl)⟩
    EightBox_tell := by
      obtain ⟨fd, F0⟩ := d.def_ 41 (d := d_EightBox_tell) (by rfl)
      have F := fun_ofD (st := s_EightBox_tell) F0
      exact ⟨_, fd, F, He.meth_ok (d.fact 112 (f := .meth "EightBox" "tell") (by rfl)), (F.binds (ps := ["self", "part"]) fun _ _ _ _ _ _ us hl => match us, hl with | [_, _], _ => rfl)⟩
    EightBox_take := by
      obtain ⟨fd, F0⟩ := d.def_ 42 (d := d_EightBox_take) (by rfl)
      have F := fun_ofD (st := s_EightBox_take) F0
      exact ⟨_, fd, F, He.meth_ok (d.fact 113 (f := .meth "EightBox" "take") (by rfl)), (F.binds (ps := ["self", "which", "answer"]) fun _ _ _ _ _ _ us hl => match us, hl with | [_, _, _], _ => rfl)⟩
    EightBox_left_without := by
      obtain ⟨fd, F0⟩ := d.def_ 43 (d := d_EightBox_left_without) (by rfl)
      have F := fun_ofD (st := s_EightBox_left_without) F0
      exact ⟨_, fd, F, He.meth_ok (d.fact 114 (f := .meth "EightBox" "left_without") (by rfl)), (F.binds (ps := ["self", "which"]) fun _ _ _ _ _ _ us hl => match us, hl with | [_, _], _ => rfl)⟩
    box_of_one := by
      obtain ⟨fd, F0⟩ := d.def_ 44 (d := d_box_of_one) (by rfl)
      have F := fun_ofD (st := s_box_of_one) F0
      exact ⟨_, fd, F, He.glo_ok X G (d.fact 120 (f := .glo "box_of_one") (by rfl)), (F.binds (ps := ["numbers", "tree", "told"]) fun _ _ _ _ _ _ us hl => match us, hl with | [_, _, _], _ => rfl)⟩
    with_first_part := by
      obtain ⟨fd, F0⟩ := d.def_ 45 (d := d_with_first_part) (by rfl)
      have F := fun_ofD (st := s_with_first_part) F0
      exact ⟨_, fd, F, He.glo_ok X G (d.fact 121 (f := .glo "with_first_part") (by rfl)), (F.binds (ps := ["numbers", "part"]) fun _ _ _ _ _ _ us hl => match us, hl with | [_, _], _ => rfl)⟩
    with_second_part := by
      obtain ⟨fd, F0⟩ := d.def_ 46 (d := d_with_second_part) (by rfl)
      have F := fun_ofD (st := s_with_second_part) F0
      exact ⟨_, fd, F, He.glo_ok X G (d.fact 122 (f := .glo "with_second_part") (by rfl)), (F.binds (ps := ["numbers", "part"]) fun _ _ _ _ _ _ us hl => match us, hl with | [_, _], _ => rfl)⟩
    turned_over := by
      obtain ⟨fd, F0⟩ := d.def_ 47 (d := d_turned_over) (by rfl)
      have F := fun_ofD (st := s_turned_over) F0
      exact ⟨_, fd, F, He.glo_ok X G (d.fact 123 (f := .glo "turned_over") (by rfl)), (F.binds (ps := ["numbers", "part"]) fun _ _ _ _ _ _ us hl => match us, hl with | [_, _], _ => rfl)⟩
    four_corners := by
      obtain ⟨fd, F0⟩ := d.def_ 48 (d := d_four_corners) (by rfl)
      have F := fun_ofD (st := s_four_corners) F0
      exact ⟨_, fd, F, He.glo_ok X G (d.fact 124 (f := .glo "four_corners") (by rfl)), (F.binds (ps := ["numbers"]) fun _ _ _ _ _ _ us hl => match us, hl with | [_], _ => rfl)⟩
    eight_corners := by
      obtain ⟨fd, F0⟩ := d.def_ 49 (d := d_eight_corners) (by rfl)
      have F := fun_ofD (st := s_eight_corners) F0
      exact ⟨_, fd, F, He.glo_ok X G (d.fact 125 (f := .glo "eight_corners") (by rfl)), (F.binds (ps := ["numbers"]) fun _ _ _ _ _ _ us hl => match us, hl with | [_], _ => rfl)⟩
    sure_part := by
      obtain ⟨fd, F0⟩ := d.def_ 50 (d := d_sure_part) (by rfl)
      have F := fun_ofD (st := s_sure_part) F0
      exact ⟨_, fd, F, He.glo_ok X G (d.fact 126 (f := .glo "sure_part") (by rfl)), (F.binds (ps := ["corners"]) fun _ _ _ _ _ _ us hl => match us, hl with | [_], _ => rfl)⟩
    Reading_init := by
      obtain ⟨fd, F0⟩ := d.def_ 51 (d := d_Reading_init) (by rfl)
      have F := fun_ofD (st := s_Reading_init) F0
      exact ⟨_, fd, F, He.mkr_ok (d.fact 130 (f := .mkr "Reading") (by rfl)), (F.binds (ps := ["self", "box"]) fun _ _ _ _ _ _ us hl => match us, hl with | [_, _], _ => rfl)⟩
    Reading_part := by
      obtain ⟨fd, F0⟩ := d.def_ 52 (d := d_Reading_part) (by rfl)
      have F := fun_ofD (st := s_Reading_part) F0
      exact ⟨_, fd, F, He.meth_ok (d.fact 131 (f := .meth "Reading" "part") (by rfl)), (F.binds (ps := ["self", "most"]) fun _ _ _ _ _ _ us hl => match us, hl with | [_, _], _ => rfl)⟩
    Reading_took := by
      obtain ⟨fd, F0⟩ := d.def_ 53 (d := d_Reading_took) (by rfl)
      have F := fun_ofD (st := s_Reading_took) F0
      exact ⟨_, fd, F, He.meth_ok (d.fact 132 (f := .meth "Reading" "took") (by rfl)), (F.binds (ps := ["self"]) fun _ _ _ _ _ _ us hl => match us, hl with | [_], _ => rfl)⟩
    reader := by
      obtain ⟨fd, F0⟩ := d.def_ 54 (d := d_reader) (by rfl)
      have F := fun_ofD (st := s_reader) F0
      exact ⟨_, fd, F, He.glo_ok X G (d.fact 135 (f := .glo "reader") (by rfl)), (F.binds (ps := ["tree"]) fun _ _ _ _ _ _ us hl => match us, hl with | [_], _ => rfl)⟩
    box_of := by
      obtain ⟨fd, F0⟩ := d.def_ 55 (d := d_box_of) (by rfl)
      have F := fun_ofD (st := s_box_of) F0
      exact ⟨_, fd, F, He.glo_ok X G (d.fact 136 (f := .glo "box_of") (by rfl)), (F.binds (ps := ["tree"]) fun _ _ _ _ _ _ us hl => match us, hl with | [_], _ => rfl)⟩
    power_box := by
      obtain ⟨fd, F0⟩ := d.def_ 56 (d := d_power_box) (by rfl)
      have F := fun_ofD (st := s_power_box) F0
      exact ⟨_, fd, F, He.glo_ok X G (d.fact 137 (f := .glo "power_box") (by rfl)), (F.binds (ps := ["tree", "times"]) fun _ _ _ _ _ _ us hl => match us, hl with | [_, _], _ => rfl)⟩
    first_parts := by
      obtain ⟨fd, F0⟩ := d.def_ 57 (d := d_first_parts) (by rfl)
      have F := fun_ofD (st := s_first_parts) F0
      exact ⟨_, fd, F, He.glo_ok X G (d.fact 138 (f := .glo "first_parts") (by rfl)), (F.binds (ps := ["tree", "many", "most"]) fun _ _ _ _ _ _ us hl => match us, hl with | [_, _, _], _ => rfl)⟩
    law_row := by
      obtain ⟨fd, F0⟩ := d.def_ 58 (d := d_law_row) (by rfl)
      have F := fun_ofD (st := s_law_row) F0
      exact ⟨_, fd, F, He.glo_ok X G (d.fact 139 (f := .glo "_law_row") (by rfl)), (F.binds (ps := ["_law_script"]) fun _ _ _ _ _ _ us hl => match us, hl with | [_], _ => rfl)⟩
    law_taken := by
      obtain ⟨fd, F0⟩ := d.def_ 59 (d := d_law_taken) (by rfl)
      have F := fun_ofD (st := s_law_taken) F0
      exact ⟨_, fd, F, He.glo_ok X G (d.fact 140 (f := .glo "_law_taken") (by rfl)), (F.binds (ps := ["_law_row_here", "_law_many"]) fun _ _ _ _ _ _ us hl => match us, hl with | [_, _], _ => rfl)⟩
    law_whole := by
      obtain ⟨fd, F0⟩ := d.def_ 60 (d := d_law_whole) (by rfl)
      have F := fun_ofD (st := s_law_whole) F0
      exact ⟨_, fd, F, He.glo_ok X G (d.fact 141 (f := .glo "_law_whole") (by rfl)), (F.binds (ps := ["_law_found"]) fun _ _ _ _ _ _ us hl => match us, hl with | [_], _ => rfl)⟩
    law_list := by
      obtain ⟨fd, F0⟩ := d.def_ 61 (d := d_law_list) (by rfl)
      have F := fun_ofD (st := s_law_list) F0
      exact ⟨_, fd, F, He.glo_ok X G (d.fact 142 (f := .glo "_law_list") (by rfl)), (F.binds (ps := ["_law_found", "_law_due"]) fun _ _ _ _ _ _ us hl => match us, hl with | [_, _], _ => rfl)⟩
    law_signed := by
      obtain ⟨fd, F0⟩ := d.def_ 62 (d := d_law_signed) (by rfl)
      have F := fun_ofD (st := s_law_signed) F0
      exact ⟨_, fd, F, He.glo_ok X G (d.fact 143 (f := .glo "_law_signed") (by rfl)), (F.binds (ps := ["_law_row_here", "_law_most"]) fun _ _ _ _ _ _ us hl => match us, hl with | [_, _], _ => rfl)⟩
    law_root := by
      obtain ⟨fd, F0⟩ := d.def_ 63 (d := d_law_root) (by rfl)
      have F := fun_ofD (st := s_law_root) F0
      exact ⟨_, fd, F, He.glo_ok X G (d.fact 144 (f := .glo "_law_root") (by rfl)), (F.binds (ps := ["_law_number"]) fun _ _ _ _ _ _ us hl => match us, hl with | [_], _ => rfl)⟩
    law_common := by
      obtain ⟨fd, F0⟩ := d.def_ 64 (d := d_law_common) (by rfl)
      have F := fun_ofD (st := s_law_common) F0
      exact ⟨_, fd, F, He.glo_ok X G (d.fact 145 (f := .glo "_law_common") (by rfl)), (F.binds (ps := ["_law_one", "_law_other"]) fun _ _ _ _ _ _ us hl => match us, hl with | [_, _], _ => rfl)⟩
    law_lowest := by
      obtain ⟨fd, F0⟩ := d.def_ 65 (d := d_law_lowest) (by rfl)
      have F := fun_ofD (st := s_law_lowest) F0
      exact ⟨_, fd, F, He.glo_ok X G (d.fact 146 (f := .glo "_law_lowest") (by rfl)), (F.binds (ps := ["_law_top", "_law_below_here"]) fun _ _ _ _ _ _ us hl => match us, hl with | [_, _], _ => rfl)⟩
    law_made := by
      obtain ⟨fd, F0⟩ := d.def_ 66 (d := d_law_made) (by rfl)
      have F := fun_ofD (st := s_law_made) F0
      exact ⟨_, fd, F, He.glo_ok X G (d.fact 147 (f := .glo "_law_made") (by rfl)), (F.binds (ps := ["_law_a", "_law_b", "_law_c"]) fun _ _ _ _ _ _ us hl => match us, hl with | [_, _, _], _ => rfl)⟩
    law_sum := by
      obtain ⟨fd, F0⟩ := d.def_ 67 (d := d_law_sum) (by rfl)
      have F := fun_ofD (st := s_law_sum) F0
      exact ⟨_, fd, F, He.glo_ok X G (d.fact 148 (f := .glo "_law_sum") (by rfl)), (F.binds (ps := ["_law_one", "_law_other", "_law_by"]) fun _ _ _ _ _ _ us hl => match us, hl with | [_, _, _], _ => rfl)⟩
    law_product := by
      obtain ⟨fd, F0⟩ := d.def_ 68 (d := d_law_product) (by rfl)
      have F := fun_ofD (st := s_law_product) F0
      exact ⟨_, fd, F, He.glo_ok X G (d.fact 149 (f := .glo "_law_product") (by rfl)), (F.binds (ps := ["_law_one", "_law_other", "_law_d"]) fun _ _ _ _ _ _ us hl => match us, hl with | [_, _, _], _ => rfl)⟩
    law_quotient := by
      obtain ⟨fd, F0⟩ := d.def_ 69 (d := d_law_quotient) (by rfl)
      have F := fun_ofD (st := s_law_quotient) F0
      exact ⟨_, fd, F, He.glo_ok X G (d.fact 150 (f := .glo "_law_quotient") (by rfl)), (F.binds (ps := ["_law_one", "_law_other", "_law_d"]) fun _ _ _ _ _ _ us hl => match us, hl with | [_, _, _], _ => rfl)⟩
    law_below := by
      obtain ⟨fd, F0⟩ := d.def_ 70 (d := d_law_below) (by rfl)
      have F := fun_ofD (st := s_law_below) F0
      exact ⟨_, fd, F, He.glo_ok X G (d.fact 151 (f := .glo "_law_below") (by rfl)), (F.binds (ps := ["_law_one", "_law_d"]) fun _ _ _ _ _ _ us hl => match us, hl with | [_, _], _ => rfl)⟩
    law_parts := by
      obtain ⟨fd, F0⟩ := d.def_ 71 (d := d_law_parts) (by rfl)
      have F := fun_ofD (st := s_law_parts) F0
      exact ⟨_, fd, F, He.glo_ok X G (d.fact 152 (f := .glo "_law_parts") (by rfl)), (F.binds (ps := ["_law_one", "_law_d", "_law_many"]) fun _ _ _ _ _ _ us hl => match us, hl with | [_, _, _], _ => rfl)⟩
    law_ring := by
      obtain ⟨fd, F0⟩ := d.def_ 72 (d := d_law_ring) (by rfl)
      have F := fun_ofD (st := s_law_ring) F0
      exact ⟨_, fd, F, He.glo_ok X G (d.fact 153 (f := .glo "_law_ring") (by rfl)), (F.binds (ps := ["_law_one", "_law_d"]) fun _ _ _ _ _ _ us hl => match us, hl with | [_, _], _ => rfl)⟩
    law_why := by
      obtain ⟨fd, F0⟩ := d.def_ 73 (d := d_law_why) (by rfl)
      have F := fun_ofD (st := s_law_why) F0
      exact ⟨_, fd, F, He.glo_ok X G (d.fact 154 (f := .glo "_law_why") (by rfl)), (F.binds (ps := ["_law_top", "_law_d", "_law_below_here", "_law_most"]) fun _ _ _ _ _ _ us hl => match us, hl with | [_, _, _, _], _ => rfl)⟩
    law := by
      obtain ⟨fd, F0⟩ := d.def_ 74 (d := d_law) (by rfl)
      have F := fun_ofD (st := s_law) F0
      exact ⟨_, fd, F, He.glo_ok X G (d.fact 155 (f := .glo "law") (by rfl)), (F.binds (ps := ["_law_script"]) fun _ _ _ _ _ _ us hl => match us, hl with | [_], _ => rfl)⟩ }
theorem facts {P : Program} {fa : Addr} (X : K.In h) (G : h.Ns mainGlobals mg) (hfa : mg "law" = some (.ref fa)) (c : He.SaysX faL fnL tsL [] exL w h K) :
    ∃ fd : FuncData, (∀ (s : Shared) (v : Value), BindsTo s fd ⟨[v], []⟩ [("_law_script", v)]) ∧ ∀ base : Heap, K.In base → base.Ns mainGlobals mg → FnOk P w K mg base CX0 10 fa fd ["_law_script"] (sp_law K) := by
  have T := ct_of X G c
  have TT := tb_of X G c
  have D := dt_of X G c
  have XE := xet_of X G c
  obtain ⟨fd0, F0⟩ := c.t.d.def_ 74 (d := d_law) (by rfl)
  have e := hfa.symm.trans (He.glo_ok X G (c.t.d.fact 155 (f := .glo "law") (by rfl)))
  cases e
  refine ⟨fd0, fun s v => ?_, fun base _ _ => ?_⟩
  · exact (FunD.bindsA (ps := ["_law_script"]) F0 fun _ _ _ _ _ _ us hl => match us, hl with | [_], _ => rfl) s [v] rfl
  · exact ok_law T TT XE D (fun_ofD (st := s_law) F0)
end
end Cp
open PySem PySem.W PySem.Calls PyProof.Rows
set_option maxRecDepth 100000 in
set_option maxHeartbeats 0 in
theorem PySem.Challenge.cw_chainparts_k06_rings_come_again_holds : PySem.Challenge.rw_chainparts_k06_rings_come_again.Holds := by
  w_on; o_law
  refine HandSHeadRun.head_any (r := OpenLaw.row PySem.Challenge.rw_chainparts_k06_rings_come_again) (q := view (OpenLaw.row PySem.Challenge.rw_chainparts_k06_rings_come_again).prog [74]) (H := Cp.hk) (ob := Cp.ob) (M := 7500) (loose := Cp.looseL) (d := HandSHeadRun.topDef (OpenLaw.row PySem.Challenge.rw_chainparts_k06_rings_come_again).prog 74) (kwd := []) Cp.ob_eq
    (by kernel_rfl) (fun s => by kernel_rfl) Cp.run (by kernel_rfl) (by kernel_rfl) (by kernel_rfl) (by rfl) (by first | assumption | decide +kernel) (by decide +kernel) ⟨rfl, rfl, rfl, rfl, rfl, by decide +kernel⟩ ?hw ?hc
  case hw => w_witness2
  case hc =>
    refine L2.walk_ofE (l := PySem.Challenge.rw_chainparts_k06_rings_come_again) (n := 63) (k := 10) (x := "_law_script") (CX := L2.CX0) rfl (by decide) (by kernel_rfl) ⟨rfl, by decide, by decide⟩ ?F (fun _ _ _ _ z => z)
    intro w mg fa h Y G hmg0
    obtain ⟨K, KX, c⟩ := Y
    have hmg : mg ("law" : PySem.Str) = some (.ref fa) := by
      have e : (HandSHeadRun.topDef (OpenLaw.row PySem.Challenge.rw_chainparts_k06_rings_come_again).prog 74).name = ("law" : PySem.Str) := by kernel_rfl
      rw [← e]
      exact hmg0
    obtain ⟨fd, hb, hF⟩ := Cp.facts (P := (PySem.Challenge.rw_chainparts_k06_rings_come_again).prog) (w := w) KX G hmg c
    exact ⟨K, fd, Cp.sp_law K, KX, hb, fun H a ns hl hO hS => ⟨a, ns, rfl, Cp.ScrAt.of hO hS, hl, fun _ => rfl⟩, hF⟩
