import PyProof.Rows.All
import Wide.All
import OpenK.AllK
import Wide.FinOn
import HandS.ForMost
import HandS.Style
import KE.KRevSl
import KE.KEqSeq
import HandS.Wide
import HandS.WideBits
import HandS.IsInst
import HandS.Codes
import HandS.More
import HandS.CallLocal
import HandS.TupAny
import HandS.Zip
import HandS.ForExc
import HandS.ExcIs
import PySem.Challenge.RW_chainparts_k03_parts_put_together
set_option Elab.async false
set_option linter.all false
set_option maxRecDepth 100000
set_option maxHeartbeats 4000000
namespace Cp
open PySem L2
def topS (i : Nat) : Stmt := PySem.Challenge.pw_chainparts_k03_parts_put_together.main.body.getD i (.Pass ⟨0, 0, 0, 0⟩)
abbrev s_put_together : Stmt := topS 1
theorem sc_put_together : FnScope ["parts", "top", "below", "part"] ["parts"] (defScope s_put_together) := ⟨rfl, rfl, rfl, by decide +kernel, rfl, by decide +kernel, by decide +kernel⟩
abbrev s_law_row : Stmt := topS 3
theorem sc_law_row : FnScope ["_law_script", "_law_mixed", "_law_cell"] ["_law_script"] (defScope s_law_row) := ⟨rfl, rfl, rfl, by decide +kernel, rfl, by decide +kernel, by decide +kernel⟩
abbrev s_law_taken : Stmt := topS 4
theorem sc_law_taken : FnScope ["_law_row_here", "_law_many", "_law_found", "_law_cell"] ["_law_row_here", "_law_many"] (defScope s_law_taken) := ⟨rfl, rfl, rfl, by decide +kernel, rfl, by decide +kernel, by decide +kernel⟩
abbrev s_law_whole : Stmt := topS 5
theorem sc_law_whole : FnScope ["_law_found"] ["_law_found"] (defScope s_law_whole) := ⟨rfl, rfl, rfl, by decide +kernel, rfl, by decide +kernel, by decide +kernel⟩
abbrev s_law_pair : Stmt := topS 6
theorem sc_law_pair : FnScope ["_law_found", "_law_due"] ["_law_found", "_law_due"] (defScope s_law_pair) := ⟨rfl, rfl, rfl, by decide +kernel, rfl, by decide +kernel, by decide +kernel⟩
abbrev s_law_signed : Stmt := topS 7
theorem sc_law_signed : FnScope ["_law_row_here", "_law_most"] ["_law_row_here", "_law_most"] (defScope s_law_signed) := ⟨rfl, rfl, rfl, by decide +kernel, rfl, by decide +kernel, by decide +kernel⟩
abbrev s_law_common : Stmt := topS 8
theorem sc_law_common : FnScope ["_law_one", "_law_other"] ["_law_one", "_law_other"] (defScope s_law_common) := ⟨rfl, rfl, rfl, by decide +kernel, rfl, by decide +kernel, by decide +kernel⟩
abbrev s_law_lowest : Stmt := topS 9
theorem sc_law_lowest : FnScope ["_law_top", "_law_below", "_law_part"] ["_law_top", "_law_below"] (defScope s_law_lowest) := ⟨rfl, rfl, rfl, by decide +kernel, rfl, by decide +kernel, by decide +kernel⟩
abbrev s_law_chain : Stmt := topS 10
theorem sc_law_chain : FnScope ["_law_top", "_law_below", "_law_found", "_law_part"] ["_law_top", "_law_below"] (defScope s_law_chain) := ⟨rfl, rfl, rfl, by decide +kernel, rfl, by decide +kernel, by decide +kernel⟩
abbrev s_law_folded : Stmt := topS 11
theorem sc_law_folded : FnScope ["_law_parts", "_law_top", "_law_below", "_law_k", "_law_part"] ["_law_parts"] (defScope s_law_folded) := ⟨rfl, rfl, rfl, by decide +kernel, rfl, by decide +kernel, by decide +kernel⟩
abbrev s_law : Stmt := topS 12
theorem sc_law : FnScope ["_law_script", "_law_row_here", "_law_most", "_law_parts", "_law_k", "_law_handed", "_law_due", "_law_top", "_law_below"] ["_law_script"] (defScope s_law) := ⟨rfl, rfl, rfl, by decide +kernel, rfl, by decide +kernel, by decide +kernel⟩
/-! ### calls of defs, in short -/
/-- the def x of the text stands at f, no one else bears its name -/
structure DefAt (K : PySem.W.Frag) (mg : Str → Option Value) (x : Str) (st : Stmt) (ps : List Str) (f : Addr) (fd : FuncData) : Prop where
  fn : Fun K x x st f fd
  mgx : mg x = some (.ref f)
  bd : Binds K fd ps []
/-- the def x keeps the promise sp, at level k -/
def COk (P : Program) (w : World) (K : PySem.W.Frag) (mg : Str → Option Value) (base : Heap) (CX : CXT) (k : Nat) (x : Str) (ps : List Str) (sp : Sp) : Prop :=
  ∃ (f : Addr) (fd : FuncData), FnOk P w K mg base CX k f fd ps sp ∧ mg x = some (.ref f) ∧ PySem.W.keepIn K (.ref f) = true ∧ Binds K fd ps []
theorem COk.of {P : Program} {w : World} {K : PySem.W.Frag} {mg : Str → Option Value} {base : Heap} {CX : CXT} {k : Nat} {x : Str} {st : Stmt} {ps : List Str} {sp : Sp} {f : Addr} {fd : FuncData}
    (D : DefAt K mg x st ps f fd) (h : FnOk P w K mg base CX k f fd ps sp) : COk P w K mg base CX k x ps sp := ⟨f, fd, h, D.mgx, D.fn.kp, D.bd⟩
theorem COk.mono {P : Program} {w : World} {K : PySem.W.Frag} {mg : Str → Option Value} {base : Heap} {CX : CXT} {k j : Nat} {x : Str} {ps : List Str} {sp : Sp}
    (h : COk P w K mg base CX k x ps sp) (hk : k ≤ j) : COk P w K mg base CX j x ps sp := by
  obtain ⟨f, fd, F, a, b, c⟩ := h
  exact ⟨f, fd, F.mono hk, a, b, c⟩
section
variable {X : Cx} {k : Nat} {x : Str} {ps : List Str} {sp : Sp} {e : Expr} {es : List Expr} {t : TA} {p pos : Pos}
theorem pe_c (C : COk X.prog X.w X.K X.mg X.base CX0 k x ps sp) (hr : Room k X.A) (ha : PA X (e :: es) t) (hg : Gl X x := by rfl)
    (hdb : (x == ("__debug__" : Str)) = false := by decide) (he : starEach (e :: es) X.env = (false, eval e X.env) :: starEach es X.env := by rfl) (hpl : (backTo pos (starEach es X.env)).any (·.1) = false := by rfl) :
    PE X (.Call (.Name x p) (e :: es) [] pos) (tCall sp [] E0 t) := by
  obtain ⟨f, fd, F, a, b, c⟩ := C
  exact pe_call F hr hg a b c .nil pass0 ha hdb he hpl
/-- one of two readings -/
theorem pe_alt {e : Expr} {t u : TE} (h : PE X e t) (h' : PE X e u) : PE X e (fun σ H Q => t σ H Q ∨ u σ H Q) :=
  ⟨fun pins s σ H Q I q => q.elim (h.run pins s σ H Q I) (h'.run pins s σ H Q I)⟩
/-- // by any divisor but nought -/
def CDivS (_ j : Int) : Prop := j ≠ 0 ∧ j.natAbs < 2 ^ 8000
theorem op_fdivS : OpR X (binaryOp .FloorDiv) (rI CDivS fun i j => .int (i.fdiv j)) := opI fun _ _ _ _ _ _ _ hc q =>
  PyProof.Rows.floordiv_int hc.1 q (.inl (PyProof.noPylong_of_log2 (Nat.lt_of_lt_of_le (PySem.Flt.log2_lt_of (k := 8000) (by decide) hc.2) (by decide))))
/-- ** of great ints -/
def CPowW (i j : Int) : Prop := 0 ≤ j ∧ (Builtin.Int.intBits i : Int) * j ≤ 2 ^ 27
/-- a written power -/
theorem pe_powc {a n v : Int} {j j' : Nat} {p p' pos : Pos} (h : a ^ n.toNat = v) (hc : CPow a n) : PE X (.BinOp (.Constant (.int a) j p) .Pow (.Constant (.int n) j' p') pos) (tC (.int v)) := by
  refine ⟨fun pins s σ H Q I q => ?_⟩
  have q' : Q (.int (a ^ n.toNat)) H := by rw [h]; exact q
  exact (pe_op op_pow pe_int pe_int).run pins s σ H Q I ⟨a, n, rfl, rfl, hc, q'⟩
/-- x ** 2 -/
def CSq (i : Int) : Prop := (Builtin.Int.intBits i : Int) * 2 ≤ 2 ^ 27
theorem op_sq : OpR X (binaryOp .Pow) (fun x y H Q => ∃ i, x = .int i ∧ y = .int 2 ∧ CSq i ∧ Q (.int (i * i)) H) := by
  intro pins s σ H x y v u Q I rx ry h
  obtain ⟨i, rfl, rfl, hc, q⟩ := h
  have e : i ^ (2 : Int).toNat = i * i := by
    show i ^ 2 = i * i
    grind
  exact (opI fun _ _ _ _ _ _ _ hc q => PyProof.Rows.pow_int hc.1 hc.2 q : OpR X (binaryOp .Pow) (rI CPowW fun i j => .int (i ^ j.toNat))) pins s σ H _ _ v u Q I rx ry ⟨i, 2, rfl, rfl, ⟨by decide, hc⟩, by show Q (.int (i ^ (2 : Int).toNat)) H; rw [e]; exact q⟩
theorem op_powW : OpR X (binaryOp .Pow) (rI CPowW fun i j => .int (i ^ j.toNat)) := opI fun _ _ _ _ _ _ _ hc q => PyProof.Rows.pow_int hc.1 hc.2 q
end
theorem same_upd {H : Hp} {p : Addr} {o : HO} (h : H p = none) : Same H (upd H p o) := fun b x e => by
  rw [upd_ne (ne_of_none e h)]
  exact e
theorem defAt_mk {K : PySem.W.Frag} {mg : Str → Option Value} {h : Heap} {x : Str} {st : Stmt} {ps : List Str} {f : Addr} {oc : Value} {od an : Option Addr} {osl : Array (Option Value)} {kV doc pm cdv ct : Value}
    (X : K.In h) (G : h.Ns mainGlobals mg) (a : PySem.W.nsIn K mainGlobals x = some (some (.ref f)))
    (l : K.lookup f = some ⟨oc, od, .func (PySem.W.fnOf x x (defArgs st) (defBody st) (defScope st) .none kV doc pm an cdv ct), osl⟩) (c : PySem.W.codeIn K cdv x = true) (k : PySem.W.keepIn K (.ref f) = true)
    (hb : ∀ (kV doc pm : Value) (an : Option Addr) (cdv ct : Value) (us : List Value), us.length = ps.length → bindArgs (PySem.W.fnOf x x (defArgs st) (defBody st) (defScope st) .none kV doc pm an cdv ct) ⟨us, []⟩ = pure (ps.zip us)) :
    DefAt K mg x st ps f (PySem.W.fnOf x x (defArgs st) (defBody st) (defScope st) .none kV doc pm an cdv ct) :=
  ⟨fun_mk l c k, PySem.W.mg_of X G a, (fun_mk (st := st) l c k).binds hb⟩
/-- the built-ins' names are still their own -/
structure BT (mg : Str → Option Value) : Prop where
  b_len : mg "len" = none
  b_isinstance : mg "isinstance" = none
  b_range : mg "range" = none
  b_zip : mg "zip" = none
  b_abs : mg "abs" = none
  b_divmod : mg "divmod" = none
  b_min : mg "min" = none
  b_all : mg "all" = none
  b_any : mg "any" = none
  b_list : mg "list" = none
  b_tuple : mg "tuple" = none
  b_str : mg "str" = none
  b_int : mg "int" = none
  b_bool : mg "bool" = none
/-! ### what the laws' own helpers do: a row of numbers is drawn from the script -/
/-- the script at a: known, never written -/
def ScrAt (K : PySem.W.Frag) (H : Hp) (a : Addr) (ns : List Int) : Prop := (∃ o, H a = some (.frz o (.lst (ns.map V.int)))) ∨ ∀ H', SqL K H' a (ns.map V.int)
theorem ScrAt.seq {K : PySem.W.Frag} {H : Hp} {a : Addr} {ns : List Int} (h : ScrAt K H a ns) : SqL K H a (ns.map V.int) := by
  rcases h with ⟨o, h⟩ | h
  · exact .inl (.inr ⟨o, h⟩)
  · exact h H
theorem ScrAt.of {K : PySem.W.Frag} {H : Hp} {a : Addr} {ns : List Int} (hO : Only H) (h : SqL K H a (ns.map V.int)) : ScrAt K H a ns := by
  rcases h with (h | ⟨o, h⟩) | h
  · rcases hO a with z | ⟨o, xs, z⟩
    · rw [z] at h; cases h
    · rw [z] at h; cases h
  · exact .inl ⟨o, h⟩
  · exact .inr fun _ => .inr h
theorem ScrAt.same {K : PySem.W.Frag} {H H' : Hp} {a : Addr} {ns : List Int} (h : ScrAt K H a ns) (s : Same H H') : ScrAt K H' a ns := by
  rcases h with ⟨o, h⟩ | h
  · exact .inl ⟨o, s _ _ h⟩
  · exact .inr h
/-- what is no locked thing may be written -/
theorem ScrAt.but {K : PySem.W.Frag} {H H' : Hp} {a r : Addr} {ns : List Int} (h : ScrAt K H a ns) (hr : ∀ o u, H r ≠ some (.frz o u)) (k : ∀ b o, H b = some o → b ≠ r → H' b = some o) : ScrAt K H' a ns := by
  rcases h with ⟨o, h⟩ | h
  · exact .inl ⟨o, k _ _ h fun z => by rw [z] at h; exact hr _ _ h⟩
  · exact .inr h
theorem no_frz {H : Hp} {r : Addr} {xs : List V} (h : H r = some (.lst xs)) : ∀ o u, H r ≠ some (.frz o u) := fun o u z => by rw [h] at z; cases z
/-- the row at r: the script at a (ns), a place in it, what is left of a great number, a mixed number -/
structure RowAt (K : PySem.W.Frag) (H : Hp) (r a : Addr) (ns : List Int) : Prop where
  row : ∃ (i : Nat) (left mixed : Int), H r = some (.lst [.ref a, .int i, .int left, .int mixed]) ∧ i ≤ ns.length ∧ 0 ≤ left ∧ 0 ≤ mixed ∧ mixed < 2147483647
  scr : ScrAt K H a ns
theorem ref_ne {a : Addr} {xs : List V} (ns : List Int) : V.ref a :: xs ≠ ns.map V.int := by
  cases ns with
  | nil => intro z; cases z
  | cons n r => intro z; rw [List.map_cons] at z; cases (List.cons.inj z).1
theorem RowAt.same {K : PySem.W.Frag} {H H' : Hp} {r a : Addr} {ns : List Int} (R : RowAt K H r a ns) (s : Same H H') : RowAt K H' r a ns := by
  obtain ⟨⟨i, l, m, e, z⟩, hS⟩ := R
  exact ⟨⟨i, l, m, s _ _ e, z⟩, hS.same s⟩
/-- a list other than the row is written -/
theorem RowAt.put {K : PySem.W.Frag} {H : Hp} {r a d : Addr} {ns : List Int} {xs ys : List V} (R : RowAt K H r a ns) (hd : H d = some (.lst xs)) (ne : d ≠ r) : RowAt K (upd H d (.lst ys)) r a ns := by
  obtain ⟨⟨i, l, m, e, z⟩, hS⟩ := R
  exact ⟨⟨i, l, m, by rw [upd_ne ne.symm]; exact e, z⟩, hS.but (no_frz hd) fun b o h hb => by rw [upd_ne hb]; exact h⟩
theorem RowAt.at_ {K : PySem.W.Frag} {H : Hp} {r a : Addr} {ns : List Int} (R : RowAt K H r a ns) : ∃ x xs, H r = some (.lst (.ref x :: xs)) := by
  obtain ⟨⟨i, l, m, e, z⟩, hS⟩ := R
  exact ⟨_, _, e⟩
def sp_law_row (K : PySem.W.Frag) : Sp := fun vs H Q _ => ∃ (a : Addr) (ns : List Int), vs = [.ref a] ∧ ScrAt K H a ns ∧ ns.length ≤ 63 ∧
  ∀ r H', H r = none → Same H H' → RowAt K H' r a ns → Q (.ref r) H'
/-- a drawn number: any one below many; only the row's list changes -/
def sp_law_taken (K : PySem.W.Frag) : Sp := fun vs H Q _ => ∃ (r a : Addr) (ns : List Int) (many : Int), vs = [.ref r, .int many] ∧ RowAt K H r a ns ∧ 0 < many ∧ many < 2 ^ 8000 ∧
  ∀ v H', 0 ≤ v → v < many → RowAt K H' r a ns → (∀ b o, H b = some o → b ≠ r → H' b = some o) → Q (.int v) H'
section
variable {P : Program} {w : World} {K : PySem.W.Frag} {mg : Str → Option Value} {base : Heap}
theorem ok_law_row {f : Addr} {fd : FuncData} (F : Fun K "_law_row" "_law_row" s_law_row f fd) : FnOk P w K mg base CX0 1 f fd ["_law_script"] (sp_law_row K) := by
  refine F.ok sc_law_row (fun vs H Q E h => ?_) (fun cdv A outer s H vs Q E hr h => ?_)
  · obtain ⟨a, ns, rfl, _⟩ := h
    rfl
  · obtain ⟨a, ns, rfl, hC, hlen, k⟩ := h
    have hS := hC.seq
    refine ⟨_, (pss_cons (ps_set (i := 1) sc_law_row.nd rfl (Or.inl rfl) pe_int)
    (pss_cons (ps_for PassesOwn.never rfl (pi_list (pv 0)) (pg_name (i := 2) sc_law_row.nd rfl (Or.inl rfl))
      (pss_one (ps_set (i := 1) sc_law_row.nd rfl (Or.inl rfl) (pe_op op_mod (pe_op op_add (pe_op op_add (pe_op op_mul (pv 1) pe_int) (pv 2)) pe_int) pe_int))))
    (pss_one (ps_ret (pe_lst (pa_cons (pv 0) (pa_cons pe_int (pa_cons pe_int (pa_cons (pv 1) pa_nil))))))))), ?_⟩
    refine ⟨_, rfl, a, rfl, ⟨_, hS⟩, for_list (K := K) (a := a) (xs := ns.map V.int) (fun i σ H2 => ∃ (m : Int) (v : Option V), σ = [some (.ref a), some (.int m), v] ∧ 0 ≤ m ∧ m < 2147483647 ∧ H2 = H)
      ⟨7, none, rfl, by decide, by decide, rfl⟩ (fun i σ H2 _ ⟨_, _, _, _, _, e⟩ => by rw [e]; exact hS) ?_ ?_⟩
    · rintro i y σ H2 hi ⟨m, v, rfl, h0, h1, rfl⟩
      obtain ⟨z, rfl⟩ : ∃ z, y = V.int z := by
        rw [List.getElem?_map] at hi
        cases e : ns[i]? with
        | none => rw [e] at hi; cases hi
        | some z => rw [e] at hi; exact ⟨z, (Option.some.inj hi).symm⟩
      refine ⟨_, rfl, _, _, rfl, rfl, .inl ⟨by omega, by omega⟩, _, rfl, _, _, rfl, rfl, _, _, rfl, rfl, _, _, rfl, rfl, (by show (0 : Int) < 2147483647; decide), ?_⟩
      exact ⟨_, _, rfl, Int.emod_nonneg _ (by decide), Int.emod_lt_of_pos _ (by decide), rfl⟩
    · rintro σ H2 ⟨m, v, rfl, h0, h1, rfl⟩
      refine ⟨_, rfl, _, rfl, (by show 4 ≤ sizeLine; decide), fun p hp => ?_⟩
      exact k p _ hp (same_upd hp) ⟨⟨0, 0, m, upd_same, Nat.zero_le _, by decide, h0, h1⟩, hC.same (same_upd hp)⟩
theorem natAbs_lt_pow {z : Int} {n : Nat} (h0 : 0 ≤ z) (h : z < 2 ^ n) : z.natAbs < 2 ^ n := by
  have e : ((2 ^ n : Nat) : Int) = 2 ^ n := by norm_cast
  omega
theorem ok_law_taken {f : Addr} {fd : FuncData} (F : Fun K "_law_taken" "_law_taken" s_law_taken f fd) (T : BT mg) : FnOk P w K mg base CX0 1 f fd ["_law_row_here", "_law_many"] (sp_law_taken K) := by
  refine F.ok sc_law_taken (fun vs H Q E h => ?_) (fun cdv A outer s H vs Q E hr h => ?_)
  · obtain ⟨r, a, ns, many, rfl, _⟩ := h
    rfl
  · obtain ⟨r, a, ns, many, rfl, ⟨⟨i, left, mixed, hr0, hi, hl, hm0, hm1⟩, hC⟩, hm, hmw, k⟩ := h
    have hS := hC.seq
    have mw : ∀ z, CDivW z many := fun z => wide_div (b := 8000) hm (natAbs_lt_pow (Int.le_of_lt hm) hmw) (by decide) (by decide)
    have nra : ∀ o, ScrAt K (upd H r o) a ns := fun o => hC.but (no_frz hr0) fun b z e hb => by rw [upd_ne hb]; exact e
    have kp : ∀ o b z, H b = some z → b ≠ r → (upd H r o) b = some z := fun o b z e hb => by rw [upd_ne hb]; exact e
    refine ⟨_, (pss_cons (ps_if (pt_cmpR op_gt (pe_ix ix_list (pv 0) pe_int (fun _ _ => rfl)) pe_int (nomark _))
      (pss_cons (ps_set (i := 2) sc_law_taken.nd rfl (Or.inl rfl) (pe_op op_mod (pe_ix ix_list (pv 0) pe_int (fun _ _ => rfl)) (pv 1)))
    (pss_cons (ps_asg (pe_op op_fdivW (pe_ix ix_list (pv 0) pe_int (fun _ _ => rfl)) (pv 1)) (pg_sub (pv 0) pe_int set_list))
    (pss_one (ps_ret (pv 2))))) pss_nil)
    (pss_cons (ps_if (pt_cmpR op_lt (pe_ix ix_list (pv 0) pe_int (fun _ _ => rfl)) (pe_callB call_len_seq (by rfl) T.b_len (by decide +kernel) (pa_cons (pe_ix ix_list (pv 0) pe_int (fun _ _ => rfl)) pa_nil)) (nomark _))
      (pss_cons (ps_set (i := 3) sc_law_taken.nd rfl (Or.inl rfl) (pe_ix ix_list (pe_ix ix_list (pv 0) pe_int (fun _ _ => rfl)) (pe_ix ix_list (pv 0) pe_int (fun _ _ => rfl)) (fun _ _ => rfl)))
    (pss_cons (ps_asg (pe_op op_add (pe_ix ix_list (pv 0) pe_int (fun _ _ => rfl)) pe_int) (pg_sub (pv 0) pe_int set_list))
    (pss_cons (ps_if (pt_cmpR op_ge (pv 3) (pe_powc (v := 1000000000000000000) (by decide) ⟨by decide, by decide, by decide⟩) (nomark _))
      (pss_one (ps_asg (pe_op op_fdivW (pv 3) (pv 1)) (pg_sub (pv 0) pe_int set_list))) pss_nil)
    (pss_one (ps_ret (pe_op op_mod (pv 3) (pv 1))))))) pss_nil)
    (pss_cons (ps_asg (pe_op op_mod (pe_op op_add (pe_op op_mul (pe_ix ix_list (pv 0) pe_int (fun _ _ => rfl)) pe_int) pe_int) pe_int) (pg_sub (pv 0) pe_int set_list))
    (pss_one (ps_ret (pe_op op_mod (pe_op op_fdiv (pe_ix ix_list (pv 0) pe_int (fun _ _ => rfl)) pe_int) (pv 1))))))), ?_⟩
    refine ⟨_, rfl, r, _, 2, .int left, rfl, rfl, SqL.of hr0, atI_nat (j := 2) rfl, _, _, rfl, rfl, _, rfl, ite2 (fun c => ?_) (fun c => ?_)⟩
    · -- what is left of a great number
      refine ⟨_, rfl, r, _, 2, .int left, rfl, rfl, SqL.of hr0, atI_nat (j := 2) rfl, _, rfl, _, _, rfl, rfl, hm, ?_⟩
      refine ⟨_, rfl, r, _, 2, .int left, rfl, rfl, SqL.of hr0, atI_nat (j := 2) rfl, _, rfl, _, _, rfl, rfl, mw _, ?_⟩
      refine ⟨_, rfl, r, _, 2, 2, rfl, rfl, hr0, rfl, ?_⟩
      refine ⟨_, rfl, k _ _ (Int.emod_nonneg _ (by omega)) (Int.emod_lt_of_pos _ hm) ⟨⟨i, left / many, mixed, upd_same, hi, Int.ediv_nonneg hl (by omega), hm0, hm1⟩, nra _⟩ (kp _)⟩
    · refine ⟨_, rfl, r, _, 1, .int i, rfl, rfl, SqL.of hr0, atI_nat (j := 1) rfl, _, rfl, r, _, 0, .ref a, rfl, rfl, SqL.of hr0, atI_nat (j := 0) rfl, a, _, rfl, .inl hS, _, _, rfl, rfl, _, rfl, ite2 (fun c2 => ?_) (fun c2 => ?_)⟩
      · have hi2 : i < ns.length := by
          have := of_decide_eq_true c2
          rw [List.length_map] at this
          omega
        have hz : (ns.map V.int)[i]? = some (.int ns[i]) := by
          rw [List.getElem?_map, List.getElem?_eq_getElem hi2]
          rfl
        refine ⟨_, rfl, r, _, 0, .ref a, rfl, rfl, SqL.of hr0, atI_nat (j := 0) rfl, _, rfl, r, _, 1, .int i, rfl, rfl, SqL.of hr0, atI_nat (j := 1) rfl, a, _, i, _, rfl, rfl, hS, atI_nat hz, ?_⟩
        generalize ns[i] = cell
        refine ⟨_, rfl, r, _, 1, .int i, rfl, rfl, SqL.of hr0, atI_nat (j := 1) rfl, _, _, rfl, rfl, _, rfl, r, _, 1, 1, rfl, rfl, hr0, rfl, ?_⟩
        have h1 : (upd H r (.lst [V.ref a, .int ((i : Int) + 1), .int left, .int mixed])) r = _ := upd_same
        refine ⟨_, rfl, _, _, rfl, rfl, _, rfl, ite2 (fun c3 => ?_) (fun c3 => ?_)⟩
        · have hc : 0 ≤ cell := by
            have := of_decide_eq_true c3
            omega
          refine ⟨_, rfl, _, rfl, _, _, rfl, rfl, mw _, _, rfl, r, _, 2, 2, rfl, rfl, h1, rfl, ?_⟩
          refine ⟨_, rfl, _, rfl, _, _, rfl, rfl, hm, ?_⟩
          rw [upd_upd]
          exact k _ _ (Int.emod_nonneg _ (by omega)) (Int.emod_lt_of_pos _ hm) ⟨⟨i + 1, cell / many, mixed, upd_same, hi2, Int.ediv_nonneg hc (by omega), hm0, hm1⟩, nra _⟩ (kp _)
        · refine ⟨_, rfl, _, rfl, _, _, rfl, rfl, hm, ?_⟩
          exact k _ _ (Int.emod_nonneg _ (by omega)) (Int.emod_lt_of_pos _ hm) ⟨⟨i + 1, left, mixed, upd_same, hi2, hl, hm0, hm1⟩, nra _⟩ (kp _)
      · refine ⟨_, rfl, r, _, 3, .int mixed, rfl, rfl, SqL.of hr0, atI_nat (j := 3) rfl, _, _, rfl, rfl, .inl ⟨by omega, by omega⟩, _, _, rfl, rfl, _, _, rfl, rfl, (by show (0 : Int) < 2147483647; decide), _, rfl, r, _, 3, 3, rfl, rfl, hr0, rfl, ?_⟩
        have h1 : (upd H r (.lst [V.ref a, .int (i : Int), .int left, .int ((mixed * 48271 + 12345) % 2147483647)])) r = _ := upd_same
        refine ⟨_, rfl, r, _, 3, _, rfl, rfl, SqL.of h1, atI_nat (j := 3) rfl, _, _, rfl, rfl, ⟨by decide, by decide⟩, _, rfl, _, _, rfl, rfl, hm, ?_⟩
        exact k _ _ (Int.emod_nonneg _ (by omega)) (Int.emod_lt_of_pos _ hm) ⟨⟨i, left, _, upd_same, hi, hl, Int.emod_nonneg _ (by decide), Int.emod_lt_of_pos _ (by decide)⟩, nra _⟩ (kp _)
def sp_law_whole : Sp := fun vs H Q _ => ∃ i : Int, vs = [.int i] ∧ Q (.bl true) H
theorem ok_law_whole {f : Addr} {fd : FuncData} (F : Fun K "_law_whole" "_law_whole" s_law_whole f fd) (T : BT mg) : FnOk P w K mg base CX0 1 f fd ["_law_found"] sp_law_whole := by
  refine F.ok sc_law_whole (fun vs H Q E h => ?_) (fun cdv A outer s H vs Q E hr h => ?_)
  · obtain ⟨i, rfl, _⟩ := h
    rfl
  · obtain ⟨i, rfl, k⟩ := h
    refine ⟨_, (pss_one (ps_ret (pe_and (pe_callB call_isi (by rfl) T.b_isinstance (by decide +kernel) (pa_cons (pv 0) (pa_cons (pe_bltn (v := .ty "int") (by rfl) T.b_int (by decide +kernel) rfl) pa_nil))) (pe_one (pe_not (pe_callB call_isi (by rfl) T.b_isinstance (by decide +kernel) (pa_cons (pv 0) (pa_cons (pe_bltn (v := .ty "bool") (by rfl) T.b_bool (by decide +kernel) rfl) pa_nil)))))))), ?_⟩
    refine ⟨_, rfl, _, _, _, _, true, rfl, .ty "int", .base (.int i), kit_ty (by decide +kernel), _, rfl, iteT ?_⟩
    exact ⟨_, rfl, _, _, _, _, false, rfl, .ty "bool", .base (.int i), kit_ty (by decide +kernel), _, rfl, k⟩
def sp_law_signed (K : PySem.W.Frag) : Sp := fun vs H Q _ => ∃ (r a : Addr) (ns : List Int) (most : Int), vs = [.ref r, .int most] ∧ RowAt K H r a ns ∧ 0 ≤ most ∧ most < 2 ^ 60 ∧
  ∀ v H', -most ≤ v → v ≤ most → RowAt K H' r a ns → (∀ b o, H b = some o → b ≠ r → H' b = some o) → Q (.int v) H'
theorem ok_law_signed {f : Addr} {fd : FuncData} (F : Fun K "_law_signed" "_law_signed" s_law_signed f fd) (G_law_taken : COk P w K mg base CX0 1 "_law_taken" ["_law_row_here", "_law_many"] (sp_law_taken K)) : FnOk P w K mg base CX0 2 f fd ["_law_row_here", "_law_most"] (sp_law_signed K) := by
  refine F.ok sc_law_signed (fun vs H Q E h => ?_) (fun cdv A outer s H vs Q E hr h => ?_)
  · obtain ⟨r, a, ns, most, rfl, _⟩ := h
    rfl
  · obtain ⟨r, a, ns, most, rfl, R, h0, h1, k⟩ := h
    refine ⟨_, (pss_one (ps_ret (pe_op op_sub (pe_c G_law_taken (hr.mono (by first | decide | omega)) (pa_cons (pv 0) (pa_cons (pe_op op_add (pe_op op_mul pe_int (pv 1)) pe_int) pa_nil))) (pv 1)))), ?_⟩
    have b60 : (2 : Int) ^ 60 = 1152921504606846976 := by decide
    have b8 : (2 : Int) ^ 62 < 2 ^ 8000 := by decide +kernel
    have b62 : (2 : Int) ^ 62 = 4611686018427387904 := by decide
    refine ⟨_, rfl, _, rfl, _, _, rfl, rfl, .inl ⟨by decide, by decide⟩, _, _, rfl, rfl, r, a, ns, _, rfl, R, by omega, by omega, fun v H' v0 v1 R' kp => ?_⟩
    exact ⟨_, rfl, _, _, rfl, rfl, k _ _ (by omega) (by omega) R' kp⟩
end
/-! ### chains of fractions, in plain Lean -/
theorem fmod_pos {a b : Int} (h : 0 < b) : 0 ≤ a.fmod b ∧ a.fmod b < b := ⟨Int.fmod_nonneg_of_pos a h, Int.fmod_lt_of_pos a h⟩
theorem fmod_neg {a b : Int} (h : b < 0) : b < a.fmod b ∧ a.fmod b ≤ 0 := by
  have h1 := Int.fmod_nonneg_of_pos (-a) (show 0 < -b by omega)
  have h2 := Int.fmod_lt_of_pos (-a) (show 0 < -b by omega)
  rw [Int.neg_fmod_neg] at h1 h2
  omega
theorem fmod_abs {a b : Int} (h : b ≠ 0) : (a.fmod b).natAbs < b.natAbs := by
  rcases Int.lt_or_gt_of_ne h with h | h
  · have := fmod_neg (a := a) h; omega
  · have := fmod_pos (a := a) h; omega
theorem fdm (a b : Int) : b * a.fdiv b + a.fmod b = a := Int.mul_fdiv_add_fmod a b
theorem fmod_eq (a b : Int) : a - a.fdiv b * b = a.fmod b := by
  have := fdm a b
  rw [Int.mul_comm] at this
  omega
/-- the parts of the fraction t / b -/
def chain (t b : Int) : List Int := if h : b = 0 then [] else t.fdiv b :: chain b (t.fmod b)
termination_by b.natAbs
decreasing_by exact fmod_abs h
theorem chain_zero (t : Int) : chain t 0 = [] := by rw [chain, dif_pos rfl]
theorem chain_cons {t b : Int} (h : b ≠ 0) : chain t b = t.fdiv b :: chain b (t.fmod b) := by rw [chain, dif_neg h]
theorem chain_len : ∀ (n : Nat) (t b : Int), b.natAbs < 2 ^ n → (chain t b).length ≤ 2 * n
  | 0, t, b, h => by
    have e : b = 0 := by simp at h; exact h
    rw [e, chain_zero]; simp
  | n + 1, t, b, h => by
    by_cases hb : b = 0
    · rw [hb, chain_zero]; simp
    · rw [chain_cons hb, List.length_cons]
      by_cases hr : t.fmod b = 0
      · rw [hr, chain_zero, List.length_nil]; omega
      · rw [chain_cons hr, List.length_cons]
        have key : (b.fmod (t.fmod b)).natAbs < 2 ^ n := by
          have h1 := fdm b (t.fmod b)
          have hrp : 0 < b → 0 ≤ t.fmod b ∧ t.fmod b < b := fun z => fmod_pos z
          have hrn : b < 0 → b < t.fmod b ∧ t.fmod b ≤ 0 := fun z => fmod_neg z
          generalize t.fmod b = r at *
          have hd : ∀ q s : Int, r * q + s = b → ((0 < b ∧ 0 ≤ r ∧ r < b) ∨ (b < 0 ∧ b < r ∧ r ≤ 0)) → ((0 ≤ s ∧ s < r) ∨ (r < s ∧ s ≤ 0)) → 2 * s.natAbs < b.natAbs := by
            intro q s e c1 c2
            rcases c1 with ⟨p1, p2, p3⟩ | ⟨p1, p2, p3⟩
            · rcases c2 with ⟨p4, p5⟩ | ⟨p4, p5⟩
              · have hq : 0 < q := by
                  rcases Int.lt_or_le 0 q with z | z
                  · exact z
                  · have := Int.mul_le_mul_of_nonneg_left z p2
                    rw [Int.mul_zero] at this
                    omega
                have := Int.mul_le_mul_of_nonneg_left (show 1 ≤ q from hq) p2
                omega
              · omega
            · rcases c2 with ⟨p4, p5⟩ | ⟨p4, p5⟩
              · omega
              · have hq : 0 < q := by
                  rcases Int.lt_or_le 0 q with z | z
                  · exact z
                  · have := Int.mul_nonneg_of_nonpos_of_nonpos p3 z
                    omega
                have := Int.mul_nonneg (show 0 ≤ -r by omega) (show 0 ≤ q - 1 by omega)
                have e3 : -r * (q - 1) = r - r * q := by grind
                omega
          have c1 : (0 < b ∧ 0 ≤ r ∧ r < b) ∨ (b < 0 ∧ b < r ∧ r ≤ 0) := by
            rcases Int.lt_or_gt_of_ne hb with z | z
            · exact .inr ⟨z, hrn z⟩
            · exact .inl ⟨z, hrp z⟩
          have c2 : (0 ≤ b.fmod r ∧ b.fmod r < r) ∨ (r < b.fmod r ∧ b.fmod r ≤ 0) := by
            rcases Int.lt_or_gt_of_ne hr with z | z
            · exact .inr (fmod_neg z)
            · exact .inl (fmod_pos z)
          have := hd _ _ h1 c1 c2
          have e2 : 2 ^ (n + 1) = 2 * 2 ^ n := by rw [Nat.pow_succ]; omega
          omega
        have := chain_len n (t.fmod b) (b.fmod (t.fmod b)) key
        omega
/-- what a row of parts comes to -/
def fold : List Int → Int × Int
  | [] => (1, 0)
  | p :: r => (p * (fold r).1 + (fold r).2, (fold r).1)
theorem fold_pos : ∀ r : List Int, (∀ p ∈ r, 1 ≤ p) → 1 ≤ (fold r).1 ∧ 0 ≤ (fold r).2 ∧ (r ≠ [] → 1 ≤ (fold r).2)
  | [], _ => ⟨by decide, by decide, fun h => absurd rfl h⟩
  | p :: r, h => by
    obtain ⟨h1, h2, _⟩ := fold_pos r fun q hq => h q (List.mem_cons_of_mem _ hq)
    have hp := h p List.mem_cons_self
    have := Int.mul_le_mul hp h1 (by decide) (by omega)
    show 1 ≤ p * (fold r).1 + (fold r).2 ∧ 0 ≤ (fold r).1 ∧ (_ → 1 ≤ (fold r).1)
    omega
/-- parts as a chain has them behind the first: 1 or more, the last 2 or more -/
def Tail (r : List Int) : Prop := (∀ p ∈ r, 1 ≤ p) ∧ ∀ x, r.getLast? = some x → 2 ≤ x
theorem Tail.tail {p : Int} {r : List Int} (h : Tail (p :: r)) : Tail r := by
  refine ⟨fun q hq => h.1 q (List.mem_cons_of_mem _ hq), fun x hx => h.2 x ?_⟩
  cases r with
  | nil => cases hx
  | cons y s => rw [List.getLast?_cons_cons]; exact hx
theorem fold_tail : ∀ r : List Int, r ≠ [] → Tail r → (fold r).2 < (fold r).1
  | [], h, _ => absurd rfl h
  | [p], _, h => by
    have := h.2 p rfl
    show (1 : Int) < p * 1 + 0
    omega
  | p :: q :: r, _, h => by
    obtain ⟨h1, h2, h3⟩ := fold_pos (q :: r) fun x hx => h.1 x (List.mem_cons_of_mem _ hx)
    have hp := h.1 p List.mem_cons_self
    have := Int.mul_le_mul_of_nonneg_right hp (show 0 ≤ (fold (q :: r)).1 by omega)
    have h4 := h3 (List.cons_ne_nil _ _)
    show (fold (q :: r)).1 < p * (fold (q :: r)).1 + (fold (q :: r)).2
    omega
theorem fdiv_unique {a b q r : Int} (hb : 0 < b) (h : a = q * b + r) (h0 : 0 ≤ r) (h1 : r < b) : a.fdiv b = q ∧ a.fmod b = r := by
  have e := fdm a b
  obtain ⟨m0, m1⟩ := fmod_pos (a := a) hb
  have k : a.fdiv b = q := by
    generalize a.fdiv b = x at *
    generalize a.fmod b = y at *
    rcases Int.lt_trichotomy x q with z | z | z
    · have := Int.mul_le_mul_of_nonneg_left (show x + 1 ≤ q by omega) (show 0 ≤ b by omega)
      have e1 : b * (x + 1) = b * x + b := by grind
      have e2 : b * q = q * b := Int.mul_comm _ _
      omega
    · exact z
    · have := Int.mul_le_mul_of_nonneg_left (show q + 1 ≤ x by omega) (show 0 ≤ b by omega)
      have e1 : b * (q + 1) = b * q + b := by grind
      have e2 : b * q = q * b := Int.mul_comm _ _
      omega
  refine ⟨k, ?_⟩
  rw [k, Int.mul_comm] at e
  omega
theorem chain_fold : ∀ (p : Int) (r : List Int), Tail r → chain (fold (p :: r)).1 (fold (p :: r)).2 = p :: r
  | p, [], _ => by
    show chain (p * 1 + 0) 1 = [p]
    obtain ⟨e1, e2⟩ := fdiv_unique (a := p * 1 + 0) (b := 1) (q := p) (r := 0) (by decide) (by omega) (by decide) (by decide)
    rw [chain_cons (by decide), e1, e2, chain_zero]
  | p, q :: r, h => by
    obtain ⟨h1, h2, h3⟩ := fold_pos (q :: r) h.1
    have h4 := fold_tail (q :: r) (List.cons_ne_nil _ _) h
    have ih := chain_fold q r h.tail
    show chain (p * (fold (q :: r)).1 + (fold (q :: r)).2) (fold (q :: r)).1 = p :: q :: r
    obtain ⟨e1, e2⟩ := fdiv_unique (a := p * (fold (q :: r)).1 + (fold (q :: r)).2) (b := (fold (q :: r)).1) (q := p) (r := (fold (q :: r)).2) (by omega) rfl h2 h4
    rw [chain_cons (by omega), e1, e2, ih]
theorem gcd_fold : ∀ r : List Int, Int.gcd (fold r).1 (fold r).2 = 1
  | [] => by decide
  | p :: r => by
    have ih := gcd_fold r
    show Int.gcd (p * (fold r).1 + (fold r).2) (fold r).1 = 1
    rw [Int.gcd_comm, Int.add_comm, Int.mul_comm, Int.gcd_add_mul_left_right]
    exact ih
/-- a fraction is what its chain comes to, but for a factor -/
theorem fold_chain : ∀ (n : Nat) (t b : Int), b.natAbs ≤ n → ∃ g : Int, t = g * (fold (chain t b)).1 ∧ b = g * (fold (chain t b)).2 ∧ (0 < b → 0 < g) ∧ (b < 0 → g < 0) ∧ (b = 0 → g = t)
  | n, t, b, hn => by
    by_cases hb : b = 0
    · subst hb
      rw [chain_zero]
      exact ⟨t, by show t = t * 1; omega, by show (0 : Int) = t * 0; omega, fun h => by omega, fun h => by omega, fun _ => rfl⟩
    · have hm := fmod_abs (a := t) hb
      match n, hn with
      | n + 1, hn =>
        obtain ⟨g, e1, e2, p1, p2, p3⟩ := fold_chain n b (t.fmod b) (by omega)
        rw [chain_cons hb]
        refine ⟨g, ?_, e1, fun z => ?_, fun z => ?_, fun z => absurd z hb⟩
        · have e := fdm t b
          show t = g * (t.fdiv b * (fold (chain b (t.fmod b))).1 + (fold (chain b (t.fmod b))).2)
          generalize fold (chain b (t.fmod b)) = x at *
          generalize t.fmod b = r at *
          generalize t.fdiv b = q at *
          grind
        · obtain ⟨m0, m1⟩ := fmod_pos (a := t) z
          rcases Int.lt_or_eq_of_le m0 with y | y
          · exact p1 y
          · rw [p3 y.symm]; exact z
        · obtain ⟨m0, m1⟩ := fmod_neg (a := t) z
          rcases Int.lt_or_eq_of_le m1 with y | y
          · exact p2 y
          · rw [p3 y]; exact z
      | 0, hn => omega
theorem fold_low {t b : Int} (hb : b ≠ 0) : ∃ g : Int, t = g * (fold (chain t b)).1 ∧ b = g * (fold (chain t b)).2 ∧ g ≠ 0 ∧ (0 < g ↔ 0 < b) ∧ (g.natAbs = Int.gcd t b) := by
  obtain ⟨g, e1, e2, p1, p2, p3⟩ := fold_chain b.natAbs t b (Nat.le_refl _)
  have hg : g ≠ 0 := by
    rcases Int.lt_or_gt_of_ne hb with z | z
    · have := p2 z; omega
    · have := p1 z; omega
  refine ⟨g, e1, e2, hg, ⟨fun z => ?_, p1⟩, ?_⟩
  · rcases Int.lt_or_gt_of_ne hb with y | y
    · have := p2 y; omega
    · exact y
  · have h := gcd_fold (chain t b)
    generalize fold (chain t b) = x at *
    rw [e1, e2, Int.gcd_mul_left, h, Nat.mul_one]
theorem fold_bound : ∀ (r : List Int), (∀ p ∈ r, p.natAbs ≤ 2 ^ 39) → (fold r).1.natAbs ≤ 2 ^ (40 * r.length) ∧ (fold r).2.natAbs ≤ 2 ^ (40 * r.length)
  | [], _ => ⟨by decide, by decide⟩
  | p :: r, h => by
    obtain ⟨h1, h2⟩ := fold_bound r fun q hq => h q (List.mem_cons_of_mem _ hq)
    have hp := h p List.mem_cons_self
    have e : 2 ^ (40 * (r.length + 1)) = 2 ^ 39 * 2 ^ (40 * r.length) + 2 ^ 39 * 2 ^ (40 * r.length) := by
      rw [Nat.mul_add, Nat.pow_add]
      omega
    have e3 : 2 ^ (40 * r.length) ≤ 2 ^ 39 * 2 ^ (40 * r.length) := Nat.le_mul_of_pos_left _ (by decide)
    show (p * (fold r).1 + (fold r).2).natAbs ≤ 2 ^ (40 * (r.length + 1)) ∧ (fold r).1.natAbs ≤ 2 ^ (40 * (r.length + 1))
    have e4 := Int.natAbs_add_le (p * (fold r).1) (fold r).2
    have e5 : (p * (fold r).1).natAbs ≤ 2 ^ 39 * 2 ^ (40 * r.length) := by
      rw [Int.natAbs_mul]
      exact Nat.mul_le_mul hp h1
    omega
/-! ### further helpers of the laws -/
section
variable {P : Program} {w : World} {K : PySem.W.Frag} {mg : Str → Option Value} {base : Heap}
theorem dpAll_ints {H : Hp} : ∀ ns : List Int, DpAll K H (ns.map V.int) (ns.map PyData.int)
  | [] => .nil
  | n :: r => .cons (.int n) (dpAll_ints r)
theorem shaped_ints (ns : List Int) : SeqAt.shaped (.list (ns.map PyData.int)) = true := PySem.W.ke_shaped_ints ns
def small (z : Int) : Prop := z.natAbs < 2 ^ 1000
theorem small_fdiv {z : Int} (h : small z) (h0 : z ≠ 0) (y : Int) : CDivS y z := ⟨h0, Nat.lt_of_lt_of_le h (Nat.pow_le_pow_right (by decide) (by decide))⟩
theorem small_mul {x y : Int} (h : small x) (h' : small y) : CMulW x y := wide_mul (a := 1000) (b := 1000) h h' (by decide) (by decide) (by decide)
theorem fdiv_abs {a b : Int} (hb : b ≠ 0) : (a.fdiv b).natAbs ≤ a.natAbs := by
  have key : ∀ (x y q r : Int), 0 < y → y * q + r = x → 0 ≤ r → r < y → q.natAbs ≤ x.natAbs := by
    intro x y q r hy e r0 r1
    rcases Int.lt_or_le q 0 with z | z
    · have := Int.mul_nonneg (show 0 ≤ y - 1 by omega) (show 0 ≤ -q - 1 by omega)
      have e2 : (y - 1) * (-q - 1) = -(y * q) - y + q + 1 := by grind
      omega
    · have := Int.mul_nonneg (show 0 ≤ y - 1 by omega) z
      have e2 : (y - 1) * q = y * q - q := by grind
      omega
  rcases Int.lt_or_gt_of_ne hb with z | z
  · have h1 := fdm (-a) (-b)
    rw [Int.neg_fdiv_neg] at h1
    have := fmod_pos (a := -a) (show 0 < -b by omega)
    have := key (-a) (-b) _ _ (by omega) h1 this.1 this.2
    omega
  · exact key a b _ _ z (fdm a b) (fmod_pos z).1 (fmod_pos z).2
theorem small_fd {a b : Int} (h : small a) (hb : b ≠ 0) : small (a.fdiv b) := Nat.lt_of_le_of_lt (fdiv_abs hb) h
theorem small_fm {a b : Int} (h : small b) (hb : b ≠ 0) : small (a.fmod b) := Nat.lt_trans (fmod_abs hb) h
/-- the chain of a fraction, a new list -/
def sp_law_chain : Sp := fun vs H Q _ => ∃ t b : Int, vs = [.int t, .int b] ∧ small t ∧ small b ∧ ∀ H' p, Same H H' → H p = none → H' p = some (.lst ((chain t b).map V.int)) → Q (.ref p) H'
theorem ok_law_chain {f : Addr} {fd : FuncData} (F : Fun K "_law_chain" "_law_chain" s_law_chain f fd) : FnOk P w K mg base CX0 1 f fd ["_law_top", "_law_below"] sp_law_chain := by
  refine F.ok sc_law_chain (fun vs H Q E h => ?_) (fun cdv A outer s H vs Q E hr h => ?_)
  · obtain ⟨t, b, rfl, _⟩ := h
    rfl
  · obtain ⟨t, b, rfl, ht, hb, k⟩ := h
    refine ⟨_, (pss_cons (ps_set (i := 2) sc_law_chain.nd rfl (Or.inl rfl) (pe_lst pa_nil))
    (pss_cons (ps_while PassesOwn.never (pt_cmpR op_ne (pv 1) pe_int (nomark _))
      (pss_cons (ps_set (i := 3) sc_law_chain.nd rfl (Or.inl rfl) (pe_op op_fdivS (pv 0) (pv 1)))
    (pss_cons (ps_expr (pe_bm PySem.F.plainAttrs_list PySem.F.slot_list_append PySem.F.type_list_append mt_append (pv 2) (pa_cons (pv 3) pa_nil)))
    (pss_one (ps_par (i := 0) (j := 1) (by rfl) sc_law_chain.nd rfl rfl (by decide) rfl rfl (pa_cons (pv 1) (pa_cons (pe_op op_sub (pv 0) (pe_op op_mulW (pv 3) (pv 1))) pa_nil)) (by rfl))))))
    (pss_one (ps_ret (pv 2))))), ?_⟩
    refine ⟨Nat.zero_le _, fun p np => ?_⟩
    have hlen : (chain t b).length ≤ 2000 := chain_len 1000 t b hb
    refine while_by (fun σ H2 => ∃ (t' b' : Int) (acc : List Int) (v : Option V), σ = [some (.int t'), some (.int b'), some (.ref p), v] ∧ small t' ∧ small b' ∧ acc ++ chain t' b' = chain t b ∧ Same H H2 ∧ H2 p = some (.lst (acc.map V.int)))
      (fun σ _ => match σ with | [_, some (.int b'), _, _] => b'.natAbs | _ => 0) ⟨t, b, [], none, rfl, ht, hb, rfl, same_upd np, upd_same⟩ ?_ ?_
    · rintro σ H2 ⟨t', b', acc, v, rfl, st, sb, ea, sm, eh⟩
      refine ⟨_, rfl, rfl, _, rfl, ?_⟩
      by_cases hz : b' = 0
      · subst hz
        rw [decide_eq_true rfl]
        refine iteF ⟨_, rfl, ?_⟩
        rw [chain_zero, List.append_nil] at ea
        rw [ea] at eh
        exact k _ _ sm np eh
      · rw [decide_eq_false (fun z => hz (V.int.inj z))]
        refine iteT ⟨_, rfl, _, rfl, _, _, rfl, rfl, small_fdiv sb hz _, ?_⟩
        have ea' : (acc ++ [t'.fdiv b']) ++ chain b' (t'.fmod b') = chain t b := by
          rw [← ea, chain_cons hz, List.append_assoc]
          rfl
        have hl2 : acc.length < 2000 := by
          have := congrArg List.length ea'
          simp only [List.length_append, List.length_cons, List.length_nil] at this
          omega
        refine ⟨_, rfl, .inl ⟨rfl, _, SqL.of eh⟩, _, rfl, p, _, _, rfl, rfl, eh, (by rw [List.length_map]; exact Nat.lt_trans hl2 (by decide)), ?_⟩
        refine ⟨_, rfl, _, rfl, _, rfl, _, rfl, _, _, rfl, rfl, small_mul (small_fd st hz) sb, _, _, rfl, rfl, _, _, rfl, ?_⟩
        refine ⟨⟨b', t'.fmod b', acc ++ [t'.fdiv b'], some (.int (t'.fdiv b')), ?_, sb, small_fm sb hz, ea', fun c o e => ?_, ?_⟩, ?_⟩
        · rw [← fmod_eq t' b']
          rfl
        · rw [upd_ne (ne_of_none e np)]
          exact sm c o e
        · rw [upd_same, List.map_append]
          rfl
        · show (t' - t'.fdiv b' * b').natAbs < b'.natAbs
          rw [fmod_eq]
          exact fmod_abs hz
    · intro σ H2 Q1 Q2 im hq
      obtain ⟨v, e, e2, c, e3, z⟩ := hq
      exact ⟨v, e, e2, c, e3, im _ _ z⟩
def sp_law_common : Sp := fun vs H Q _ => ∃ x y : Int, vs = [.int x, .int y] ∧ Q (.int (Int.gcd x y : Nat)) H
theorem ok_law_common {f : Addr} {fd : FuncData} (F : Fun K "_law_common" "_law_common" s_law_common f fd) (T : BT mg) : FnOk P w K mg base CX0 1 f fd ["_law_one", "_law_other"] sp_law_common := by
  refine F.ok sc_law_common (fun vs H Q E h => ?_) (fun cdv A outer s H vs Q E hr h => ?_)
  · obtain ⟨x, y, rfl, _⟩ := h
    rfl
  · obtain ⟨x, y, rfl, k⟩ := h
    refine ⟨_, (pss_cons (ps_while PassesOwn.never (pt_cmpR op_ne (pv 1) pe_int (nomark _))
      (pss_one (ps_par (i := 0) (j := 1) (by rfl) sc_law_common.nd rfl rfl (by decide) rfl rfl (pa_cons (pv 1) (pa_cons (pe_op op_modN (pv 0) (pv 1)) pa_nil)) (by rfl))))
    (pss_one (ps_ret (pe_callB call_abs (by rfl) T.b_abs (by decide +kernel) (pa_cons (pv 0) pa_nil))))), ?_⟩
    refine while_by (fun σ H2 => ∃ x' y' : Int, σ = [some (.int x'), some (.int y')] ∧ Int.gcd x' y' = Int.gcd x y ∧ H2 = H) (fun σ _ => match σ with | [_, some (.int y')] => y'.natAbs | _ => 0) ⟨x, y, rfl, rfl, rfl⟩ ?_ ?_
    · rintro σ H2 ⟨x', y', rfl, eg, rfl⟩
      refine ⟨_, rfl, rfl, _, rfl, ?_⟩
      by_cases hz : y' = 0
      · subst hz
        rw [decide_eq_true rfl]
        refine iteF ⟨_, rfl, _, rfl, ?_⟩
        have e : (if x' < 0 then -x' else x') = ((Int.gcd x y : Nat) : Int) := by
          rw [← eg, Int.gcd_zero_right]
          split <;> omega
        show Q (.int (if x' < 0 then -x' else x')) H2
        rw [e]
        exact k
      · rw [decide_eq_false (fun z => hz (V.int.inj z))]
        refine iteT ⟨_, rfl, _, rfl, _, rfl, _, _, rfl, rfl, hz, _, _, rfl, ⟨_, _, rfl, ?_, rfl⟩, fmod_abs hz⟩
        rw [← eg, Int.gcd_comm x' y']
        have e := fdm x' y'
        have e2 := Int.gcd_add_mul_left_right y' (x'.fmod y') (x'.fdiv y')
        rw [show x'.fmod y' + y' * x'.fdiv y' = x' by omega] at e2
        exact e2.symm
    · intro σ H2 Q1 Q2 im hq
      obtain ⟨v, e, e2, c, e3, z⟩ := hq
      exact ⟨v, e, e2, c, e3, im _ _ z⟩
/-- a fraction in lowest terms, below 1 or more: a new tuple -/
def sp_law_lowest : Sp := fun vs H Q _ => ∃ t b : Int, vs = [.int t, .int b] ∧ b ≠ 0 ∧ small t ∧ small b ∧ ∀ p, H p = none → Q (.ref p) (upd H p (.tup [.int (fold (chain t b)).1, .int (fold (chain t b)).2]))
theorem ok_law_lowest {f : Addr} {fd : FuncData} (F : Fun K "_law_lowest" "_law_lowest" s_law_lowest f fd) (G_law_common : COk P w K mg base CX0 1 "_law_common" ["_law_one", "_law_other"] sp_law_common) : FnOk P w K mg base CX0 2 f fd ["_law_top", "_law_below"] sp_law_lowest := by
  refine F.ok sc_law_lowest (fun vs H Q E h => ?_) (fun cdv A outer s H vs Q E hr h => ?_)
  · obtain ⟨t, b, rfl, _⟩ := h
    rfl
  · obtain ⟨t, b, rfl, hb, st, sb, k⟩ := h
    refine ⟨_, (pss_cons (ps_set (i := 2) sc_law_lowest.nd rfl (Or.inl rfl) (pe_c G_law_common (hr.mono (by first | decide | omega)) (pa_cons (pv 0) (pa_cons (pv 1) pa_nil))))
    (C8.pss_cut (ps_if (pt_cmpR op_lt (pv 1) pe_int (nomark _))
      (pss_one (ps_set (i := 2) sc_law_lowest.nd rfl (Or.inl rfl) (pe_op op_sub pe_int (pv 2)))) pss_nil)
    (pss_one (ps_ret (pe_tup (pa_cons (pe_op op_fdivS (pv 0) (pv 2)) (pa_cons (pe_op op_fdivS (pv 1) (pv 2)) pa_nil))))))), ?_⟩
    obtain ⟨g, e1, e2, hg, hs, hgcd⟩ := fold_low (t := t) hb
    generalize fold (chain t b) = x at *
    have sg : small g := by
      have h2 : x.2 ≠ 0 := fun z => hb (by rw [e2, z, Int.mul_zero])
      have := congrArg Int.natAbs e2
      rw [Int.natAbs_mul] at this
      have h3 : g.natAbs * 1 ≤ g.natAbs * x.2.natAbs := Nat.mul_le_mul_left _ (by omega)
      exact Nat.lt_of_le_of_lt (show g.natAbs ≤ b.natAbs by omega) sb
    refine ⟨_, rfl, _, rfl, t, b, rfl, ?_⟩
    have fin : ∀ y : Int, g * y = g * y → (g * y).fdiv g = y := fun y _ => by
      have := Int.mul_fdiv_cancel_left y hg
      exact this
    have q1 : t.fdiv g = x.1 := by rw [e1]; exact fin _ rfl
    have q2 : b.fdiv g = x.2 := by rw [e2]; exact fin _ rfl
    refine ⟨fun σ H2 => σ = [some (.int t), some (.int b), some (.int g)] ∧ H2 = H, ?_, ?_⟩
    · refine ⟨_, rfl, _, _, rfl, rfl, _, rfl, ite2 (fun c => ?_) (fun c => ?_)⟩
      · have c' : b < 0 := of_decide_eq_true c
        refine ⟨_, rfl, _, _, rfl, rfl, ?_, rfl⟩
        have : (0 : Int) - (Int.gcd t b : Nat) = g := by
          have : ¬ 0 < g := fun z => by have := hs.mp z; omega
          omega
        show [some (V.int t), some (V.int b), some (V.int (0 - ((Int.gcd t b : Nat) : Int)))] = _
        rw [this]
      · have c' : ¬ b < 0 := fun z => c (decide_eq_true z)
        refine ⟨?_, rfl⟩
        have : ((Int.gcd t b : Nat) : Int) = g := by
          have : 0 < g := hs.mpr (by omega)
          omega
        show [some (V.int t), some (V.int b), some (V.int ((Int.gcd t b : Nat) : Int))] = _
        rw [this]
    · rintro σ H2 ⟨rfl, rfl⟩
      refine ⟨_, rfl, _, rfl, _, _, rfl, rfl, small_fdiv sg hg _, _, rfl, _, rfl, _, _, rfl, rfl, small_fdiv sg hg _, (by show 2 ≤ sizeLine; decide), fun p hp => ?_⟩
      show Q (.ref p) (upd H2 p (.tup [.int (t.fdiv g), .int (b.fdiv g)]))
      rw [q1, q2]
      exact k p hp
end

/-! ### rows of parts, from behind -/
def stepF (s : Int × Int) (p : Int) : Int × Int := (p * s.1 + s.2, s.1)
theorem fold_rev (ns : List Int) : fold ns = ns.reverse.foldl stepF (1, 0) := by
  rw [List.foldl_reverse]
  induction ns with
  | nil => rfl
  | cons p r ih => show (p * (fold r).1 + (fold r).2, (fold r).1) = _; rw [List.foldr_cons, ← ih]; rfl
theorem foldl_take {α β : Type} (f : β → α → β) {l : List α} {i : Nat} {x : α} (h : l[i]? = some x) (z : β) : (l.take (i + 1)).foldl f z = f ((l.take i).foldl f z) x := by
  rw [List.take_add_one, h, List.foldl_append]
  rfl
theorem ints_at {ns : List Int} {i : Nat} {y : V} (h : (ns.map V.int)[i]? = some y) : ∃ z, ns[i]? = some z ∧ y = V.int z := by
  rw [List.getElem?_map] at h
  cases e : ns[i]? with
  | none => rw [e] at h; cases h
  | some z => rw [e] at h; exact ⟨z, rfl, (Option.some.inj h).symm⟩
/-- the items of xs[-2::-1] -/
theorem pick_back (its : Array Value) (h : 0 < its.size) : slicePick its (some (-2)) none (some (-1)) = its.toList.dropLast.reverse.toArray := by
  have hb : sliceBounds (some (-2)) none (some (-1)) its.size = (((its.size - 1 : Nat) : Int) - 1, -1, -1) := by
    simp only [sliceBounds, Option.getD_some]
    have : ¬ ((-1 : Int) > 0) := by decide
    simp only [this, if_false]
    have h2 : ((-2 : Int) < 0) := by decide
    simp only [h2, if_true]
    congr 1
    omega
  unfold slicePick
  rw [hb]
  show ((sliceRange (((its.size - 1 : Nat) : Int) - 1) (-1) (-1)).filterMap (its[·]?)).toArray = _
  rw [PySem.W.krv_sliceRange, PySem.W.krv_range, List.filterMap_reverse]
  have e := pick_run its 0 (its.size - 1)
  have e2 : (List.range (its.size - 1)).map (0 + ·) = List.range (its.size - 1) := by
    rw [show ((0 + ·) : Nat → Nat) = id from funext fun k => Nat.zero_add k, List.map_id]
  rw [e2, List.drop_zero] at e
  rw [e, List.dropLast_eq_take, Array.length_toList]
/-- xs[-2::-1] -/
def tBack (K : PySem.W.Frag) (te : TE) : TE := fun σ H Q => te σ H fun x H1 => ∃ a xs, x = .ref a ∧ SqL K H1 a xs ∧ xs ≠ [] ∧ ∀ p, H1 p = none → Q (.ref p) (upd H1 p (.lst xs.dropLast.reverse))
open PySem.Spec PyProof.Rows in
theorem pe_back {X : Cx} {e : Expr} {te : TE} {k k' : Nat} {p1 p2 p3 p4 p5 pos : Pos} (he : PE X e te) :
    PE X (.Subscript e (.Slice (some (.UnaryOp .USub (.Constant (.int 2) k p1) p2)) none (some (.UnaryOp .USub (.Constant (.int 1) k' p3) p4)) p5) pos) (tBack X.K te) := by
  refine ⟨fun pins s σ H Q I hq => ?_⟩
  refine Subscript_ (thn (he.run pins s σ H _ I hq) fun v sA hA => ?_)
  obtain ⟨x, HA, IA, rA, a, xs, rfl, hx, hne, q⟩ := hA
  cases rA
  have lo : PO X (some (.UnaryOp .USub (.Constant (.int 2) k p1) p2)) (tPart (tUn (rU fun i => .int (-i)) (tC (.int 2)))) := po_some (pe_un un_neg pe_int)
  have st : PO X (some (.UnaryOp .USub (.Constant (.int 1) k' p3) p4)) (tPart (tUn (rU fun i => .int (-i)) (tC (.int 1)))) := po_some (pe_un un_neg pe_int)
  refine wpAny_Slice (thn (lo.run pins sA σ HA (fun o HB => o = some (-2) ∧ HB = HA) IA ⟨2, rfl, -2, rfl, rfl, rfl⟩) fun vl sB hB => ?_)
  obtain ⟨lB, HB, IB, pB, rfl, rfl⟩ := hB
  refine thn (po_none.run pins sB σ HB (fun o HC => o = none ∧ HC = HB) IB ⟨rfl, rfl⟩) fun vu sC hC => ?_
  obtain ⟨lC, HC, IC, pC, rfl, rfl⟩ := hC
  refine thn (st.run pins sC σ HC (fun o HD => o = some (-1) ∧ HD = HC) IC ⟨1, rfl, -1, rfl, rfl, rfl⟩) fun vs sD hD => ?_
  obtain ⟨lD, HD, ID, pD, rfl, rfl⟩ := hD
  have IE : Inv X pins σ HD { sD with heap := sD.heap.push { cls := .type "slice", data := .fields #[vl, vu, vs] } } := ID.kept (t' := sD.toks) fun b ob z => Heap.get?_push_of_some _ z
  obtain ⟨its, r, ht, hz⟩ := IE.list hx
  have hlen := r.length
  have hpos : 0 < its.toArray.size := by
    rw [List.size_toArray]
    cases xs with
    | nil => exact absurd rfl hne
    | cons _ _ => rw [List.length_cons] at hlen; omega
  show wpAny (model X.prog X.w) X.A (subscriptTail e (.Slice (some (.UnaryOp .USub (.Constant (.int 2) k p1) p2)) none (some (.UnaryOp .USub (.Constant (.int 1) k' p3) p4)) p5) (.ref a) (.ref sD.heap.objs.size)) (EP X pins σ Q) X.xe { sD with heap := sD.heap.push { cls := .type "slice", data := .fields #[vl, vu, vs] } }
  refine tail_any (ops := [.ref a, .ref sD.heap.objs.size]) ht.isList.typeIs (PySem.slot_list_getitem.lookup) ?_ (by with_unfolding_all rfl)
  refine wpAny_getItem_list_slice ht.isList (Heap.IsSliceOf.new _ vl vu vs) pB pC pD (by decide) ?_ (by rw [List.size_toArray]; omega)
  rw [pick_back _ hpos]
  refine ⟨.ref _, _, IE.laid (t' := sD.toks) (o := .lst xs.dropLast.reverse) (fun b ob z => Heap.get?_push_of_some _ z) (Nat.le_refl _) ?_, rfl, q _ (IE.hok.fresh (Nat.le_refl _))⟩
  refine ⟨by rw [List.length_reverse, List.length_dropLast]; omega, its.dropLast.reverse, 0, Vals.reverse ?_, Heap.get?_push_size _ rfl⟩
  rw [List.dropLast_eq_take, List.dropLast_eq_take, ← hlen]
  exact r.take _
/-! ### put_together -/
section
variable {P : Program} {w : World} {K : PySem.W.Frag} {mg : Str → Option Value} {base : Heap}
def few (ns : List Int) : Prop := ns.length ≤ 10000 ∧ ∀ p ∈ ns, -(2 ^ 64) < p ∧ p < 2 ^ 64
def sp_put_together (K : PySem.W.Frag) : Sp := fun vs H Q _ => ∃ (a : Addr) (ns : List Int), vs = [.ref a] ∧ SqL K H a (ns.map V.int) ∧ ns ≠ [] ∧ few ns ∧
  ∀ H' p, Same H H' → H p = none → H' p = some (.tup [.int (fold ns).1, .int (fold ns).2]) → Q (.ref p) H'
theorem last_of {ns : List Int} (h : ns ≠ []) : ∃ z r, ns.reverse = z :: r ∧ r = ns.dropLast.reverse ∧ atI (ns.map V.int) (-1) = some (.int z) ∧ (∀ p ∈ r, p ∈ ns) := by
  refine ⟨ns.getLast h, ns.dropLast.reverse, ?_, rfl, ?_, fun p hp => List.dropLast_subset _ (List.mem_reverse.mp hp)⟩
  · have := congrArg List.reverse (List.dropLast_concat_getLast h)
    rw [List.reverse_append] at this
    exact this.symm
  · have e : ns.map V.int = ns.dropLast.map V.int ++ [V.int (ns.getLast h)] := by
      rw [← List.map_singleton, ← List.map_append, List.dropLast_concat_getLast]
    rw [e]
    exact atI_last _ _
theorem ok_put_together {f : Addr} {fd : FuncData} (F : Fun K "put_together" "put_together" s_put_together f fd) : FnOk P w K mg base CX0 1 f fd ["parts"] (sp_put_together K) := by
  refine F.ok sc_put_together (fun vs H Q E h => ?_) (fun cdv A outer s H vs Q E hr h => ?_)
  · obtain ⟨a, ns, rfl, _⟩ := h
    rfl
  · obtain ⟨a, ns, rfl, hS, hne, hfew, k⟩ := h
    refine ⟨_, (pss_cons (ps_par (i := 1) (j := 2) (by rfl) sc_put_together.nd rfl rfl (by decide) rfl rfl (pa_cons (pe_ix ix_list (pv 0) (pe_un un_neg pe_int) (fun _ _ => rfl)) (pa_cons pe_int pa_nil)) (by rfl))
    (pss_cons (ps_for PassesOwn.never rfl (pi_list (pe_back (pv 0))) (pg_name (i := 3) sc_put_together.nd rfl (Or.inl rfl))
      (pss_one (ps_par (i := 1) (j := 2) (by rfl) sc_put_together.nd rfl rfl (by decide) rfl rfl (pa_cons (pe_op op_add (pe_op op_mul (pv 3) (pv 1)) (pv 2)) (pa_cons (pv 1) pa_nil)) (by rfl))))
    (pss_one (ps_ret (pe_tup (pa_cons (pv 1) (pa_cons (pv 2) pa_nil))))))), ?_⟩
    obtain ⟨z, r, er, er2, eat, hsub⟩ := last_of hne
    refine ⟨_, rfl, 1, rfl, a, _, _, .int z, rfl, rfl, hS, eat, _, _, rfl, ?_⟩
    refine ⟨_, rfl, a, _, rfl, hS, by simpa using hne, fun l nl => ?_⟩
    have el : (ns.map V.int).dropLast.reverse = r.map V.int := by rw [er2, List.map_reverse, List.map_dropLast]
    rw [el]
    have hL : SqL K (upd H l (.lst (r.map V.int))) l (r.map V.int) := SqL.of upd_same
    refine ⟨l, rfl, ⟨_, hL⟩, for_list (K := K) (a := l) (xs := r.map V.int) (fun i σ H2 => ∃ v : Option V, σ = [some (.ref a), some (.int ((r.take i).foldl stepF (z, 1)).1), some (.int ((r.take i).foldl stepF (z, 1)).2), v] ∧ H2 = upd H l (.lst (r.map V.int)))
      ⟨none, rfl, rfl⟩ (fun i σ H2 _ ⟨_, _, e⟩ => by rw [e]; exact hL) ?_ ?_⟩
    · rintro i y σ H2 hi ⟨v, rfl, rfl⟩
      obtain ⟨q, hq, rfl⟩ := ints_at hi
      have hb := hfew.2 q (hsub q (List.mem_of_getElem? hq))
      refine ⟨_, rfl, _, rfl, _, _, rfl, rfl, .inl hb, _, rfl, _, _, rfl, rfl, _, rfl, _, _, rfl, some (.int q), ?_, rfl⟩
      rw [foldl_take stepF hq]
      rfl
    · rintro σ H2 ⟨v, rfl, rfl⟩
      rw [List.length_map, List.take_length]
      have ef : r.foldl stepF (z, 1) = fold ns := by
        rw [fold_rev, er, List.foldl_cons]
        show _ = r.foldl stepF (z * 1 + 0, 1)
        rw [Int.mul_one, Int.add_zero]
      rw [ef]
      refine ⟨_, rfl, _, rfl, (by show 2 ≤ sizeLine; decide), fun p hp => ?_⟩
      exact k _ p (fun b o e => same_upd hp _ _ (same_upd nl _ _ e)) ((same_upd nl).free hp) upd_same
/-! ### the law's own: a pair that is as it should be; parts from behind -/
def sp_law_pair (K : PySem.W.Frag) : Sp := fun vs H Q _ => ∃ (p q : Addr) (x y : Int), vs = [.ref p, .ref q] ∧ H p = some (.tup [.int x, .int y]) ∧ H q = some (.tup [.int x, .int y]) ∧ Q (.bl true) H
theorem ok_law_pair {f : Addr} {fd : FuncData} (F : Fun K "_law_pair" "_law_pair" s_law_pair f fd) (T : BT mg) (G_law_whole : COk P w K mg base CX0 1 "_law_whole" ["_law_found"] sp_law_whole) : FnOk P w K mg base CX0 2 f fd ["_law_found", "_law_due"] (sp_law_pair K) := by
  refine F.ok sc_law_pair (fun vs H Q E h => ?_) (fun cdv A outer s H vs Q E hr h => ?_)
  · obtain ⟨p, q, x, y, rfl, _⟩ := h
    rfl
  · obtain ⟨p, q, x, y, rfl, hp, hq, k⟩ := h
    refine ⟨_, (pss_cons (ps_if (PW.pt (pw_or (pt_not (pt_val (pe_callB call_isi (by rfl) T.b_isinstance (by decide +kernel) (pa_cons (pv 0) (pa_cons (pe_bltn (v := .ty "tuple") (by rfl) T.b_tuple (by decide +kernel) rfl) pa_nil))))) (pw_or (pt_cmpR op_ne (pe_callB call_len_seq (by rfl) T.b_len (by decide +kernel) (pa_cons (pv 0) pa_nil)) pe_int (nomark _)) (pw_or (pt_not (pt_val (pe_c G_law_whole (hr.mono (by first | decide | omega)) (pa_cons (pe_ix ix_tup (pv 0) pe_int (fun _ _ => rfl)) pa_nil)))) (pw_or1 (pt_not (pt_val (pe_c G_law_whole (hr.mono (by first | decide | omega)) (pa_cons (pe_ix ix_tup (pv 0) pe_int (fun _ _ => rfl)) pa_nil)))))))))
      (pss_one (ps_ret pe_bl)) pss_nil)
    (pss_one (ps_ret (pe_cmpR (op_eqD hr.units) (pv 0) (pv 1) (nomark _))))), ?_⟩
    refine ⟨_, rfl, _, _, _, _, true, rfl, .ty "tuple", .base (.tup hp), kit_ty (by decide +kernel), _, rfl, iteF ?_⟩
    refine ⟨_, rfl, p, _, rfl, .inr (SqT.of hp), rfl, _, rfl, iteF ?_⟩
    refine ⟨_, rfl, p, _, 0, .int x, rfl, rfl, SqT.of hp, atI_nat (j := 0) rfl, x, rfl, _, rfl, iteF ?_⟩
    refine ⟨_, rfl, p, _, 1, .int y, rfl, rfl, SqT.of hp, atI_nat (j := 1) rfl, y, rfl, _, rfl, iteF ?_⟩
    refine ⟨_, rfl, _, rfl, .tuple [.int x, .int y], .tuple [.int x, .int y], .tup (SqT.of hp) (.cons (.int x) (.cons (.int y) .nil)), .tup (SqT.of hq) (.cons (.int x) (.cons (.int y) .nil)), rfl, rfl, ?_⟩
    show Q (.bl (PyData.eqv (.tuple [.int x, .int y]) (.tuple [.int x, .int y]))) H
    rw [SeqAt.eqv_refl _ rfl]
    exact k
def sp_law_folded (K : PySem.W.Frag) : Sp := fun vs H Q _ => ∃ (a : Addr) (ns : List Int), vs = [.ref a] ∧ SqL K H a (ns.map V.int) ∧ few ns ∧ (fold ns).2 ≠ 0 ∧ small (fold ns).1 ∧ small (fold ns).2 ∧
  ∀ p, H p = none → Q (.ref p) (upd H p (.tup [.int (fold (chain (fold ns).1 (fold ns).2)).1, .int (fold (chain (fold ns).1 (fold ns).2)).2]))
theorem ok_law_folded {f : Addr} {fd : FuncData} (F : Fun K "_law_folded" "_law_folded" s_law_folded f fd) (T : BT mg) (G_law_lowest : COk P w K mg base CX0 2 "_law_lowest" ["_law_top", "_law_below"] sp_law_lowest) : FnOk P w K mg base CX0 3 f fd ["_law_parts"] (sp_law_folded K) := by
  refine F.ok sc_law_folded (fun vs H Q E h => ?_) (fun cdv A outer s H vs Q E hr h => ?_)
  · obtain ⟨a, ns, rfl, _⟩ := h
    rfl
  · obtain ⟨a, ns, rfl, hS, hfew, h0, h1, h2, k⟩ := h
    refine ⟨_, (pss_cons (ps_set (i := 1) sc_law_folded.nd rfl (Or.inl rfl) pe_int)
    (pss_cons (ps_set (i := 2) sc_law_folded.nd rfl (Or.inl rfl) pe_int)
    (pss_cons (ps_for PassesOwn.never rfl (pi_range1 rfl T.b_range (pa_cons (pe_callB call_len_seq (by rfl) T.b_len (by decide +kernel) (pa_cons (pv 0) pa_nil)) pa_nil)) (pg_name (i := 3) sc_law_folded.nd rfl (Or.inl rfl))
      (pss_cons (ps_set (i := 4) sc_law_folded.nd rfl (Or.inl rfl) (pe_ix ix_list (pv 0) (pe_op op_sub (pe_op op_sub (pe_callB call_len_seq (by rfl) T.b_len (by decide +kernel) (pa_cons (pv 0) pa_nil)) pe_int) (pv 3)) (fun _ _ => rfl)))
    (pss_one (ps_par (i := 1) (j := 2) (by rfl) sc_law_folded.nd rfl rfl (by decide) rfl rfl (pa_cons (pe_op op_add (pe_op op_mul (pv 4) (pv 1)) (pv 2)) (pa_cons (pv 1) pa_nil)) (by rfl)))))
    (pss_one (ps_ret (pe_c G_law_lowest (hr.mono (by first | decide | omega)) (pa_cons (pv 1) (pa_cons (pv 2) pa_nil)))))))), ?_⟩
    have hl := hfew.1
    have hlm : (ns.map V.int).length = ns.length := List.length_map _
    refine ⟨_, rfl, a, _, rfl, .inl hS, ((ns.length : Nat) : Int), by rw [hlm], by omega, by omega, for_range (lo := 0) (n := ns.length) (fun i σ H2 => ∃ v4 v5 : Option V, σ = [some (.ref a), some (.int ((ns.reverse.take i).foldl stepF (1, 0)).1), some (.int ((ns.reverse.take i).foldl stepF (1, 0)).2), v4, v5] ∧ H2 = H)
      ⟨none, none, rfl, rfl⟩ ?_ ?_⟩
    · rintro i σ H2 hi ⟨v4, v5, rfl, rfl⟩
      obtain ⟨q, hq⟩ : ∃ q, ns[ns.length - 1 - i]? = some q := ⟨_, List.getElem?_eq_getElem (by omega)⟩
      have hq2 : ns.reverse[i]? = some q := by rw [List.getElem?_reverse hi, hq]
      have hqm : (ns.map V.int)[ns.length - 1 - i]? = some (.int q) := by rw [List.getElem?_map, hq]; rfl
      have hb := hfew.2 q (List.mem_of_getElem? hq)
      refine ⟨_, rfl, _, rfl, a, _, rfl, .inl hS, _, _, rfl, rfl, _, rfl, _, _, rfl, rfl, a, _, _, .int q, rfl, rfl, hS, at_of (j := ns.length - 1 - i) (by rw [hlm]; omega) hqm, ?_⟩
      refine ⟨_, rfl, _, rfl, _, _, rfl, rfl, .inl hb, _, rfl, _, _, rfl, rfl, _, rfl, _, _, rfl, some (.int (0 + (i : Int))), some (.int q), ?_, rfl⟩
      rw [foldl_take stepF hq2]
      rfl
    · rintro σ H2 ⟨v4, v5, rfl, rfl⟩
      rw [List.take_of_length_le (by rw [List.length_reverse]; exact Nat.le_refl _), ← fold_rev]
      exact ⟨_, rfl, _, rfl, _, _, rfl, h0, h1, h2, k⟩
end
/-! ### the law itself -/
theorem menu4 {v : Int} (h0 : 0 ≤ v) (h1 : v < 4) : ∃ m : Int, atI [V.int 60, .int 60, .int 60, .int 1000000000] v = some (.int m) ∧ 0 < m ∧ m ≤ 1000000000 := by
  obtain e | e | e | e : v = 0 ∨ v = 1 ∨ v = 2 ∨ v = 3 := by omega
  all_goals subst e
  · exact ⟨60, rfl, by decide, by decide⟩
  · exact ⟨60, rfl, by decide, by decide⟩
  · exact ⟨60, rfl, by decide, by decide⟩
  · exact ⟨1000000000, rfl, by decide, by decide⟩
theorem ixN_last {n : Nat} (h : 0 < n) : ixN n (-1) = some (n - 1) := by
  unfold ixN
  rw [if_neg (by decide), if_pos (by omega)]
  congr 1
  omega
/-- parts, as they are drawn -/
def Drawn (f : Int) (r : List Int) : Prop := -20 ≤ f ∧ f ≤ 20 ∧ r.length ≤ 11 ∧ ∀ p ∈ r, 1 ≤ p ∧ p ≤ 1000000001
theorem Drawn.fold_small {f : Int} {r : List Int} (d : Drawn f r) : small (fold (f :: r)).1 ∧ small (fold (f :: r)).2 := by
  obtain ⟨h1, h2, h3, h4⟩ := d
  have hb := fold_bound (f :: r) (by
    intro p hp
    have : (2 : Nat) ^ 39 = 549755813888 := by decide
    rcases List.mem_cons.mp hp with rfl | hp
    · omega
    · have := h4 p hp; omega)
  have hp : 2 ^ (40 * (f :: r).length) < 2 ^ 1000 := Nat.pow_lt_pow_right (by decide) (by rw [List.length_cons]; omega)
  exact ⟨Nat.lt_of_le_of_lt hb.1 hp, Nat.lt_of_le_of_lt hb.2 hp⟩
theorem Drawn.few {f : Int} {r : List Int} (d : Drawn f r) : few (f :: r) := by
  obtain ⟨h1, h2, h3, h4⟩ := d
  refine ⟨by rw [List.length_cons]; omega, fun p hp => ?_⟩
  have : (2 : Int) ^ 64 = 18446744073709551616 := by decide
  rcases List.mem_cons.mp hp with rfl | hp
  · omega
  · have := h4 p hp; omega
theorem chain_few {t b : Int} (ht : t.natAbs ≤ 2 ^ 50) (hb : b.natAbs ≤ 2 ^ 50) : few (chain t b) := by
  have big : (2 : Nat) ^ 50 < 2 ^ 64 := by decide
  refine ⟨Nat.le_trans (chain_len 51 t b (Nat.lt_of_le_of_lt hb (by decide))) (by decide), ?_⟩
  have key : ∀ (n : Nat) (t b : Int), b.natAbs ≤ n → t.natAbs ≤ 2 ^ 50 → b.natAbs ≤ 2 ^ 50 → ∀ p ∈ chain t b, p.natAbs ≤ 2 ^ 50 := by
    intro n
    induction n with
    | zero =>
      intro t b h _ _ p hp
      have e : b = 0 := by omega
      rw [e, chain_zero] at hp
      cases hp
    | succ n ih =>
      intro t b h h1 h2 p hp
      by_cases e : b = 0
      · rw [e, chain_zero] at hp
        cases hp
      · rw [chain_cons e] at hp
        have hm := fmod_abs (a := t) e
        rcases List.mem_cons.mp hp with rfl | hp
        · exact Nat.le_trans (fdiv_abs e) h1
        · exact ih b (t.fmod b) (by omega) h2 (by omega) p hp
  intro p hp
  have := key b.natAbs t b (Nat.le_refl _) ht hb p hp
  have e : (2 : Int) ^ 64 = ((2 ^ 64 : Nat) : Int) := by decide
  omega
def sp_law (K : PySem.W.Frag) : Sp := fun vs H Q _ => ∃ (a : Addr) (ns : List Int), vs = [.ref a] ∧ ScrAt K H a ns ∧ ns.length ≤ 63 ∧ ∀ H', Q (.bl true) H'
section
variable {P : Program} {w : World} {K : PySem.W.Frag} {mg : Str → Option Value} {base : Heap}
theorem ok_law {f : Addr} {fd : FuncData} (F : Fun K "law" "law" s_law f fd) (T : BT mg) (G_law_row : COk P w K mg base CX0 1 "_law_row" ["_law_script"] (sp_law_row K)) (G_law_taken : COk P w K mg base CX0 1 "_law_taken" ["_law_row_here", "_law_many"] (sp_law_taken K))
    (G_law_signed : COk P w K mg base CX0 2 "_law_signed" ["_law_row_here", "_law_most"] (sp_law_signed K)) (G_law_pair : COk P w K mg base CX0 2 "_law_pair" ["_law_found", "_law_due"] (sp_law_pair K)) (G_law_folded : COk P w K mg base CX0 3 "_law_folded" ["_law_parts"] (sp_law_folded K))
    (G_law_chain : COk P w K mg base CX0 1 "_law_chain" ["_law_top", "_law_below"] sp_law_chain) (G_law_lowest : COk P w K mg base CX0 2 "_law_lowest" ["_law_top", "_law_below"] sp_law_lowest) (G_put_together : COk P w K mg base CX0 1 "put_together" ["parts"] (sp_put_together K)) : FnOk P w K mg base CX0 4 f fd ["_law_script"] (sp_law K) := by
  refine F.ok sc_law (fun vs H Q E h => ?_) (fun cdv A outer s H vs Q E hr h => ?_)
  · obtain ⟨a, ns, rfl, _⟩ := h
    rfl
  · obtain ⟨a, ns, rfl, hS, hlen, k⟩ := h
    refine ⟨_, (pss_cons (ps_set (i := 1) sc_law.nd rfl (Or.inr rfl) (pe_c G_law_row (hr.mono (by first | decide | omega)) (pa_cons (pv 0) pa_nil)))
    (pss_cons (ps_set (i := 2) sc_law.nd rfl (Or.inr rfl) (pe_ix ix_list (pe_lst (pa_cons pe_int (pa_cons pe_int (pa_cons pe_int (pa_cons (pe_powc (v := 1000000000) (by decide) ⟨by decide, by decide, by decide⟩) pa_nil))))) (pe_c G_law_taken (hr.mono (by first | decide | omega)) (pa_cons (pv 1) (pa_cons pe_int pa_nil))) (fun _ _ => rfl)))
    (pss_cons (ps_set (i := 3) sc_law.nd rfl (Or.inl rfl) (pe_op op_cat (pe_lst (pa_cons (pe_c G_law_signed (hr.mono (by first | decide | omega)) (pa_cons (pv 1) (pa_cons pe_int pa_nil))) pa_nil)) (pe_lc (own := [("_law_k", 4)]) (g := gName 4) (tt := tYes) rfl sc_law.nd (pi_range1 rfl T.b_range (pa_cons (pe_c G_law_taken (hr.mono (by first | decide | omega)) (pa_cons (pv 1) (pa_cons pe_int pa_nil))) pa_nil)) (blkOk_by (own := [("_law_k", 4)]) (N := ["_law_script", "_law_row_here", "_law_most", "_law_parts", "_law_k", "_law_handed", "_law_due", "_law_top", "_law_below"]) (sc := defScope s_law) (by decide +kernel)) (fun _ _ _ _ _ => (pg_name (i := 4) sc_law.nd rfl (Or.inl rfl))) (fun _ _ _ _ _ => pts_nil) (fun _ _ _ _ _ => (pe_op op_add pe_int (pe_c G_law_taken (hr.mono (by first | decide | omega)) (pa_cons (pv 1) (pa_cons (pv 2) pa_nil))))))))
    (C8.pss_cut (ps_if (PW.pt (pw_and (pt_cmpR op_gt (pe_callB call_len_seq (by rfl) T.b_len (by decide +kernel) (pa_cons (pv 3) pa_nil)) pe_int (nomark _)) (pw_and1 (pt_cmpR op_eq (pe_ix ix_list (pv 3) (pe_un un_neg pe_int) (fun _ _ => rfl)) pe_int (nomark _)))))
      (pss_one (ps_asg pe_int (pg_sub (pv 3) (pe_un un_neg pe_int) set_list))) pss_nil)
    (pss_cons (ps_set (i := 5) sc_law.nd rfl (Or.inl rfl) (pe_callTy call_list_of (by rfl) T.b_list (by decide +kernel) (pa_cons (pv 3) pa_nil)))
    (pss_cons (ps_set (i := 6) sc_law.nd rfl (Or.inl rfl) (pe_c G_law_folded (hr.mono (by first | decide | omega)) (pa_cons (pv 3) pa_nil)))
    (pss_cons (ps_if (PW.pt (pw_or (pt_not (pt_val (pe_c G_law_pair (hr.mono (by first | decide | omega)) (pa_cons (pe_c G_put_together (hr.mono (by first | decide | omega)) (pa_cons (pv 5) pa_nil)) (pa_cons (pv 6) pa_nil))))) (pw_or (pt_cmpR (op_neD hr.units) (pv 5) (pv 3) (nomark _)) (pw_or1 (pt_cmpR (op_neD hr.units) (pe_c G_law_chain (hr.mono (by first | decide | omega)) (pa_cons (pe_ix ix_tup (pv 6) pe_int (fun _ _ => rfl)) (pa_cons (pe_ix ix_tup (pv 6) pe_int (fun _ _ => rfl)) pa_nil))) (pv 3) (nomark _))))))
      (pss_one (ps_ret pe_bl)) pss_nil)
    (pss_cons (ps_set (i := 7) sc_law.nd rfl (Or.inl rfl) (pe_c G_law_signed (hr.mono (by first | decide | omega)) (pa_cons (pv 1) (pa_cons (pe_powc (v := 1000000000000) (by decide) ⟨by decide, by decide, by decide⟩) pa_nil))))
    (pss_cons (ps_set (i := 8) sc_law.nd rfl (Or.inl rfl) (pe_op op_add pe_int (pe_c G_law_taken (hr.mono (by first | decide | omega)) (pa_cons (pv 1) (pa_cons (pe_powc (v := 1000000000000) (by decide) ⟨by decide, by decide, by decide⟩) pa_nil)))))
    (pss_one (ps_ret (pe_c G_law_pair (hr.mono (by first | decide | omega)) (pa_cons (pe_c G_put_together (hr.mono (by first | decide | omega)) (pa_cons (pe_c G_law_chain (hr.mono (by first | decide | omega)) (pa_cons (pv 7) (pa_cons (pv 8) pa_nil))) pa_nil)) (pa_cons (pe_c G_law_lowest (hr.mono (by first | decide | omega)) (pa_cons (pv 7) (pa_cons (pv 8) pa_nil))) pa_nil)))))))))))))), ?_⟩
    have w4 : (4 : Int) < 2 ^ 8000 := by decide +kernel
    have w12 : (12 : Int) < 2 ^ 8000 := by decide +kernel
    have wg : (1000000000 : Int) < 2 ^ 8000 := by decide +kernel
    have wt : (1000000000000 : Int) < 2 ^ 8000 := by decide +kernel
    refine ⟨_, rfl, a, ns, rfl, hS, hlen, fun r H1 nr s1 R1 => ?_⟩
    -- most
    refine ⟨(by show 4 ≤ sizeLine; decide), fun m nm => ?_⟩
    refine ⟨_, rfl, r, a, ns, _, rfl, R1.same (same_upd nm), by decide, w4, fun v H2 v0 v1 R2 kp2 => ?_⟩
    obtain ⟨most, em, m0, m1⟩ := menu4 v0 v1
    have nmr : m ≠ r := by
      obtain ⟨x, xs, e⟩ := R1.at_
      exact (ne_of_none e nm).symm
    refine ⟨m, _, _, _, rfl, rfl, SqL.of (kp2 m _ upd_same nmr), em, ?_⟩
    -- parts
    refine ⟨_, rfl, r, a, ns, _, rfl, R2, by decide, by decide, fun first H3 f0 f1 R3 kp3 => ?_⟩
    refine ⟨(by show 1 ≤ sizeLine; decide), fun l nl => ?_⟩
    have nlr : l ≠ r := by
      obtain ⟨x, xs, e⟩ := R3.at_
      exact (ne_of_none e nl).symm
    refine ⟨_, rfl, r, a, ns, _, rfl, R3.same (same_upd nl), by decide, w12, fun cnt H4 c0 c1 R4 kp4 => ?_⟩
    have hl4 : H4 l = some (.lst [.int first]) := kp4 l _ upd_same nlr
    refine ⟨cnt, rfl, by omega, by omega, fun D nD => lc_range (lo := 0) (n := cnt.toNat) (fun i H' => ∃ r' : List Int, H' D = some (.lst (r'.map V.int)) ∧ r'.length = i ∧ (∀ p ∈ r', 1 ≤ p ∧ p ≤ 1000000001) ∧ H' l = some (.lst [.int first]) ∧ RowAt K H' r a ns) ?_ ?_ ?_⟩
    · exact ⟨[], upd_same, rfl, (fun p hp => by cases hp), same_upd nD _ _ hl4, R4.same (same_upd nD)⟩
    · rintro i H' hi ⟨r', hD, hl', hp', hl1, R'⟩
      refine ⟨rfl, ?_⟩
      have nDr : D ≠ r := by
        obtain ⟨x, xs, e⟩ := R'.at_
        exact ne_of hD e (by intro z; exact ref_ne r' (HO.lst.inj z).symm)
      refine ⟨_, rfl, _, rfl, r, a, ns, most, rfl, R', m0, Int.lt_of_le_of_lt m1 wg, fun t H'' t0 t1 R'' kp'' => ?_⟩
      refine ⟨_, _, rfl, rfl, r'.map V.int, kp'' D _ hD nDr, ?_, r' ++ [1 + t], ?_, ?_, ?_, ?_, ?_⟩
      · rw [List.length_map]
        exact Nat.lt_of_lt_of_le (show r'.length < 12 by omega) (by decide)
      · rw [upd_same, List.map_append]
        rfl
      · rw [List.length_append, hl']
        rfl
      · intro p hp
        rcases List.mem_append.mp hp with hp | hp
        · exact hp' p hp
        · have e := List.mem_singleton.mp hp
          omega
      · have nlD : l ≠ D := fun e => by
          rw [e, hD] at hl1
          cases r' with
          | nil => cases hl1
          | cons x y =>
            rw [e, nD] at hl4
            cases hl4
        rw [upd_ne nlD]
        exact kp'' l _ hl1 nlr
      · exact R''.put (kp'' D _ hD nDr) nDr
    · rintro H5 ⟨r', hD, hl', hp', hl1, R5⟩
      refine ⟨l, D, _, _, rfl, rfl, hl1, hD, ?_, fun q nq => ?_⟩
      · rw [List.length_map, hl']
        exact Nat.le_trans (show 1 + cnt.toNat ≤ 20 by omega) (by decide)
      have R6 := R5.same (same_upd (o := .lst ([V.int first] ++ r'.map V.int)) nq)
      have d0 : Drawn first r' := ⟨by omega, by omega, by omega, hp'⟩
      have hq0 : (upd H5 q (.lst ([V.int first] ++ r'.map V.int))) q = some (.lst ((first :: r').map V.int)) := upd_same
      have nqr : q ≠ r := by
        obtain ⟨x, xs, e⟩ := R5.at_
        exact (ne_of_none e nq).symm
      generalize upd H5 q (.lst ([V.int first] ++ r'.map V.int)) = H6 at R6 hq0
      -- a last part of 1 becomes 2
      refine ⟨fun σ H' => ∃ (r2 : List Int) (v4 : Option V), σ = [some (.ref a), some (.ref r), some (.int most), some (.ref q), v4, none, none, none, none] ∧ Drawn first r2 ∧ Tail r2 ∧ H' q = some (.lst ((first :: r2).map V.int)) ∧ RowAt K H' r a ns, ?_, ?_⟩
      · refine ⟨_, rfl, q, _, rfl, .inl (SqL.of hq0), _, _, rfl, rfl, _, rfl, ite2 (fun c => ?_) (fun c => ?_)⟩
        · have hn : r' ≠ [] := fun z => by
            have := of_decide_eq_true c
            rw [z] at this
            have e1 : (((([first] : List Int).map V.int).length : Nat) : Int) = 1 := rfl
            rw [e1] at this
            exact absurd this (by decide)
          obtain ⟨i0, z, rfl⟩ : ∃ i0 z, r' = i0 ++ [z] := ⟨_, _, (List.dropLast_concat_getLast hn).symm⟩
          have eat : atI ((first :: (i0 ++ [z])).map V.int) (-1) = some (.int z) := by
            have : (first :: (i0 ++ [z])).map V.int = (first :: i0).map V.int ++ [.int z] := by simp
            rw [this]
            exact atI_last _ _
          have hz := hp' z (List.mem_append_right _ List.mem_cons_self)
          refine ⟨_, rfl, 1, rfl, q, _, _, _, rfl, rfl, SqL.of hq0, eat, rfl, _, rfl, ite2 (fun c2 => ?_) (fun c2 => ?_)⟩
          · refine ⟨_, rfl, 1, rfl, q, _, _, i0.length + 1, rfl, rfl, hq0, ?_, i0 ++ [2], _, rfl, ?_, ?_, ?_, R6.put hq0 nqr⟩
            · rw [ixN_last (by simp)]
              simp
            · obtain ⟨a1, a2, a3, a4⟩ := d0
              refine ⟨a1, a2, by simpa using a3, fun p hp => ?_⟩
              rcases List.mem_append.mp hp with hp | hp
              · exact a4 p (List.mem_append_left _ hp)
              · have e := List.mem_singleton.mp hp
                omega
            · refine ⟨fun p hp => ?_, fun x hx => ?_⟩
              · rcases List.mem_append.mp hp with hp | hp
                · exact (hp' p (List.mem_append_left _ hp)).1
                · have e := List.mem_singleton.mp hp
                  omega
              · rw [List.getLast?_concat] at hx
                have e := Option.some.inj hx
                omega
            · rw [upd_same]
              simp
          · refine ⟨_, _, rfl, d0, ⟨fun p hp => (hp' p hp).1, fun x hx => ?_⟩, hq0, R6⟩
            rw [List.getLast?_concat] at hx
            have e := Option.some.inj hx
            have : z ≠ 1 := fun y => c2 (decide_eq_true (by rw [y]))
            omega
        · have e : r' = [] := by
            cases r' with
            | nil => rfl
            | cons x y => exact absurd (decide_eq_true (by show (1 : Int) < (((first :: x :: y).map V.int).length : Nat); rw [List.length_map, List.length_cons, List.length_cons]; omega)) c
          subst e
          exact iteF ⟨[], _, rfl, d0, ⟨(fun p hp => by cases hp), (fun x hx => by cases hx)⟩, hq0, R6⟩
      · rintro σ H7 ⟨r2, v4, rfl, d2, t2, hq7, R7⟩
        have ech := chain_fold first r2 t2
        obtain ⟨sm1, sm2⟩ := d2.fold_small
        have hbelow : (fold (first :: r2)).2 ≠ 0 := by
          have := (fold_pos r2 t2.1).1
          show (fold r2).1 ≠ 0
          omega
        -- handed
        refine ⟨_, rfl, q, _, rfl, .inl (SqL.of hq7), fun hd nhd => ?_⟩
        have s8 := same_upd (o := .lst ((first :: r2).map V.int)) nhd
        have hq8 := s8 _ _ hq7
        have R8 := R7.same s8
        have hh8 : (upd H7 hd (.lst ((first :: r2).map V.int))) hd = some (.lst ((first :: r2).map V.int)) := upd_same
        generalize upd H7 hd (.lst ((first :: r2).map V.int)) = H8 at *
        -- due
        refine ⟨_, rfl, q, _, rfl, SqL.of hq8, d2.few, hbelow, sm1, sm2, fun du ndu => ?_⟩
        rw [ech]
        have s9 := same_upd (o := .tup [V.int (fold (first :: r2)).1, .int (fold (first :: r2)).2]) ndu
        have hq9 := s9 _ _ hq8
        have hh9 := s9 _ _ hh8
        have R9 := R8.same s9
        have hd9 : (upd H8 du (.tup [V.int (fold (first :: r2)).1, .int (fold (first :: r2)).2])) du = some (.tup [V.int (fold (first :: r2)).1, .int (fold (first :: r2)).2]) := upd_same
        generalize upd H8 du (.tup [V.int (fold (first :: r2)).1, .int (fold (first :: r2)).2]) = H9 at *
        -- the pair, the list, the chain
        refine ⟨_, rfl, hd, first :: r2, rfl, SqL.of hh9, List.cons_ne_nil _ _, d2.few, fun H10 p1 s10 np1 hp1 => ?_⟩
        refine ⟨_, rfl, p1, du, _, _, rfl, hp1, s10 _ _ hd9, true, rfl, iteF ?_⟩
        refine ⟨_, rfl, _, rfl, _, _, .lst (SqL.of (s10 _ _ hh9)) (dpAll_ints _), .lst (SqL.of (s10 _ _ hq9)) (dpAll_ints _), shaped_ints _, shaped_ints _, _, rfl, ?_⟩
        rw [SeqAt.eqv_refl _ (SeqAt.canLay_of_shaped (shaped_ints _))]
        refine iteF ?_
        refine ⟨_, rfl, du, _, 0, _, rfl, rfl, SqT.of (s10 _ _ hd9), atI_nat (j := 0) rfl, _, rfl, du, _, 1, _, rfl, rfl, SqT.of (s10 _ _ hd9), atI_nat (j := 1) rfl, _, _, rfl, sm1, sm2, fun H11 p2 s11 np2 hp2 => ?_⟩
        rw [ech] at hp2
        refine ⟨_, rfl, _, _, .lst (SqL.of hp2) (dpAll_ints _), .lst (SqL.of (s11 _ _ (s10 _ _ hq9))) (dpAll_ints _), shaped_ints _, shaped_ints _, _, rfl, ?_⟩
        rw [SeqAt.eqv_refl _ (SeqAt.canLay_of_shaped (shaped_ints _))]
        refine iteF ?_
        have R11 := (R9.same s10).same s11
        -- a fraction
        refine ⟨_, rfl, r, a, ns, _, rfl, R11, by decide, by decide, fun t H12 t0 t1 R12 kp12 => ?_⟩
        refine ⟨_, rfl, r, a, ns, _, rfl, R12, by decide, wt, fun b0 H13 b1 b2 R13 kp13 => ?_⟩
        have p50 : (2 : Nat) ^ 50 = 1125899906842624 := by decide
        have bt : t.natAbs ≤ 2 ^ 50 := by omega
        have bb : (1 + b0).natAbs ≤ 2 ^ 50 := by omega
        have big : (2 : Nat) ^ 50 < 2 ^ 1000 := Nat.pow_lt_pow_right (by decide) (by decide)
        have st : small t := Nat.lt_of_le_of_lt bt big
        have sb : small (1 + b0) := Nat.lt_of_le_of_lt bb big
        have hb0 : 1 + b0 ≠ 0 := by omega
        refine ⟨_, _, rfl, rfl, ?_⟩
        refine ⟨_, rfl, _, rfl, t, 1 + b0, rfl, st, sb, fun H14 p4 s14 np4 hp4 => ?_⟩
        have hne : chain t (1 + b0) ≠ [] := by
          rw [chain_cons hb0]
          exact List.cons_ne_nil _ _
        refine ⟨p4, _, rfl, SqL.of hp4, hne, chain_few bt bb, fun H15 p5 s15 np5 hp5 => ?_⟩
        refine ⟨_, rfl, _, rfl, t, 1 + b0, rfl, hb0, st, sb, fun p6 np6 => ?_⟩
        exact ⟨p5, p6, _, _, rfl, same_upd np6 _ _ hp5, upd_same, k _⟩
end
theorem all_mk {l : PySem.W.OpenLaw} {w : World} {K : PySem.W.Frag} {h : Heap} {mg : Str → Option Value} {fa f0 f1 f2 f3 f4 f5 f6 f7 f8 f9 f10 : Addr} (X : K.In h) (G : h.Ns mainGlobals mg) (hfa : mg "law" = some (.ref fa))
    {od0 an0 od1 an1 od2 an2 od3 an3 od4 an4 od5 an5 od6 an6 od7 an7 od8 an8 od9 an9 od10 an10 : Option Addr} {sl0 sl1 sl2 sl3 sl4 sl5 sl6 sl7 sl8 sl9 sl10 : Array (Option Value)} {oc0 kV0 dc0 pm0 cd0 ct0 oc1 kV1 dc1 pm1 cd1 ct1 oc2 kV2 dc2 pm2 cd2 ct2 oc3 kV3 dc3 pm3 cd3 ct3 oc4 kV4 dc4 pm4 cd4 ct4 oc5 kV5 dc5 pm5 cd5 ct5 oc6 kV6 dc6 pm6 cd6 ct6 oc7 kV7 dc7 pm7 cd7 ct7 oc8 kV8 dc8 pm8 cd8 ct8 oc9 kV9 dc9 pm9 cd9 ct9 oc10 kV10 dc10 pm10 cd10 ct10 : Value}
    (a0 : PySem.W.nsIn K mainGlobals "put_together" = some (some (.ref f0))) (l0 : K.lookup f0 = some ⟨oc0, od0, .func (PySem.W.fnOf "put_together" "put_together" (defArgs s_put_together) (defBody s_put_together) (defScope s_put_together) .none kV0 dc0 pm0 an0 cd0 ct0), sl0⟩) (c0 : PySem.W.codeIn K cd0 "put_together" = true) (k0 : PySem.W.keepIn K (.ref f0) = true)
    (a1 : PySem.W.nsIn K mainGlobals "_law_row" = some (some (.ref f1))) (l1 : K.lookup f1 = some ⟨oc1, od1, .func (PySem.W.fnOf "_law_row" "_law_row" (defArgs s_law_row) (defBody s_law_row) (defScope s_law_row) .none kV1 dc1 pm1 an1 cd1 ct1), sl1⟩) (c1 : PySem.W.codeIn K cd1 "_law_row" = true) (k1 : PySem.W.keepIn K (.ref f1) = true)
    (a2 : PySem.W.nsIn K mainGlobals "_law_taken" = some (some (.ref f2))) (l2 : K.lookup f2 = some ⟨oc2, od2, .func (PySem.W.fnOf "_law_taken" "_law_taken" (defArgs s_law_taken) (defBody s_law_taken) (defScope s_law_taken) .none kV2 dc2 pm2 an2 cd2 ct2), sl2⟩) (c2 : PySem.W.codeIn K cd2 "_law_taken" = true) (k2 : PySem.W.keepIn K (.ref f2) = true)
    (a3 : PySem.W.nsIn K mainGlobals "_law_whole" = some (some (.ref f3))) (l3 : K.lookup f3 = some ⟨oc3, od3, .func (PySem.W.fnOf "_law_whole" "_law_whole" (defArgs s_law_whole) (defBody s_law_whole) (defScope s_law_whole) .none kV3 dc3 pm3 an3 cd3 ct3), sl3⟩) (c3 : PySem.W.codeIn K cd3 "_law_whole" = true) (k3 : PySem.W.keepIn K (.ref f3) = true)
    (a4 : PySem.W.nsIn K mainGlobals "_law_pair" = some (some (.ref f4))) (l4 : K.lookup f4 = some ⟨oc4, od4, .func (PySem.W.fnOf "_law_pair" "_law_pair" (defArgs s_law_pair) (defBody s_law_pair) (defScope s_law_pair) .none kV4 dc4 pm4 an4 cd4 ct4), sl4⟩) (c4 : PySem.W.codeIn K cd4 "_law_pair" = true) (k4 : PySem.W.keepIn K (.ref f4) = true)
    (a5 : PySem.W.nsIn K mainGlobals "_law_signed" = some (some (.ref f5))) (l5 : K.lookup f5 = some ⟨oc5, od5, .func (PySem.W.fnOf "_law_signed" "_law_signed" (defArgs s_law_signed) (defBody s_law_signed) (defScope s_law_signed) .none kV5 dc5 pm5 an5 cd5 ct5), sl5⟩) (c5 : PySem.W.codeIn K cd5 "_law_signed" = true) (k5 : PySem.W.keepIn K (.ref f5) = true)
    (a6 : PySem.W.nsIn K mainGlobals "_law_common" = some (some (.ref f6))) (l6 : K.lookup f6 = some ⟨oc6, od6, .func (PySem.W.fnOf "_law_common" "_law_common" (defArgs s_law_common) (defBody s_law_common) (defScope s_law_common) .none kV6 dc6 pm6 an6 cd6 ct6), sl6⟩) (c6 : PySem.W.codeIn K cd6 "_law_common" = true) (k6 : PySem.W.keepIn K (.ref f6) = true)
    (a7 : PySem.W.nsIn K mainGlobals "_law_lowest" = some (some (.ref f7))) (l7 : K.lookup f7 = some ⟨oc7, od7, .func (PySem.W.fnOf "_law_lowest" "_law_lowest" (defArgs s_law_lowest) (defBody s_law_lowest) (defScope s_law_lowest) .none kV7 dc7 pm7 an7 cd7 ct7), sl7⟩) (c7 : PySem.W.codeIn K cd7 "_law_lowest" = true) (k7 : PySem.W.keepIn K (.ref f7) = true)
    (a8 : PySem.W.nsIn K mainGlobals "_law_chain" = some (some (.ref f8))) (l8 : K.lookup f8 = some ⟨oc8, od8, .func (PySem.W.fnOf "_law_chain" "_law_chain" (defArgs s_law_chain) (defBody s_law_chain) (defScope s_law_chain) .none kV8 dc8 pm8 an8 cd8 ct8), sl8⟩) (c8 : PySem.W.codeIn K cd8 "_law_chain" = true) (k8 : PySem.W.keepIn K (.ref f8) = true)
    (a9 : PySem.W.nsIn K mainGlobals "_law_folded" = some (some (.ref f9))) (l9 : K.lookup f9 = some ⟨oc9, od9, .func (PySem.W.fnOf "_law_folded" "_law_folded" (defArgs s_law_folded) (defBody s_law_folded) (defScope s_law_folded) .none kV9 dc9 pm9 an9 cd9 ct9), sl9⟩) (c9 : PySem.W.codeIn K cd9 "_law_folded" = true) (k9 : PySem.W.keepIn K (.ref f9) = true)
    (a10 : PySem.W.nsIn K mainGlobals "law" = some (some (.ref f10))) (l10 : K.lookup f10 = some ⟨oc10, od10, .func (PySem.W.fnOf "law" "law" (defArgs s_law) (defBody s_law) (defScope s_law) .none kV10 dc10 pm10 an10 cd10 ct10), sl10⟩) (c10 : PySem.W.codeIn K cd10 "law" = true) (k10 : PySem.W.keepIn K (.ref f10) = true)
    (z0 : PySem.W.nsIn K mainGlobals "len" = some none) (z1 : PySem.W.nsIn K mainGlobals "isinstance" = some none) (z2 : PySem.W.nsIn K mainGlobals "range" = some none) (z3 : PySem.W.nsIn K mainGlobals "zip" = some none) (z4 : PySem.W.nsIn K mainGlobals "abs" = some none) (z5 : PySem.W.nsIn K mainGlobals "divmod" = some none) (z6 : PySem.W.nsIn K mainGlobals "min" = some none) (z7 : PySem.W.nsIn K mainGlobals "all" = some none) (z8 : PySem.W.nsIn K mainGlobals "any" = some none) (z9 : PySem.W.nsIn K mainGlobals "list" = some none) (z10 : PySem.W.nsIn K mainGlobals "tuple" = some none) (z11 : PySem.W.nsIn K mainGlobals "str" = some none) (z12 : PySem.W.nsIn K mainGlobals "int" = some none) (z13 : PySem.W.nsIn K mainGlobals "bool" = some none) :
    ∃ fd : FuncData, (∀ (s : Shared) (v : Value), BindsTo s fd ⟨[v], []⟩ [("_law_script", v)]) ∧ ∀ base : Heap, K.In base → base.Ns mainGlobals mg → FnOk l.prog w K mg base CX0 4 fa fd ["_law_script"] (sp_law K) := by
  have e := hfa.symm.trans (PySem.W.mg_of X G a10)
  cases e
  have T : BT mg := ⟨PySem.W.mg_none_of X G z0, PySem.W.mg_none_of X G z1, PySem.W.mg_none_of X G z2, PySem.W.mg_none_of X G z3, PySem.W.mg_none_of X G z4, PySem.W.mg_none_of X G z5, PySem.W.mg_none_of X G z6, PySem.W.mg_none_of X G z7, PySem.W.mg_none_of X G z8, PySem.W.mg_none_of X G z9, PySem.W.mg_none_of X G z10, PySem.W.mg_none_of X G z11, PySem.W.mg_none_of X G z12, PySem.W.mg_none_of X G z13⟩
  have D_put_together := defAt_mk (st := s_put_together) (ps := ["parts"]) X G a0 l0 c0 k0 fun _ _ _ _ _ _ us hl => match us, hl with | [_], _ => rfl
  have D_law_row := defAt_mk (st := s_law_row) (ps := ["_law_script"]) X G a1 l1 c1 k1 fun _ _ _ _ _ _ us hl => match us, hl with | [_], _ => rfl
  have D_law_taken := defAt_mk (st := s_law_taken) (ps := ["_law_row_here", "_law_many"]) X G a2 l2 c2 k2 fun _ _ _ _ _ _ us hl => match us, hl with | [_, _], _ => rfl
  have D_law_whole := defAt_mk (st := s_law_whole) (ps := ["_law_found"]) X G a3 l3 c3 k3 fun _ _ _ _ _ _ us hl => match us, hl with | [_], _ => rfl
  have D_law_pair := defAt_mk (st := s_law_pair) (ps := ["_law_found", "_law_due"]) X G a4 l4 c4 k4 fun _ _ _ _ _ _ us hl => match us, hl with | [_, _], _ => rfl
  have D_law_signed := defAt_mk (st := s_law_signed) (ps := ["_law_row_here", "_law_most"]) X G a5 l5 c5 k5 fun _ _ _ _ _ _ us hl => match us, hl with | [_, _], _ => rfl
  have D_law_common := defAt_mk (st := s_law_common) (ps := ["_law_one", "_law_other"]) X G a6 l6 c6 k6 fun _ _ _ _ _ _ us hl => match us, hl with | [_, _], _ => rfl
  have D_law_lowest := defAt_mk (st := s_law_lowest) (ps := ["_law_top", "_law_below"]) X G a7 l7 c7 k7 fun _ _ _ _ _ _ us hl => match us, hl with | [_, _], _ => rfl
  have D_law_chain := defAt_mk (st := s_law_chain) (ps := ["_law_top", "_law_below"]) X G a8 l8 c8 k8 fun _ _ _ _ _ _ us hl => match us, hl with | [_, _], _ => rfl
  have D_law_folded := defAt_mk (st := s_law_folded) (ps := ["_law_parts"]) X G a9 l9 c9 k9 fun _ _ _ _ _ _ us hl => match us, hl with | [_], _ => rfl
  have D_law := defAt_mk (st := s_law) (ps := ["_law_script"]) X G a10 l10 c10 k10 fun _ _ _ _ _ _ us hl => match us, hl with | [_], _ => rfl
  refine ⟨PySem.W.fnOf "law" "law" (defArgs s_law) (defBody s_law) (defScope s_law) .none kV10 dc10 pm10 an10 cd10 ct10, fun s v => .of_eq rfl, fun base _ _ => ?_⟩
  have G_law_row : COk l.prog w K mg base CX0 1 "_law_row" ["_law_script"] (sp_law_row K) := .of D_law_row (ok_law_row D_law_row.fn)
  have G_law_taken : COk l.prog w K mg base CX0 1 "_law_taken" ["_law_row_here", "_law_many"] (sp_law_taken K) := .of D_law_taken (ok_law_taken D_law_taken.fn T)
  have G_law_whole : COk l.prog w K mg base CX0 1 "_law_whole" ["_law_found"] sp_law_whole := .of D_law_whole (ok_law_whole D_law_whole.fn T)
  have G_law_signed : COk l.prog w K mg base CX0 2 "_law_signed" ["_law_row_here", "_law_most"] (sp_law_signed K) := .of D_law_signed (ok_law_signed D_law_signed.fn G_law_taken)
  have G_law_pair : COk l.prog w K mg base CX0 2 "_law_pair" ["_law_found", "_law_due"] (sp_law_pair K) := .of D_law_pair (ok_law_pair D_law_pair.fn T G_law_whole)
  have G_law_common : COk l.prog w K mg base CX0 1 "_law_common" ["_law_one", "_law_other"] sp_law_common := .of D_law_common (ok_law_common D_law_common.fn T)
  have G_law_lowest : COk l.prog w K mg base CX0 2 "_law_lowest" ["_law_top", "_law_below"] sp_law_lowest := .of D_law_lowest (ok_law_lowest D_law_lowest.fn G_law_common)
  have G_law_chain : COk l.prog w K mg base CX0 1 "_law_chain" ["_law_top", "_law_below"] sp_law_chain := .of D_law_chain (ok_law_chain D_law_chain.fn)
  have G_law_folded : COk l.prog w K mg base CX0 3 "_law_folded" ["_law_parts"] (sp_law_folded K) := .of D_law_folded (ok_law_folded D_law_folded.fn T G_law_lowest)
  have G_put_together : COk l.prog w K mg base CX0 1 "put_together" ["parts"] (sp_put_together K) := .of D_put_together (ok_put_together D_put_together.fn)
  exact ok_law D_law.fn T G_law_row G_law_taken G_law_signed G_law_pair G_law_folded G_law_chain G_law_lowest G_put_together
end Cp
open PySem PySem.W PyProof.Rows
set_option maxRecDepth 100000 in
set_option maxHeartbeats 0 in
theorem PySem.Challenge.cw_chainparts_k03_parts_put_together_holds : PySem.Challenge.rw_chainparts_k03_parts_put_together.Holds := by
  w_on; o_law; k_head; (case hw => w_witness2)
  k_fill
  refine L2.walk_of (l := PySem.Challenge.rw_chainparts_k03_parts_put_together) (n := 63) (k := 4) (x := "_law_script") (CX := fun _ => L2.CX0) (sp := fun w => Cp.sp_law _) rfl (by decide) rfl ⟨rfl, by decide, by decide⟩ (fun w h Y => PySem.W.kIn_of Y) ?F (fun _ _ a ns hl hO hS => ⟨a, ns, rfl, Cp.ScrAt.of hO hS, hl, fun _ => rfl⟩) (fun _ _ _ _ _ h => h)
  case F =>
    intro w mg fa h KX G hmg
    refine' Cp.all_mk KX G hmg ?a0 ?l0 ?c0 ?k0 ?a1 ?l1 ?c1 ?k1 ?a2 ?l2 ?c2 ?k2 ?a3 ?l3 ?c3 ?k3 ?a4 ?l4 ?c4 ?k4 ?a5 ?l5 ?c5 ?k5 ?a6 ?l6 ?c6 ?k6 ?a7 ?l7 ?c7 ?k7 ?a8 ?l8 ?c8 ?k8 ?a9 ?l9 ?c9 ?k9 ?a10 ?l10 ?c10 ?k10 ?z0 ?z1 ?z2 ?z3 ?z4 ?z5 ?z6 ?z7 ?z8 ?z9 ?z10 ?z11 ?z12 ?z13
    (case a0 => k_is)
    (case l0 => k_is)
    (case c0 => k_is)
    (case k0 => k_is)
    (case a1 => k_is)
    (case l1 => k_is)
    (case c1 => k_is)
    (case k1 => k_is)
    (case a2 => k_is)
    (case l2 => k_is)
    (case c2 => k_is)
    (case k2 => k_is)
    (case a3 => k_is)
    (case l3 => k_is)
    (case c3 => k_is)
    (case k3 => k_is)
    (case a4 => k_is)
    (case l4 => k_is)
    (case c4 => k_is)
    (case k4 => k_is)
    (case a5 => k_is)
    (case l5 => k_is)
    (case c5 => k_is)
    (case k5 => k_is)
    (case a6 => k_is)
    (case l6 => k_is)
    (case c6 => k_is)
    (case k6 => k_is)
    (case a7 => k_is)
    (case l7 => k_is)
    (case c7 => k_is)
    (case k7 => k_is)
    (case a8 => k_is)
    (case l8 => k_is)
    (case c8 => k_is)
    (case k8 => k_is)
    (case a9 => k_is)
    (case l9 => k_is)
    (case c9 => k_is)
    (case k9 => k_is)
    (case a10 => k_is)
    (case l10 => k_is)
    (case c10 => k_is)
    (case k10 => k_is)
    (case z0 => k_is)
    (case z1 => k_is)
    (case z2 => k_is)
    (case z3 => k_is)
    (case z4 => k_is)
    (case z5 => k_is)
    (case z6 => k_is)
    (case z7 => k_is)
    (case z8 => k_is)
    (case z9 => k_is)
    (case z10 => k_is)
    (case z11 => k_is)
    (case z12 => k_is)
    (case z13 => k_is)
