import PyProof.Rows.All
import Wide.All
import OpenK.AllK
import Wide.FinOn
import HandS.ForMost
import HandS.IsInst
import HandS.Codes
import HandS.Gcd
import HandS.Wide
import HandS.Defaults
import HandS.SlotsOwn
import HandS.ExcField
import HandS.Exc
import HandS.ExcOwn
import HandS.TryOnly
import HandS.WordsExc
import HandS.CallSlots
import HandS.HotCalls
import HandS.FStr
import HandS.ExcInit
import HandS.Nested
import KE.KExcSuper
import PySem.Challenge.RW_sureplay_k00_ratio_in_lowest_terms
set_option Elab.async false
set_option linter.all false
set_option maxRecDepth 100000
set_option maxHeartbeats 4000000
namespace Own
open PySem PySem.Spec PyProof.Rows L2
def topS (i : Nat) : Stmt := PySem.Challenge.pw_sureplay_k00_ratio_in_lowest_terms.main.body.getD i (.Pass ⟨0, 0, 0, 0⟩)
abbrev s_Ratio_init : Stmt := (inClass (topS 13) 0)
abbrev N_Ratio_init : List Str := ["self", "num", "den", "factor"]
theorem sc_Ratio_init : FnScope N_Ratio_init ["self", "num", "den"] (defScope s_Ratio_init) := ⟨rfl, rfl, rfl, by decide +kernel, rfl, by decide +kernel, by decide +kernel⟩
abbrev s_Ratio_add : Stmt := (inClass (topS 13) 1)
abbrev N_Ratio_add : List Str := ["self", "other"]
theorem sc_Ratio_add : FnScope N_Ratio_add ["self", "other"] (defScope s_Ratio_add) := ⟨rfl, rfl, rfl, by decide +kernel, rfl, by decide +kernel, by decide +kernel⟩
abbrev s_Ratio_sub : Stmt := (inClass (topS 13) 2)
abbrev N_Ratio_sub : List Str := ["self", "other"]
theorem sc_Ratio_sub : FnScope N_Ratio_sub ["self", "other"] (defScope s_Ratio_sub) := ⟨rfl, rfl, rfl, by decide +kernel, rfl, by decide +kernel, by decide +kernel⟩
abbrev s_Ratio_mul : Stmt := (inClass (topS 13) 3)
abbrev N_Ratio_mul : List Str := ["self", "other"]
theorem sc_Ratio_mul : FnScope N_Ratio_mul ["self", "other"] (defScope s_Ratio_mul) := ⟨rfl, rfl, rfl, by decide +kernel, rfl, by decide +kernel, by decide +kernel⟩
abbrev s_Ratio_neg : Stmt := (inClass (topS 13) 4)
abbrev N_Ratio_neg : List Str := ["self"]
theorem sc_Ratio_neg : FnScope N_Ratio_neg ["self"] (defScope s_Ratio_neg) := ⟨rfl, rfl, rfl, by decide +kernel, rfl, by decide +kernel, by decide +kernel⟩
abbrev s_Ratio_eq : Stmt := (inClass (topS 13) 5)
abbrev N_Ratio_eq : List Str := ["self", "other"]
theorem sc_Ratio_eq : FnScope N_Ratio_eq ["self", "other"] (defScope s_Ratio_eq) := ⟨rfl, rfl, rfl, by decide +kernel, rfl, by decide +kernel, by decide +kernel⟩
abbrev s_Ratio_ne : Stmt := (inClass (topS 13) 6)
abbrev N_Ratio_ne : List Str := ["self", "other"]
theorem sc_Ratio_ne : FnScope N_Ratio_ne ["self", "other"] (defScope s_Ratio_ne) := ⟨rfl, rfl, rfl, by decide +kernel, rfl, by decide +kernel, by decide +kernel⟩
abbrev s_Ratio_bool : Stmt := (inClass (topS 13) 7)
abbrev N_Ratio_bool : List Str := ["self"]
theorem sc_Ratio_bool : FnScope N_Ratio_bool ["self"] (defScope s_Ratio_bool) := ⟨rfl, rfl, rfl, by decide +kernel, rfl, by decide +kernel, by decide +kernel⟩
abbrev s_Ratio_sign : Stmt := (inClass (topS 13) 12)
abbrev N_Ratio_sign : List Str := ["self"]
theorem sc_Ratio_sign : FnScope N_Ratio_sign ["self"] (defScope s_Ratio_sign) := ⟨rfl, rfl, rfl, by decide +kernel, rfl, by decide +kernel, by decide +kernel⟩
abbrev s_law_cell : Stmt := (topS 15)
abbrev N_law_cell : List Str := ["script", "k"]
theorem sc_law_cell : FnScope N_law_cell ["script", "k"] (defScope s_law_cell) := ⟨rfl, rfl, rfl, by decide +kernel, rfl, by decide +kernel, by decide +kernel⟩
abbrev s_law_is_integer : Stmt := (topS 16)
abbrev N_law_is_integer : List Str := ["actual"]
theorem sc_law_is_integer : FnScope N_law_is_integer ["actual"] (defScope s_law_is_integer) := ⟨rfl, rfl, rfl, by decide +kernel, rfl, by decide +kernel, by decide +kernel⟩
abbrev s_law_gcd : Stmt := (topS 17)
abbrev N_law_gcd : List Str := ["a", "b", "k", "c"]
theorem sc_law_gcd : FnScope N_law_gcd ["a", "b"] (defScope s_law_gcd) := ⟨rfl, rfl, rfl, by decide +kernel, rfl, by decide +kernel, by decide +kernel⟩
abbrev s_law_is_ratio : Stmt := (topS 18)
abbrev N_law_is_ratio : List Str := ["actual", "num", "den", "part"]
theorem sc_law_is_ratio : FnScope N_law_is_ratio ["actual", "num", "den"] (defScope s_law_is_ratio) := ⟨rfl, rfl, rfl, by decide +kernel, rfl, by decide +kernel, by decide +kernel⟩
abbrev s_law_number : Stmt := (topS 19)
abbrev N_law_number : List Str := ["cell"]
theorem sc_law_number : FnScope N_law_number ["cell"] (defScope s_law_number) := ⟨rfl, rfl, rfl, by decide +kernel, rfl, by decide +kernel, by decide +kernel⟩
abbrev s_law_refused : Stmt := (topS 21)
abbrev N_law_refused : List Str := ["num", "e"]
theorem sc_law_refused : FnScope N_law_refused ["num"] (defScope s_law_refused) := ⟨rfl, rfl, rfl, by decide +kernel, rfl, by decide +kernel, by decide +kernel⟩
abbrev s_law_sign : Stmt := (topS 22)
abbrev N_law_sign : List Str := ["num"]
theorem sc_law_sign : FnScope N_law_sign ["num"] (defScope s_law_sign) := ⟨rfl, rfl, rfl, by decide +kernel, rfl, by decide +kernel, by decide +kernel⟩
abbrev s_law : Stmt := (topS 23)
abbrev N_law : List Str := ["script", "k", "num", "den", "ratio", "due"]
theorem sc_law : FnScope N_law ["script"] (defScope s_law) := ⟨rfl, rfl, rfl, by decide +kernel, rfl, by decide +kernel, by decide +kernel⟩
abbrev s_BadRatio_init : Stmt := (inClass (topS 4) 0)
abbrev N_BadRatio_init : List Str := ["self", "value"]
def spLaw (K : PySem.W.Frag) : Sp := fun vs H Q _ => ∃ (a : Addr) (ns : List Int), vs = [.ref a] ∧ SqL K H a (ns.map V.int) ∧ ns.length ≤ 63 ∧ ∀ H', Q (.bl true) H'
def cell (ns : List Int) (k : Int) : Int := ns.getD k.toNat 0
theorem same_upd {H : Hp} {p : Addr} {o : HO} (h : H p = none) : Same H (upd H p o) := fun b x e => by
  rw [upd_ne (ne_of_none e h)]
  exact e
theorem cut_from (xs : List V) (k : Nat) : cutV xs (some (k : Int)) none = xs.drop k := by
  unfold cutV
  rw [HT.sIx_nat, HT.sIx_none]
  by_cases h : k ≤ xs.length
  · rw [Nat.min_eq_left h]
    exact List.take_of_length_le (by rw [List.length_drop]; omega)
  · rw [Nat.min_eq_right (by omega), List.drop_eq_nil_of_le (by omega), List.drop_eq_nil_of_le (by omega)]
    simp
theorem cut_to (xs : List V) (k : Nat) : cutV xs none (some (k : Int)) = xs.take k := by
  unfold cutV
  rw [HT.sIx_nat, HT.sIx_none, List.drop_zero, Nat.sub_zero]
  by_cases h : k ≤ xs.length
  · rw [Nat.min_eq_left h]
  · rw [Nat.min_eq_right (by omega), List.take_of_length_le (Nat.le_refl _), List.take_of_length_le (by omega)]
theorem cut_to' (xs : List V) (k : Int) (h : 0 ≤ k) : cutV xs none (some k) = xs.take k.toNat := by
  obtain ⟨m, rfl⟩ := Int.eq_ofNat_of_zero_le h
  exact cut_to xs m
theorem cut_from' (xs : List V) (k : Int) (h : 0 ≤ k) : cutV xs (some k) none = xs.drop k.toNat := by
  obtain ⟨m, rfl⟩ := Int.eq_ofNat_of_zero_le h
  exact cut_from xs m
theorem small_le {n : Nat} (h : n ≤ 1000) : n ≤ sizeLine := Nat.le_of_lt (small1000 h)
theorem at_ofG {α : Type} {xs : List α} {z : Int} {j : Nat} {v : α} (e : z = (j : Int)) (h : xs[j]? = some v) : atI xs z = some v := by
  rw [e]
  exact atI_nat h
theorem int_of_map {ns : List Int} {i : Nat} {y : V} (hi : (ns.map V.int)[i]? = some y) : ∃ z, ns[i]? = some z ∧ y = V.int z := by
  rw [List.getElem?_map] at hi
  cases e : ns[i]? with
  | none => rw [e] at hi; cases hi
  | some u => rw [e] at hi; exact ⟨u, rfl, (Option.some.inj hi).symm⟩
theorem dp_ints {K : PySem.W.Frag} {H : Hp} : ∀ ns : List Int, DpAll K H (ns.map V.int) (ns.map PyData.int)
  | [] => .nil
  | n :: r => .cons (.int n) (dp_ints r)
theorem lay_ints : ∀ ns : List Int, PyData.canLayAll0 (ns.map PyData.int) = true ∧ PyData.depthAll (ns.map PyData.int) = 0
  | [] => ⟨by simp [PyData.canLayAll0], by simp [PyData.depthAll]⟩
  | n :: r => by
    have ih := lay_ints r
    exact ⟨by simp [PyData.canLayAll0, PyData.canLay0, ih.1], by simp [PyData.depthAll, PyData.depth, ih.2]⟩
theorem shaped_ints (ns : List Int) : SeqAt.shaped (.list (ns.map PyData.int)) = true := by
  have h := lay_ints ns
  unfold SeqAt.shaped
  simp [PyData.canLay0, PyData.depth, h.1, h.2]
theorem eqv_ints (ns : List Int) : PyData.eqv (.list (ns.map PyData.int)) (.list (ns.map PyData.int)) = true :=
  SeqAt.eqv_refl _ (by rw [PyData.canLay0]; exact (lay_ints ns).1)

/-! ### fractions -/
/-- p / q is num / den in lowest terms -/
def Rt (p q num den : Int) : Prop := 0 < q ∧ Nat.gcd p.natAbs q.natAbs = 1 ∧ p * den = num * q
theorem natAbs_eq_of_mul {p q : Int} (hq : 0 < q) (h : Nat.gcd p.natAbs q.natAbs = 1) {p' q' : Int} (hq' : 0 < q') (h' : Nat.gcd p'.natAbs q'.natAbs = 1) (e : p * q' = p' * q) : p = p' ∧ q = q' := by
  have en : p.natAbs * q'.natAbs = p'.natAbs * q.natAbs := by rw [← Int.natAbs_mul, ← Int.natAbs_mul, e]
  have d1 : q.natAbs ∣ q'.natAbs := by
    have c : Nat.Coprime q.natAbs p.natAbs := by rw [Nat.coprime_comm]; exact h
    exact c.dvd_of_dvd_mul_left ⟨p'.natAbs, by rw [en, Nat.mul_comm]⟩
  have d2 : q'.natAbs ∣ q.natAbs := by
    have c : Nat.Coprime q'.natAbs p'.natAbs := by rw [Nat.coprime_comm]; exact h'
    exact c.dvd_of_dvd_mul_left ⟨p.natAbs, by rw [← en, Nat.mul_comm]⟩
  have eq : q.natAbs = q'.natAbs := Nat.dvd_antisymm d1 d2
  have eq' : q = q' := by omega
  refine ⟨?_, eq'⟩
  rw [eq'] at e
  exact Int.eq_of_mul_eq_mul_right (by omega) e
theorem rt_uniq {p q p' q' n d n' d' : Int} (h : Rt p q n d) (h' : Rt p' q' n' d') (hd : d ≠ 0) (hd' : d' ≠ 0) (e : n * d' = n' * d) : p = p' ∧ q = q' := by
  obtain ⟨h1, h2, h3⟩ := h
  obtain ⟨g1, g2, g3⟩ := h'
  refine natAbs_eq_of_mul h1 h2 g1 g2 ?_
  have k : (p * q') * (d * d') = (p' * q) * (d * d') := by
    grind
  exact Int.eq_of_mul_eq_mul_right (Int.mul_ne_zero hd hd') k
/-- the sign and the common divisor -/
def fac (n d : Int) : Int := if d < 0 then -((Nat.gcd n.natAbs d.natAbs : Nat) : Int) else ((Nat.gcd n.natAbs d.natAbs : Nat) : Int)
theorem gcd_pos' {n d : Int} (hd : d ≠ 0) : 0 < Nat.gcd n.natAbs d.natAbs := Nat.gcd_pos_of_pos_right _ (Int.natAbs_pos.mpr hd)
theorem fac_ne {n d : Int} (hd : d ≠ 0) : fac n d ≠ 0 := by
  have := gcd_pos' (n := n) hd
  unfold fac
  split <;> omega
theorem fac_abs (n d : Int) : (fac n d).natAbs = Nat.gcd n.natAbs d.natAbs := by
  unfold fac
  split <;> omega
theorem fac_dvd (n d : Int) : fac n d ∣ n ∧ fac n d ∣ d := by
  have h1 : ((Nat.gcd n.natAbs d.natAbs : Nat) : Int) ∣ n := Int.ofNat_dvd_left.mpr (Nat.gcd_dvd_left _ _)
  have h2 : ((Nat.gcd n.natAbs d.natAbs : Nat) : Int) ∣ d := Int.ofNat_dvd_left.mpr (Nat.gcd_dvd_right _ _)
  unfold fac
  split
  · exact ⟨(Int.neg_dvd).mpr h1, (Int.neg_dvd).mpr h2⟩
  · exact ⟨h1, h2⟩
theorem rt_made {n d : Int} (hd : d ≠ 0) : Rt (n.fdiv (fac n d)) (d.fdiv (fac n d)) n d ∧ (n.fdiv (fac n d)).natAbs ≤ n.natAbs ∧ (d.fdiv (fac n d)).natAbs ≤ d.natAbs := by
  have hf := fac_ne (n := n) hd
  obtain ⟨⟨a, ha⟩, ⟨b, hb⟩⟩ := fac_dvd n d
  have fa := fac_abs n d
  have gp := gcd_pos' (n := n) hd
  generalize hfe : fac n d = f at hf ha hb fa
  have e1 : n.fdiv f = a := by rw [ha]; exact Int.mul_fdiv_cancel_left a hf
  have e2 : d.fdiv f = b := by rw [hb]; exact Int.mul_fdiv_cancel_left b hf
  rw [e1, e2]
  have na : n.natAbs = f.natAbs * a.natAbs := by rw [ha, Int.natAbs_mul]
  have nb : d.natAbs = f.natAbs * b.natAbs := by rw [hb, Int.natAbs_mul]
  have fpos : 0 < f.natAbs := by omega
  refine ⟨⟨?_, ?_, ?_⟩, ?_, ?_⟩
  · -- the sign
    have hs : (d < 0 ∧ f < 0) ∨ (0 < d ∧ 0 < f) := by
      unfold fac at hfe
      split at hfe <;> omega
    rcases hs with ⟨h1, h2⟩ | ⟨h1, h2⟩
    · refine Int.not_le.mp fun z => ?_
      have := Int.mul_nonneg_of_nonpos_of_nonpos (Int.le_of_lt h2) z
      omega
    · refine Int.not_le.mp fun z => ?_
      have := Int.mul_nonpos_of_nonneg_of_nonpos (Int.le_of_lt h2) z
      omega
  · have e : Nat.gcd n.natAbs d.natAbs = f.natAbs * Nat.gcd a.natAbs b.natAbs := by rw [na, nb, Nat.gcd_mul_left]
    rw [← fa] at e
    have : f.natAbs * 1 = f.natAbs * Nat.gcd a.natAbs b.natAbs := by rw [Nat.mul_one]; exact e
    exact (Nat.eq_of_mul_eq_mul_left fpos this).symm
  · have x : a * d = n * b := by rw [hb, ha, ← Int.mul_assoc, Int.mul_comm a f]
    exact x
  · rw [na]
    exact Nat.le_mul_of_pos_left _ fpos
  · rw [nb]
    exact Nat.le_mul_of_pos_left _ fpos
theorem Rt.pos {p q n d : Int} (h : Rt p q n d) : 0 < q := h.1
theorem op_fdivX {X : Cx} : OpR X (binaryOp .FloorDiv) (rI (fun _ j => j ≠ 0 ∧ j.natAbs.log2 < 9000) fun i j => .int (i.fdiv j)) :=
  opI fun _ _ _ _ _ _ _ hc q => floordiv_int hc.1 q (.inl (PyProof.noPylong_of_log2 hc.2))
theorem log_lt {j : Int} {b : Nat} (hb : j.natAbs < 2 ^ b) (h0 : 0 < b) (h9 : b ≤ 9000) : j.natAbs.log2 < 9000 := Nat.lt_of_lt_of_le (PySem.Flt.log2_lt_of h0 hb) h9
/-! ### ratios as objects -/
def pf (p q : Int) : List (Str × V) := putF "den" (.int q) (putF "num" (.int p) [])
theorem nd_ : ¬ (("num" : Str) = "den") := by decide +kernel
theorem pf_num (p q : Int) : (pf p q).lookup ("num" : Str) = some (.int p) := by
  unfold pf
  rw [lookup_putF, if_neg nd_, lookup_putF, if_pos rfl]
theorem pf_den (p q : Int) : (pf p q).lookup ("den" : Str) = some (.int q) := by
  unfold pf
  rw [lookup_putF, if_pos rfl]
theorem pf_no (p q : Int) {m : Str} (h1 : ¬ m = "num") (h2 : ¬ m = "den") : (pf p q).lookup m = none := by
  unfold pf
  rw [lookup_putF, if_neg h2, lookup_putF, if_neg h1]
  rfl
/-- at r a ratio p / q -/
def RatAt (C : Addr) (H : Hp) (r : Addr) (p q : Int) : Prop := ∃ dx, H r = some (.ins C dx (pf p q))
theorem no_below (p q : Int) : (pf p q).lookup ("below" : Str) = none := pf_no _ _ (by decide +kernel) (by decide +kernel)
theorem no_at_most (p q : Int) : (pf p q).lookup ("at_most" : Str) = none := pf_no _ _ (by decide +kernel) (by decide +kernel)
theorem no_over (p q : Int) : (pf p q).lookup ("over" : Str) = none := pf_no _ _ (by decide +kernel) (by decide +kernel)
theorem no_sign (p q : Int) : (pf p q).lookup ("sign" : Str) = none := pf_no _ _ (by decide +kernel) (by decide +kernel)
theorem RatAt.same {C : Addr} {H H' : Hp} {r : Addr} {p q : Int} (h : RatAt C H r p q) (s : Same H H') : RatAt C H' r p q := by
  obtain ⟨dx, e⟩ := h
  exact ⟨dx, s _ _ e⟩
/-- an operator of an own class: both are its instances -/
def rBin (C : Addr) (sp : Sp) (E : XK) : R2 := fun x y H Q => ∃ a dx fs b dy gs, x = .ref a ∧ y = .ref b ∧ H a = some (.ins C dx fs) ∧ H b = some (.ins C dy gs) ∧ sp [x, y] H Q E
theorem op_bin {X : Cx} {op : Operator} {C g : Addr} {n : Nat} {fd : FuncData} {ps : List Str} {sp : Sp} {E : XK} {CX : CXT} (hc : PySem.W.selfFirst X.K C = true) (m : Meth X.K C (PySem.dunder op.info.2) g)
    (F : FnOk X.prog X.w X.K X.mg X.base CX n g fd ps sp) (hr : Room n X.A) (hb : Binds X.K fd ps []) (hx : Passes CX X E) : OpR X (binaryOp op) (rBin C sp E) := by
  intro pins s σ H x y v u Q I rx ry h
  obtain ⟨a, dx, fs, b, dy, gs, rfl, rfl, ha, hb', q⟩ := h
  cases (show v = Value.ref a from rx)
  cases (show u = Value.ref b from ry)
  obtain ⟨mA, O, _⟩ := ins_get I.hok ha
  obtain ⟨od, J, _⟩ := O.look
  obtain ⟨mA', O', _⟩ := ins_get I.hok hb'
  obtain ⟨od', J', _⟩ := O'.look
  obtain ⟨mm, hF⟩ := I.fr
  refine PySem.W.binop_K hF I.ok.mod.kin J J'.type hc m.at_ m.fn ?_
  refine wpAny_mono (run_fn (vs := [.ref a, .ref b]) (dvs := []) (ds := []) F hr hb .nil hx I (.cons rfl (.cons rfl .nil)) q) (fun w s' z => ?_) fun _ _ x => x
  obtain ⟨z', H', I', rz, qz⟩ := z
  exact SlX.cmpback rz ⟨z', H', I', rz, qz⟩
def rNeg (C : Addr) (sp : Sp) (E : XK) : V → Hp → VK → Prop := fun x H Q => ∃ a dx fs, x = .ref a ∧ H a = some (.ins C dx fs) ∧ sp [x] H Q E
theorem un_own {X : Cx} {C g : Addr} {n : Nat} {fd : FuncData} {ps : List Str} {sp : Sp} {E : XK} {CX : CXT} (m : Meth X.K C "__neg__" g)
    (F : FnOk X.prog X.w X.K X.mg X.base CX n g fd ps sp) (hr : Room n X.A) (hb : Binds X.K fd ps []) (hx : Passes CX X E) : UnR X (unaryOp .USub) (rNeg C sp E) := by
  intro pins s σ H x v Q I rx h
  obtain ⟨a, dx, fs, rfl, ha, q⟩ := h
  cases (show v = Value.ref a from rx)
  obtain ⟨mA, O, _⟩ := ins_get I.hok ha
  obtain ⟨od, J, _⟩ := O.look
  obtain ⟨mm, hF⟩ := I.fr
  refine PySem.W.ksp_neg hF I.ok.mod.kin J m.at_ m.fn ?_
  exact run_fn (vs := [.ref a]) (dvs := []) (ds := []) F hr hb .nil hx I (.cons rfl .nil) q
theorem op_cmp {X : Cx} {op : CmpOp} {C g : Addr} {n : Nat} {fd : FuncData} {ps : List Str} {sp : Sp} {E : XK} {CX : CXT} (hop : ∀ a b, compareOp op a b = richCompare op a b) (m : Meth X.K C (PySem.cmpInfo op).2.1 g)
    (F : FnOk X.prog X.w X.K X.mg X.base CX n g fd ps sp) (hr : Room n X.A) (hb : Binds X.K fd ps []) (hx : Passes CX X E) : OpR X (compareOp op) (rBin C sp E) := by
  intro pins s σ H x y v u Q I rx ry h
  obtain ⟨a, dx, fs, b, dy, gs, rfl, rfl, ha, hb', q⟩ := h
  cases (show v = Value.ref a from rx)
  cases (show u = Value.ref b from ry)
  obtain ⟨mA, O, _⟩ := ins_get I.hok ha
  obtain ⟨od, J, _⟩ := O.look
  obtain ⟨mA', O', _⟩ := ins_get I.hok hb'
  obtain ⟨od', J', _⟩ := O'.look
  obtain ⟨mm, hF⟩ := I.fr
  rw [hop]
  refine PySem.W.cmp_K (op := op) (tb := .ref C) hr.units0 hF I.ok.mod.kin J J'.type (by unfold PySem.W.notFirst; simp) m.at_ m.fn ?_
  refine wpAny_mono (run_fn (vs := [.ref a, .ref b]) (dvs := []) (ds := []) F hr hb .nil hx I (.cons rfl (.cons rfl .nil)) q) (fun w s' z => ?_) fun _ _ x => x
  obtain ⟨z', H', I', rz, qz⟩ := z
  exact SlX.cmpback rz ⟨z', H', I', rz, qz⟩
theorem rt_of {p q n d n' d' : Int} (h : Rt p q n d) (hd : d ≠ 0) (e : n * d' = n' * d) : Rt p q n' d' := by
  obtain ⟨h1, h2, h3⟩ := h
  refine ⟨h1, h2, Int.eq_of_mul_eq_mul_right hd ?_⟩
  grind
theorem lt_of {x : Int} {a b : Nat} (h : x.natAbs < 2 ^ a) (l : a ≤ b) : x.natAbs < 2 ^ b := Nat.lt_of_lt_of_le h (Nat.pow_le_pow_right (by decide) l)
theorem add_lt {x y : Int} {a : Nat} (h : x.natAbs < 2 ^ a) (g : y.natAbs < 2 ^ a) : (x + y).natAbs < 2 ^ (a + 1) := by
  rw [Nat.pow_succ]
  omega
theorem sub_lt {x y : Int} {a : Nat} (h : x.natAbs < 2 ^ a) (g : y.natAbs < 2 ^ a) : (x - y).natAbs < 2 ^ (a + 1) := by
  rw [Nat.pow_succ]
  omega
theorem rt_lt {p q u v a b c d : Int} (h : Rt p q a b) (g : Rt u v c d) (hb : 0 < b) (hd : 0 < d) : (p * v < u * q ↔ a * d < c * b) ∧ (p * v ≤ u * q ↔ a * d ≤ c * b) ∧ ((p = u ∧ q = v) ↔ a * d = c * b) := by
  obtain ⟨q0, _, e1⟩ := id h
  obtain ⟨v0, _, e2⟩ := id g
  have k1 : (p * v) * (b * d) = (a * d) * (q * v) := by grind
  have k2 : (u * q) * (b * d) = (c * b) * (q * v) := by grind
  have h1 : 0 < b * d := Int.mul_pos hb hd
  have h2 : 0 < q * v := Int.mul_pos q0 v0
  refine ⟨?_, ?_, ?_⟩
  · rw [← Int.mul_lt_mul_right h1, k1, k2, Int.mul_lt_mul_right h2]
  · rw [← Int.mul_le_mul_right h1, k1, k2, Int.mul_le_mul_right h2]
  · constructor
    · rintro ⟨rfl, rfl⟩
      have := k1.symm.trans k2
      exact Int.eq_of_mul_eq_mul_right (by omega) this
    · intro e
      exact rt_uniq h g (by omega) (by omega) e

section
open NdefX PySem.Calls
/-- the wrapper of ValueError.__init__ is called on an exception in the making -/
theorem mw_run {X : Cx} {pins : List (Addr × Obj)} {σ : L2.St} {H : Hp} {s : Shared} {E : Value → Shared → Prop} {u x C : Addr} {us : List Value} {Q : Value → Shared → Prop} (T : OexC X.K C) (I : Inv X pins σ H s) (e : H x = some (exo x C none))
    (hu : s.heap.get? u = some (PySem.W.kxs_mw "ValueError.__init__" x)) (hl : us.length ≤ sizeLine) (h : ∀ s', Inv X pins σ H s' → Q .none s') : wpAny (model X.prog X.w) X.A (call (.ref u) us) Q E s := by
  obtain ⟨nm, q, N, bs, bm, sn, sub, ab, col, dd, k0, k1, k2, k3, k5, hC, hbm⟩ := T.cls
  obtain ⟨t1, ho⟩ := exo_at I.hok e
  obtain ⟨hp, g, d, t, os⟩ := s
  refine wpAny_call (codeAny_of_tree ?_)
  show wpAny _ X.A.in1 (callAny (.ref u) ⟨us, []⟩) _ _ _
  simp only [callAny]
  refine wpAny_bind (wpAny_load hu ?_)
  have nz : (Value.type "method-wrapper" == Value.type "method" || Value.type "method-wrapper" == Value.type "builtin_function_or_method" || Value.type "method-wrapper" == Value.type "method-wrapper") = true := by decide
  simp only [PySem.W.kxs_mw, nz, if_true]
  refine PySem.W.KFB.if_so (by decide) ?_
  have fb := F.excBase_ValueError
  refine wpAny_bind (PySem.W.check_bound_init fb.toExcCallFacts (I.kIn _ _ hC) ho rfl ?_)
  refine wpAny_bind (wpAny_pure (wpAny_pure ⟨plainId_quiet fb.init.plain _, codeAny_builtin fb.initEntry ?_⟩))
  rw [Around.under_plainId fb.init.plain _]
  refine PySem.W.exc_init_tree (cls := .ref C) (t0 := t1) (dv := none) (c2 := .none) (c3 := .none) (b4 := .bool false) ho hl fun h' k hx _ => ?_
  have J := I.write (t' := t) (x := x) (e := x) (o := exo x C none) (by rw [e]; exact True.intro) (.inl rfl) k ⟨_, hx⟩ (exo_ok hx)
  have eu : upd H x (exo x C none) = H := funext fun b => by
    by_cases hb : b = x
    · rw [hb, upd_same, e]
    · rw [upd_ne hb]
  rw [eu] at J
  exact h _ J
theorem mw_with {M : Model} {A : Around} {E : Value → Shared → Prop} {s : Shared} {i : String} {u x : Addr} {pos : Pos} {env : Env} {e : Expr} {rest : List Expr} {Q : Value → Shared → Prop}
    (h : wpAny M A (spliced (backTo pos (starEach (e :: rest) env))) (fun vs s₁ => PySem.W.KxsAt i u x s₁.heap ∧ wpAny M A (call (.ref u) vs) Q E s₁) E s)
    (he : starEach (e :: rest) env = (false, eval e env) :: starEach rest env) (hpl : (backTo pos (starEach rest env)).any (·.1) = false) :
    wpAny M A (callWith pos (.ref u) [] (backTo pos (starEach (e :: rest) env)) []) Q E s := by
  rw [he] at h ⊢
  exact PySem.W.kxs_callWith (i := i) (x := x) (by show (false || (backTo pos (starEach rest env)).any (·.1)) = false; rw [hpl]; rfl) (evalArgs_plain h)

/-- a def of a class's body that begins with super().__init__(e ..), then goes on; the class at C closes over it by the cell at cc -/
theorem fn_super {CX : CXT} {P : Program} {w : World} {K : PySem.W.Frag} {mg : Str → Option Value} {base : Heap} {k : Nat} {f cc C cda : Addr} {name qual : Str} {params : Arguments} {scope : Scope} {dV kV doc pm ct oc cl ccl : Value} {an od cld cdd : Option Addr}
    {osl csl ccs : Array (Option Value)} {N ps : List Str} {sp : Sp} {e : Expr} {es : List Expr} {rest : List Stmt} {p0 p1 p2 p3 p4 : Pos} {vs2 : Array Value} {file : Str} {tf : Tok} {ar : Arg}
    (lk : K.lookup f = some ⟨oc, od, .func (PySem.W.ksFn name qual params (.Expr (.Call (.Attribute (.Call (.Name "super" p0) [] [] p1) "__init__" p2) (e :: es) [] p3) p4 :: rest) scope dV kV doc pm an (.ref cda) ct cc), osl⟩)
    (hcd : PySem.W.codeIn K (.ref cda) qual = true) (hcode : K.lookup cda = some ⟨ccl, cdd, .fields vs2, ccs⟩) (hvs : vs2[2]? = some (.str file tf)) (hfile : ((P.main.file : Str) == file) = true)
    (hcell : K.lookup cc = some ⟨cl, cld, .cell (some (.ref C)), csl⟩) (T : OexC K C) (hsup : PySem.W.ks_superIn K C C "__init__" = some (some (.builtin "ValueError.__init__")))
    (hB : PySem.W.subIn K (.ref C) (.type "ValueError") = some true) (hself : PySem.W.mroIn K C (.ref C) = some true) (hop : PySem.W.nsIn K cStatics "thirdparty.any" = some none)
    (hsn : mg "super" = none) (htop : (P.main.scope.names.lookup ("super" : Str)).isSome = false) (hp : (params.posonlyargs ++ params.args).head? = some ar) (hps : ps[0]? = some ar.arg)
    (S : NScope N ps ["__class__"] scope) (hks : scope.names.lookup ("super" : Str) = some .globalImplicit) (len : ∀ vs H Q E, sp vs H Q E → vs.length = ps.length)
    (hbody : ∀ (A : Around) (outer : List Env) (s : Shared) (H : Hp) (vs : List V) (Q : VK) (E : XK), Room k (A.deeper (envF ⟨name, qual, params, .Expr (.Call (.Attribute (.Call (.Name "super" p0) [] [] p1) "__init__" p2) (e :: es) [] p3) p4 :: rest, scope, [("__class__", cc)], cda⟩ f s.heap.objs.size)) → sp vs H Q E →
      ∃ ta t x, PA (ncx CX P w K mg base N ⟨name, qual, params, .Expr (.Call (.Attribute (.Call (.Name "super" p0) [] [] p1) "__init__" p2) (e :: es) [] p3) p4 :: rest, scope, [("__class__", cc)], cda⟩ f A outer s H E) (e :: es) ta ∧
        PSs (ncx CX P w K mg base N ⟨name, qual, params, .Expr (.Call (.Attribute (.Call (.Name "super" p0) [] [] p1) "__init__" p2) (e :: es) [] p3) p4 :: rest, scope, [("__class__", cc)], cda⟩ f A outer s H E) rest t ∧
        vs[0]? = some (.ref x) ∧ H x = some (exo x C none) ∧
        ta (startF N vs [none]) H fun ws H1 => ws.length ≤ 1000 ∧ H1 x = some (exo x C none) ∧ t { nx := fun _ H' => Q .non H', rt := Q } (startF N vs [none]) H1)
    (he : ∀ env : Env, starEach (e :: es) env = (false, eval e env) :: starEach es env) (hpl : ∀ env : Env, (backTo p3 (starEach es env)).any (·.1) = false)
    (hev : ∀ env : Env, ∃ pl : Sem Bool, eval (.Call (.Attribute (.Call (.Name "super" p0) [] [] p1) "__init__" p2) (e :: es) [] p3) env = (do
      let ov ← attributeBase (.Call (.Name "super" p0) [] [] p1) "__init__" env (eval (.Call (.Name "super" p0) [] [] p1) env)
      standAt p2.atName
      let (f, first) ← holding [ov] (getMethod ov "__init__" pl)
      callWith p3 f first (backTo p3 (starEach (e :: es) env)) []))
    (hsw : ∀ env : Env, swapsWith (.Call (.Attribute (.Call (.Name "super" p0) [] [] p1) "__init__" p2) (e :: es) [] p3) none p4.line env = pure false) :
    FnOk P w K mg base CX (k + 1) f (PySem.W.ksFn name qual params (.Expr (.Call (.Attribute (.Call (.Name "super" p0) [] [] p1) "__init__" p2) (e :: es) [] p3) p4 :: rest) scope dV kV doc pm an (.ref cda) ct cc) ps sp := by
  generalize hbd : (Stmt.Expr (.Call (.Attribute (.Call (.Name "super" p0) [] [] p1) "__init__" p2) (e :: es) [] p3) p4 :: rest) = bd at lk hbody ⊢
  refine ⟨len, fun A outer s H args us vs Q E hr e0 hb r hsp => ?_⟩
  have KX : K.In s.heap := e0.mod.kin.keeps fun b o e => (e0.bs b o e).1
  have hl := len _ _ _ _ hsp
  have lim : s.heap.NoLimit := e0.mod.nolimit.keeps fun b o e => (e0.bs b o e).1
  obtain ⟨ta, t, x, hta, ht, hv0, hx, hq⟩ := hbody A outer s H vs Q E (hr.deeper _) hsp
  have hself0 : scope.names.lookup ar.arg = some .local := S.par _ (List.mem_of_getElem? hps)
  refine PySem.ks_codeAny_call_defAt (fd := PySem.W.ksFn name qual params bd scope dV kV doc pm an (.ref cda) ct cc) hr.depth (KX _ _ lk) rfl lim (PySem.W.codeRec_of KX hcd) rfl hb S.nocell (fun ⟨n, _⟩ hy => S.par n (List.of_mem_zip hy).1) (fun h₁ hns kp => ?_) S.co S.gen S.kind
  have cin := e0.mod.kin _ _ hcell
  have Cc : CellsAt [(("__class__" : Str), cc)] ["__class__"] [none] s.heap H := by
    have lkc : ∀ (y : Str) (c : Addr), List.lookup y [(("__class__" : Str), cc)] = some c → y = "__class__" ∧ c = cc := fun y c z => by
      simp only [List.lookup] at z
      split at z
      · rename_i g
        exact ⟨by simpa using g, (Option.some.inj z).symm⟩
      · cases z
    refine ⟨rfl, fun y c z => ?_, fun y z c h1 h2 => (lkc y c h1).1.trans (lkc z c h2).1.symm, fun i y hi => ?_⟩
    · obtain ⟨_, rfl⟩ := lkc y c z
      exact ⟨(e0.bs _ _ cin).2, _, _, (e0.bs _ _ cin).1, rfl⟩
    · cases i with
      | zero =>
        obtain rfl : "__class__" = y := Option.some.inj hi
        exact ⟨cc, by simp [List.lookup], fun v z => by cases z⟩
      | succ i => simp at hi
  have I : Inv (ncx CX P w K mg base N ⟨name, qual, params, bd, scope, [("__class__", cc)], cda⟩ f A outer s H E) [] (startF N vs [none]) H { s with heap := h₁, toks := s.toks + (ps.zip us).length } :=
    inv_startN S hr.hd e0 hl r Cc hns kp
  subst hbd
  have Xk : K.In h₁ := I.kIn
  obtain ⟨ux, hux, rvx⟩ := r.get hv0
  obtain rfl : ux = Value.ref x := rvx
  have hkc : scope.names.lookup ("__class__" : Str) = some .free := S.frk _ (List.mem_singleton.mpr rfl)
  obtain ⟨nm, q, Nn, bs, bm, sn, sub, ab, col, dd, k0, k1, k2, k3, k5, hC, hbm⟩ := id T.cls
  have hcl : PySem.W.clsIn K C = some { name := nm, bases := bs, mro := .ref C :: bm, ns := Nn, qualname := q, hasDict := true, slotNames := sn, subclasses := sub, abstract := ab, collection := col, hasDel := false } := by unfold PySem.W.clsIn; rw [hC] <;> rfl
  obtain ⟨t1, ho⟩ := exo_at I.hok hx
  refine PySem.ks_wpAt_execs_cons (PySem.ks_wpAt_Expr_any ?_ (by show (scope.kind == .module && _) = false; rw [S.kind]; rfl) (hsw _))
  obtain ⟨pl, hev⟩ := hev (PySem.W.ksEnv qual scope s.heap.objs.size f (.ref cda) cc)
  refine PySem.ks_wpAt_MethodCall (pl := pl) ?_ hev
  refine PySem.ks_wpAt_super_base hks hkc rfl rfl (Xk _ _ lk) rfl hp rfl (Xk _ _ hcode) rfl hvs hfile htop ?_
  obtain ⟨mb, b1, b2⟩ := I.mod.blt
  refine PySem.W.ks_loadName_global S.kind hks (Calls.loadGlobal_builtin (I.mod.glob.keeps I.bk) hsn (b1.keeps I.bk) ((b2 "super" (by decide)).trans (by first | rfl | kernel_rfl | decide +kernel)) ⟨rfl, ?_⟩)
  refine wpAny_loadName_free S.kind hkc rfl ⟨_, Xk _ _ hcell, rfl⟩ ?_
  refine wpAny_loadName_local S.kind hself0 hns (v := .ref x) (zip_look ?nd hps hux) ?_
  case nd =>
    have z := S.nd.sublist (List.take_sublist (ps.length + 1) N)
    rw [show N.take (ps.length + 1) = ps ++ [("__class__" : Str)] from S.pre] at z
    exact (List.nodup_append.mp z).1
  refine PySem.ks_wpAny_isType_cls (Xk _ _ hC) rfl ⟨rfl, ?_⟩
  refine PySem.ks_wpAny_call_super (Xk _ _ hC) rfl ho rfl (fun c z => by cases z) (PySem.W.looks_mroIn Xk hself) (fun h2 e2 kp2 => ?_)
  have I2 := I.kept (t' := s.toks + (ps.zip us).length) kp2
  obtain ⟨t2, ho2⟩ := exo_at I2.hok hx
  have X2 : K.In h2 := I2.kIn
  have inst : PySem.W.InstAt h2 x ({ cls := .ref C, dict := none, data := .fields #[.ref t2, .none, .none, .none, .bool false, .none] } : Obj) C none := ⟨ho2, rfl, rfl, trivial⟩
  refine PySem.W.kxs_getMethod PySem.W.kxs_ValueError e2 (PySem.W.looks_opaque X2 hop) (l₀ := .ref C :: bm) ((PySem.W.looks_clsIn X2 hcl).andThen .now) (l := ((Value.ref C :: bm).dropWhile (· != .ref C)).drop 1) rfl X2 ?_ (inst.type.andThen (PySem.W.looks_subIn X2 hB)) ?_ (by rfl) ?_
  · unfold PySem.W.ks_superIn at hsup
    rw [hcl] at hsup
    exact hsup
  · exact PySem.W.ks_ne X2 inst hcl
  have up : ∀ b u, h2.get? b = some u → (h2.push (PySem.W.kxs_mw "ValueError.__init__" x)).get? b = some u := fun b u z => Heap.get?_push_of_some _ z
  have I3 := I2.kept (h' := h2.push (PySem.W.kxs_mw "ValueError.__init__" x)) (t' := s.toks + (ps.zip us).length + 1) up
  have hget : (h2.push (PySem.W.kxs_mw "ValueError.__init__" x)).get? h2.objs.size = some (PySem.W.kxs_mw "ValueError.__init__" x) := Heap.get?_push_size _ rfl
  have I4 := I3.pins_of (pins' := [(h2.objs.size, PySem.W.kxs_mw "ValueError.__init__" x)]) fun p hp => by
    obtain rfl := List.mem_singleton.mp hp
    exact ⟨hget, I2.hok.fresh (Nat.le_refl _), Nat.ne_of_gt I2.lt, I2.nofs (Nat.le_refl _), fun v z => by cases z⟩
  refine mw_with (i := "ValueError.__init__") (x := x) ?_ (he _) (hpl _)
  refine thn (hta.run p3 _ _ (startF N vs [none]) H _ I4 hq) fun ws s5 hh => ?_
  obtain ⟨vs5, H5, I5, r5, l5, hx5, q5⟩ := hh
  refine ⟨(I5.pin (h2.objs.size, PySem.W.kxs_mw "ValueError.__init__" x) (List.mem_append_right _ (List.mem_singleton.mpr rfl))).1, ?_⟩
  refine mw_run T I5 hx5 ((I5.pin (h2.objs.size, PySem.W.kxs_mw "ValueError.__init__" x) (List.mem_append_right _ (List.mem_singleton.mpr rfl))).1) (by rw [← Paired.length r5, sizeLine_eq]; omega) fun s6 I6 => ?_
  refine PySem.wpAt_of_wpAny (wpAny_mono (ht.run _ s6 (startF N vs [none]) H5 _ I6 q5) (fun fl s7 hs => ?_) fun e s7 hs => hs)
  have fin : ∀ {σ' : L2.St} {H' : Hp} {v : V} {u : Value} {pp : List (Addr × Obj)}, Inv (ncx CX P w K mg base N ⟨name, qual, params, Stmt.Expr (.Call (.Attribute (.Call (.Name "super" p0) [] [] p1) "__init__" p2) (e :: es) [] p3) p4 :: rest, scope, [("__class__", cc)], cda⟩ f A outer s H E) pp σ' H' s7 → L2.RelV v u → Q v H' → CE outer P w H s Q u s7 :=
    fun J rv q => ⟨_, _, J.os, J.bare, J.base, J.hok, rv, q⟩
  cases fl with
  | ret u => obtain ⟨v, σ', H', J, rv, q⟩ := hs; exact fin J rv q
  | next => obtain ⟨σ', H', J, q⟩ := hs; exact fin (v := V.non) (u := Value.none) J rfl q
  | brk => obtain ⟨_, _, _, q⟩ := hs; exact q.elim
  | cont => obtain ⟨_, _, _, q⟩ := hs; exact q.elim
end

/-! ### an own class of errors with one field -/
structure ErrC (K : PySem.W.Frag) (C a : Addr) (st : Stmt) (qual fld : Str) (fd : FuncData) : Prop where
  ox : OexC K C
  xf : XfC K C
  no : PySem.W.findIn K (.ref C) fld = some none
  ini : PySem.W.findIn K (.ref C) "__init__" = some (some (.ref a))
  ty : PySem.W.typeIn K (.ref a) = some (.type "function")
  fn : ∃ (oc kV doc pm ct ccl cl : Value) (od an cdd cld : Option Addr) (cda cc : Addr) (osl ccs csl : Array (Option Value)) (vs2 : Array Value) (tf : Tok), fd = PySem.W.ksFn "__init__" qual (defArgs st) (defBody st) (defScope st) .none kV doc pm an (.ref cda) ct cc ∧
    K.lookup a = some ⟨oc, od, .func fd, osl⟩ ∧ PySem.W.codeIn K (.ref cda) qual = true ∧ K.lookup cda = some ⟨ccl, cdd, .fields vs2, ccs⟩ ∧ vs2[2]? = some (.str "/claim/cut.py" tf) ∧ K.lookup cc = some ⟨cl, cld, .cell (some (.ref C)), csl⟩ ∧
    PySem.W.ks_superIn K C C "__init__" = some (some (.builtin "ValueError.__init__")) ∧ PySem.W.subIn K (.ref C) (.type "ValueError") = some true ∧ PySem.W.mroIn K C (.ref C) = some true ∧ PySem.W.nsIn K cStatics "thirdparty.any" = some none
/-- the program's file, and that its top has no name super -/
class PrOk (P : Program) : Prop where
  file : ((P.main.file : Str) == "/claim/cut.py") = true
  top : (P.main.scope.names.lookup ("super" : Str)).isSome = false
section
variable {CX : CXT} {P : Program} {w : World} {K : PySem.W.Frag} {mg : Str → Option Value} {base : Heap} {N : List Str} {qual : Str} {scope : Scope} {f : Addr} {cd : Value} {A : Around} {outer : List Env} {s : Shared} {H : Hp} {E : XK}
instance [h : PrOk P] : PrOk (cxOf CX P w K mg base N qual scope f cd A outer s H E).prog := h
instance {X : Cx} [h : PrOk X.prog] : PrOk X.nox.prog := h
instance {X : Cx} [h : PrOk X.prog] {pn : List (Addr × Obj)} {xe : Value → Shared → Prop} : PrOk (X.tr pn xe).prog := h
instance {X : Cx} [h : PrOk X.prog] {a : Addr} {pn : List (Addr × Obj)} : PrOk (X.suite a pn).prog := h
end
/-- X.__init__(self, v) -/
def spErr (C : Addr) (fld : Str) (ok : V → Prop) : Sp := fun vs H Q _ => ∃ x v, vs = [.ref x, v] ∧ H x = some (exo x C none) ∧ ok v ∧ ∀ dx, H dx = none → dx ≠ x → Q .non (upd (upd H dx (exd dx [(fld, v)])) x (exo x C (some dx)))
/-- what raise X(v) asks -/
theorem raise_ok {C : Addr} {fld : Str} {ok : V → Prop} {H1 : Hp} {v : V} {Q : XK} (hv : ok v) (k : ∀ d H', Same H1 H' → H1 d = none → H' d = some (.xd [(fld, v)]) → Q (.ref C) (some d) H') :
    [v].length ≤ 1000 ∧ ∀ a, H1 a = none → spErr C fld ok (.ref a :: ([v] ++ [])) (upd H1 a (exo a C none))
      (fun w H2 => w = .non ∧ ∃ (d : Addr) (fs : List (Str × V)), H2 a = some (exo a C (some d)) ∧ H2 d = some (exd d fs) ∧ H1 d = none ∧ Q (.ref C) (some d) (upd (del H2 a) d (.xd fs))) (fun _ _ _ => False) := by
  refine ⟨by show 1 ≤ 1000; decide, fun a na => ⟨a, v, rfl, upd_same, hv, fun dx nd ne => ⟨rfl, dx, [(fld, v)], upd_same, ?_, ?_, ?_⟩⟩⟩
  · rw [upd_ne ne, upd_same]
  · rw [upd_ne ne] at nd
    exact nd
  · have nd1 : H1 dx = none := by rw [upd_ne ne] at nd; exact nd
    refine k dx _ (fun b o e => ?_) nd1 upd_same
    have b1 : b ≠ dx := ne_of_none e nd1
    have b2 : b ≠ a := ne_of_none e na
    rw [upd_ne b1, del_ne b2, upd_ne b2, upd_ne b1, upd_ne b2]
    exact e
/-! ### try .. except x as n .. else -/
section
variable {X : Cx} {x n : Str} {c : Value} {i : Nat} {body suite orelse : List Stmt} {b1 : Stmt} {q1 q2 q3 : Pos} {tb : WX → TS} {ts : Addr → Value → Option Addr → TS} {Wout : WX} {u : TS}
def tTryE (K : PySem.W.Frag) (c : Value) (i : Nat) (tb : WX → TS) (ts : Addr → Value → Option Addr → TS) (Wout : WX) (u : TS) : TS := fun D σ H => tb (wAs K c i ts Wout D) { D with nx := u D } σ H
theorem ps_try_asE (ho : PSs X orelse u) (hs : X.stack = X.env :: X.outer) (hf : X.env.frame = some X.env.locals) (hN : X.N.Nodup) (hi : X.N[i]? = some n) (hl : X.env.kindOf n = some .local) (hc : Names X x c) (tk : Takes X Wout)
    (hb : ∀ (W : WX) (pn : List (Addr × Obj)) (xe : Value → Shared → Prop), Takes (X.tr pn xe) W → PassesOwn (model X.prog X.w) X.A X.env xe → PSs (X.tr pn xe) body (tb W))
    (hsu : ∀ (a : Addr) (oe : Obj) (cls : Value) (d : Option Addr) (pn : List (Addr × Obj)), Zc cls d oe → (∃ vs, oe.data = .fields vs) → PSs (X.suite a ((a, oe) :: pn)) (b1 :: suite) (ts a cls d)) :
    PS X (.Try body [.ExceptHandler (some (.Name x q1)) (some n) (b1 :: suite) q2] orelse [] q3) (tTryE X.K c i tb ts Wout u) := by
  -- without else first: what the clause does with an exception of the body
  refine ⟨fun pins s σ H D I h => wpAny_Try_except ?_⟩
  have ok := I.ok
  have afr : X.A.frames = some (X.env :: X.outer) := by rw [ok.frames, hs]
  let Ex : Value → Shared → Prop := fun e s₁ => wpAny (model X.prog X.w) X.A (noteFrame e X.env) (fun _ s₂ => wpAny (model X.prog X.w) X.A (setFlight e none) (fun _ s₃ => wpAny (model X.prog X.w) X.A (handleBy e X.env [.ExceptHandler (some (.Name x q1)) (some n) (b1 :: suite) q2]) (SP X pins D) X.xe s₃) X.xe s₂) X.xe s₁
  have catch_ : Takes (X.tr (X.pn ++ pins) Ex) (wAs X.K c i ts Wout D) := by
    rintro _ sh ⟨ea, G, sl, pp, τ, Hτ, cl, dd, rfl, Jt, nb, up, sky, na, os, ag, bo, hbo, hy, hn⟩
    have J := Jt.ofTry ok
    rw [show (X.tr (X.pn ++ pins) Ex).stack = X.env :: X.outer from hs] at sky
    refine Sky.land Zc.steady afr hf sky fun g3 f3 u3 => ?_
    have J3 := J.landed (s' := { sh with heap := g3 }) nb f3.1 (up.trans u3) os ag
    obtain ⟨ob, fv, eb, zb, db⟩ := f3.there
    have far : ea ∉ frs (X.env :: X.outer) := fun hm => by
      obtain ⟨_, o2, e2, k2⟩ := (show g3.FunFrames G (X.env :: X.outer) from f3.2.2.1).mem hm
      rw [eb] at e2
      cases e2
      exact k2 _ db
    have eL : ea ≠ X.env.locals := fun z => far (List.mem_filterMap.mpr ⟨X.env, .head _, by rw [hf, z]⟩)
    have eF : ea ∉ X.fs := fun hm => by
      obtain ⟨v, hv, q⟩ := List.mem_filterMap.mp hm
      exact far (List.mem_filterMap.mpr ⟨v, .tail _ hv, q⟩)
    have S3 := J3.suite eb db na eL eF
    refine wpAny_handleBy_cons (codeAny_handlers_test ?_) (fun q => by cases q)
    have tyE : PySem.W.Looks (model X.prog X.w) g3 (typeOf (.ref ea)) cl := fun _ _ _ _ kk q => wpAny_typeOf_ref (kk _ _ eb) (by rw [zb.1]; exact q)
    have isE := PySem.W.exm_one (M := model X.prog X.w) J3.kIn tyE hbo
    have named : ∀ {Q : Value → Shared → Prop} {E : Value → Shared → Prop}, Q c { sh with heap := g3 } → wpAny (model X.prog X.w) (X.A.mark (some (.ref ea))) (eval (.Name x q1) X.env) Q E { sh with heap := g3 } := fun q => by
      rcases hc with ⟨gl, dbg, hm | ⟨hm, hv, nn⟩⟩
      · exact ld_glob (X := X.suite ea ((ea, ob) :: (X.pn ++ pins))) S3 gl hm q dbg
      · exact ld_blt (X := X.suite ea ((ea, ob) :: (X.pn ++ pins))) S3 gl hm hv q nn dbg
    refine named (isE.here ?_)
    cases bo
    · refine wpAny_handleBy_nil ?_
      obtain ⟨_, _, _, oz, wz, tz, _, _, ez, _, dz, gz, _⟩ := id f3
      have up2 : wpAny (model X.prog X.w) X.A (setFlight (.ref ea) X.env.frame) (fun _ s4 => wpAny (model X.prog X.w) X.A (throw (.ref ea) : Sem Flow) (SP X pins D) X.xe s4) X.xe { sh with heap := g3 } := by
        rw [hf]
        exact HandSPX.setFlight_upZ f3 fun g4 h4 u4 => wpAny_throw (tk _ _ ⟨ea, G, sl, pins, τ, Hτ, cl, dd, rfl, J, nb, (up.trans u3).trans u4, .inr (.inr (by rw [hs]; exact h4)), na, os, ag, hn rfl⟩)
      unfold PySem.passOn
      refine wpAny_bind (wpAny_field ez dz gz ?_)
      rw [if_neg (show ¬ ((Value.ref tz == Value.none) = true) by simp)]
      first | exact wpAny_bind (wpAny_pure (wpAny_bind up2)) | exact wpAny_bind up2
    · refine codeAny_handlers_suite_as (HandSPX.lands_againZ f3 fun g4 f4 u4 => ?_)
      have J4 := J.landed (s' := { sh with heap := g4 }) nb f4.1 ((up.trans u3).trans u4) os ag
      obtain ⟨o4, v4, e4, z4, d4⟩ := f4.there
      refine store_ok (X := X.suite ea ((ea, o4) :: (X.pn ++ pins))) (v := .ref ea) (J4.suite e4 d4 na eL eF) hN hi (.inl hl) rfl (fun s5 S5 => ?_) (.inr hl)
      refine wpAny_mono ((hsu ea o4 cl dd (X.pn ++ pins) z4 ⟨_, d4⟩).run [] s5 _ Hτ _ S5 (hy rfl ea na)) (fun fl s6 hsp => ?_) fun _ _ z => z.elim
      cases fl
      case next => obtain ⟨_, _, S6, q6⟩ := hsp; exact gone_ok (S6.unsuite ok) hN hi hl fun s7 J7 => ⟨_, _, J7, q6⟩
      case brk => obtain ⟨_, _, S6, q6⟩ := hsp; exact gone_ok (S6.unsuite ok) hN hi hl fun s7 J7 => ⟨_, _, J7, q6⟩
      case cont => obtain ⟨_, _, S6, q6⟩ := hsp; exact gone_ok (S6.unsuite ok) hN hi hl fun s7 J7 => ⟨_, _, J7, q6⟩
      case ret w => obtain ⟨_, _, _, S6, r6, q6⟩ := hsp; exact gone_ok (S6.unsuite ok) hN hi hl fun s7 J7 => ⟨_, _, _, J7, r6, q6⟩
  refine wpAny_mono ((hb _ _ Ex catch_ PassesOwn.looking).run [] s σ H { D with nx := u D } (I.toTry _) h) (fun fl s1 hsp => ?_) fun _ _ z => z
  cases fl
  case next => obtain ⟨_, _, J, q⟩ := hsp; exact ho.run pins s1 _ _ D (J.ofTry ok) q
  case brk => obtain ⟨_, _, J, q⟩ := hsp; exact ⟨_, _, J.ofTry ok, q⟩
  case cont => obtain ⟨_, _, J, q⟩ := hsp; exact ⟨_, _, J.ofTry ok, q⟩
  case ret w => obtain ⟨_, _, _, J, r, q⟩ := hsp; exact ⟨_, _, _, J.ofTry ok, r, q⟩
end
section
variable {X : Cx} {x n : Str} {c : Value} {i : Nat} {body suite : List Stmt} {b1 : Stmt} {q1 q2 q3 : Pos} {tb : WX → TS} {ts : Addr → Value → Option Addr → TS} {Wout : WX}
def tTryA (K : PySem.W.Frag) (c : Value) (i : Nat) (tb : WX → TS) (ts : Addr → Value → Option Addr → TS) (Wout : WX) : TS := fun D σ H => tb (wAs K c i ts Wout D) D σ H
theorem ps_try_asN (hs : X.stack = X.env :: X.outer) (hf : X.env.frame = some X.env.locals) (hN : X.N.Nodup) (hi : X.N[i]? = some n) (hl : X.env.kindOf n = some .local) (hc : Names X x c) (tk : Takes X Wout)
    (hb : ∀ (W : WX) (pn : List (Addr × Obj)) (xe : Value → Shared → Prop), Takes (X.tr pn xe) W → PassesOwn (model X.prog X.w) X.A X.env xe → PSs (X.tr pn xe) body (tb W))
    (hsu : ∀ (a : Addr) (oe : Obj) (cls : Value) (d : Option Addr) (pn : List (Addr × Obj)), Zc cls d oe → (∃ vs, oe.data = .fields vs) → PSs (X.suite a ((a, oe) :: pn)) (b1 :: suite) (ts a cls d)) :
    PS X (.Try body [.ExceptHandler (some (.Name x q1)) (some n) (b1 :: suite) q2] [] [] q3) (tTryA X.K c i tb ts Wout) := ps_try_as hs hf hN hi hl hc tk hb hsu
end
/-! ### calls that may raise, wished for at the caller's slots -/
section
variable {X : Cx} {CX : CXT} {k : Nat} {f C : Addr} {fd : FuncData} {ps : List Str} {sp : Sp} {dvs : List V} {ds : List Value} {E : L2.St → XK} {x m : Str} {p pos apos : Pos} {e o : Expr} {es : List Expr} {ta : TE} {t : TA}
def tMethT (C : Addr) (m : Str) (sp : Sp) (dvs : List V) (E : L2.St → XK) (ta : TE) (t : TA) : TE := fun σ H Q => ta σ H fun x H1 => ∃ a dx fs, x = .ref a ∧ H1 a = some (.ins C dx fs) ∧ fs.lookup m = none ∧ t σ H1 fun vs H2 => sp (x :: (vs ++ dvs)) H2 Q (E σ)
theorem pe_methT {pl : Sem Bool} (he : PE X o ta) (c : Cls X.K C) (hm : Meth X.K C m f) (F : FnOk X.prog X.w X.K X.mg X.base CX k f fd ps sp) (hr : Room k X.A) (hb : Binds X.K fd ps ds) (hd : Vals dvs ds) (hx : ∀ σ, PassesAt CX X σ (E σ)) (ha : PA X (e :: es) t)
    (hst : starEach (e :: es) X.env = (false, eval e X.env) :: starEach es X.env := by rfl) (hpl : (backTo pos (starEach es X.env)).any (·.1) = false := by rfl)
    (ht : eval (.Call (.Attribute o m apos) (e :: es) [] pos) X.env = (eval o X.env >>= fun ov => standAt apos.atName >>= fun _ => holding [ov] (getMethod ov m pl) >>= fun z => callWith pos z.1 z.2 (backTo pos (starEach (e :: es) X.env)) (backToKw pos (keywordEach [] X.env))) := by rfl) :
    PE X (.Call (.Attribute o m apos) (e :: es) [] pos) (tMethT C m sp dvs E ta t) := by
  refine ⟨fun pins s σ H Q I h => PySem.W.methodCall_KW (pl := pl) (thn (he.run pins s σ H _ I h) fun w s1 hh => ?_) ht⟩
  obtain ⟨_, H1, I1, rx, a, dx, fs, rfl, ea, l, q⟩ := hh
  cases (show w = Value.ref a from rx)
  refine getmeth_ok I1 ea c hm l (PySem.W.callWith_K (first := [.ref a]) (h₀ := X.base) I.ok.mod.kin hm.kp (thn (ha.run pos pins s1 σ H1 _ I1 q) fun us s2 h2 => ?_) hst hpl)
  obtain ⟨vs, H2, I2, r, q2⟩ := h2
  exact ⟨I2.kIn, run_fnSD (us := .ref a :: us) (vs := .ref a :: vs) F hr hb hd (hx σ) I2 (.cons rfl r) q2⟩
def tMakeT (C : Addr) (sp : Sp) (dvs : List V) (E : L2.St → XK) (t : TA) : TE := fun σ H Q => t σ H fun vs H1 => ∀ x dx, H1 x = none → H1 dx = none → dx ≠ x → sp (.ref x :: (vs ++ dvs)) (upd (upd H1 dx (.own x)) x (.ins C dx [])) (fun v H2 => v = .non ∧ Q (.ref x) H2) (E σ)
theorem pe_makeT (M : Mk X.K C f) (F : FnOk X.prog X.w X.K X.mg X.base CX k f fd ps sp) (hr : Room (k + 1) X.A) (hg : Gl X x) (hm : X.mg x = some (.ref C)) (hb : Binds X.K fd ps ds) (hd : Vals dvs ds) (hx : ∀ σ, PassesAt CX X σ (E σ))
    (ha : PA X (e :: es) t) (hdb : (x == ("__debug__" : Str)) = false := by decide) (he : starEach (e :: es) X.env = (false, eval e X.env) :: starEach es X.env := by rfl) (hpl : (backTo pos (starEach es X.env)).any (·.1) = false := by rfl) :
    PE X (.Call (.Name x p) (e :: es) [] pos) (tMakeT C sp dvs E t) := by
  refine ⟨fun pins s σ H Q I h => wpAny_Call_Name_kw (ld_glob I hg hm (PySem.W.callWith_K (h₀ := X.base) I.ok.mod.kin M.kp (thn (ha.run pos pins s σ H _ I h) fun us s1 hh => ?_) he hpl) hdb)⟩
  obtain ⟨vs, H1, I1, r, q⟩ := hh
  refine ⟨I1.kIn, ?_⟩
  have q' := q (s1.heap.objs.size + 1) s1.heap.objs.size (I1.hok.fresh (Nat.le_succ _)) (I1.hok.fresh (Nat.le_refl _)) (Nat.ne_of_lt (Nat.lt_succ_self _))
  have made := Inv.made (C := C) I1
  have rr : Vals (V.ref (s1.heap.objs.size + 1) :: (vs ++ dvs)) (Value.ref (s1.heap.objs.size + 1) :: (us ++ ds)) := .cons rfl (r.append hd)
  have ln := rr.length
  rw [F.len _ _ _ _ q'] at ln
  have bb := hb _ (Value.ref (s1.heap.objs.size + 1) :: us) made.kIn ln.symm
  have run := F.run _ X.stack _ _ ⟨Value.ref (s1.heap.objs.size + 1) :: us, []⟩ _ _ _ (E σ) (hr.make C us []) (made.env0.make C us []) bb rr q'
  refine wpAny_call (make_map (f := f) I1.kIn M.makes M.init (beq_iff_eq.mp M.fn) (codeAny_mono run fun res s' hres => ?_))
  rcases res with er | fl
  · exact hx σ pins _ _ er s' made hres
  · cases fl
    case ret w =>
      obtain ⟨_, H', I3, rv, rfl, q3⟩ := made.after hres
      exact ⟨rv, V.ref (s1.heap.objs.size + 1), H', I3, rfl, q3⟩
    all_goals exact hres.elim
end

/-! ### defs called while an exception is handled (they raise nothing) -/
structure FnQ (P : Program) (w : World) (K : PySem.W.Frag) (mg : Str → Option Value) (base : Heap) (k : Nat) (f : Addr) (fd : FuncData) (ps : List Str) (sp : Sp) : Prop where
  size : ∀ vs H Q E, sp vs H Q E → vs.length = ps.length
  runs : ∀ (A : Around) (outer : List Env) (s : Shared) (H : Hp) (args : Args) (us : List Value) (vs : List V) (Q : VK) (E : XK), L2H.RoomH k A → Env0 P w K mg base A outer s H → BindsTo s fd args (ps.zip us) → Vals vs us → sp vs H Q E → codeAny (model P w) A (.call (.ref f) args) (CR CX0 outer P w H s Q E) s
def cxQ (P : Program) (w : World) (K : PySem.W.Frag) (mg : Str → Option Value) (base : Heap) (N : List Str) (qual : Str) (scope : Scope) (f : Addr) (cd : Value) (A : Around) (outer : List Env) (s : Shared) (H : Hp) (E : XK) : Cx :=
  { cxOf CX0 P w K mg base N qual scope f cd A outer s H E with calm := false }
instance {P : Program} {w : World} {K : PySem.W.Frag} {mg : Str → Option Value} {base : Heap} {N : List Str} {qual : Str} {scope : Scope} {f : Addr} {cd : Value} {A : Around} {outer : List Env} {s : Shared} {H : Hp} {E : XK} [h : PrOk P] : PrOk (cxQ P w K mg base N qual scope f cd A outer s H E).prog := h
theorem inv_cold {P : Program} {w : World} {K : PySem.W.Frag} {mg : Str → Option Value} {base : Heap} {N : List Str} {qual : Str} {scope : Scope} {f : Addr} {cd : Value} {A : Around} {outer : List Env} {s s1 : Shared} {H H1 : Hp} {E : XK} {pins : List (Addr × Obj)} {σ : L2.St}
    (I : Inv (cxOf CX0 P w K mg base N qual scope f cd { A with handled := none } outer s H E) pins σ H1 s1) (fr : A.frames = some outer) : Inv (cxQ P w K mg base N qual scope f cd A outer s H E) pins σ H1 s1 :=
  have o := I.ok
  ⟨⟨o.mod, o.kind, o.glob, o.blt, o.above, o.inj, o.has, o.cab, fun z => Bool.noConfusion (show false = true from z), Around.frames_deeper fr, o.stk, o.exf, o.bs, o.bsz, o.noex, o.exfs, o.funs, o.frf⟩, I.os, I.bare, I.base, I.loc, I.cell, I.free, I.freeC, I.pin, I.hok, I.len⟩
theorem fun_okQ {P : Program} {w : World} {K : PySem.W.Frag} {mg : Str → Option Value} {base : Heap} {x qual : Str} {st : Stmt} {f : Addr} {fd : FuncData} {N ps : List Str} {k : Nat} {sp : Sp} (F : Fun K x qual st f fd) (S : FnScope N ps (defScope st)) (len : ∀ vs H Q E, sp vs H Q E → vs.length = ps.length)
    (hbody : ∀ (cdv : Value) (A : Around) (outer : List Env) (s : Shared) (H : Hp) (vs : List V) (Q : VK) (E : XK), L2H.RoomH k (A.deeper (envOfC qual (defScope st) s.heap.objs.size f cdv)) → sp vs H Q E →
      ∃ t, PSs (cxQ P w K mg base N qual (defScope st) f cdv A outer s H E).nox (defBody st) t ∧ t { nx := fun _ H' => Q .non H', rt := Q } (start N vs) H) : FnQ P w K mg base (k + 1) f fd ps sp := by
  obtain ⟨a1, a2, a3, a4, a5, a6, cv, a7, a8, rfl, at_, code⟩ := F.ex
  refine ⟨len, fun A outer s H args us vs Q E hr e0 hb r h => ?_⟩
  have Kin : K.In s.heap := e0.mod.kin.keeps fun b o e => (e0.bs b o e).1
  have free : s.heap.NoLimit := e0.mod.nolimit.keeps fun b o e => (e0.bs b o e).1
  refine codeAny_call_function hr.depth (Kin _ _ at_) rfl S.co S.gen rfl (PySem.W.codeRec_of Kin code) (hb _ _ _ _ (wpAny_newFunctionEnv_cells S.kind (fun y hy => ?_) fun env he s1 z => ?_))
  · obtain ⟨n, v⟩ := y
    exact (S.par n (List.of_mem_zip hy).1).imp id fun q => ⟨q, PySem.W.cellsFrom_some _ _ _ (.inl q)⟩
  · subst he
    obtain ⟨t, ht, hq⟩ := hbody cv A outer s H vs Q E (hr.deeper _) h
    have e1 : Env0 P w K mg base { A with handled := none } outer s H := ⟨e0.frames, e0.mod, e0.bs, e0.bsz, e0.funs, e0.frf, e0.hok, e0.bare⟩
    have J := inv_cold (inv_start (CX := CX0) (E := E) (f := f) (cd := cv) S rfl e1 (len _ _ _ _ h) r z) e0.frames
    refine ⟨free.keeps z.toInCall.keep, codeAny_func (wpAny_mono (ht.nox.run [] s1 (start N vs) H _ J hq) (fun fl s2 hs => ?_) fun _ _ y => y)⟩
    cases fl
    case ret u => obtain ⟨v, _, H', J2, rv, q⟩ := hs; exact ⟨v, H', J2.os, J2.bare, J2.base, J2.hok, rv, q⟩
    case next => obtain ⟨_, H', J2, q⟩ := hs; exact ⟨V.non, H', J2.os, J2.bare, J2.base, J2.hok, (rfl : RelV V.non Value.none), q⟩
    case brk => obtain ⟨_, _, _, q⟩ := hs; exact q.elim
    case cont => obtain ⟨_, _, _, q⟩ := hs; exact q.elim
section
variable {X : Cx} {k : Nat} {f : Addr} {fd : FuncData} {ps : List Str} {sp : Sp} {x : Str} {q pos : Pos} {e : Expr} {es : List Expr} {t : TA}
def tTru (K : PySem.W.Frag) (ta : TE) : TT := fun σ H Q => ta σ H fun x H' => ∃ b, TruV K x H' b ∧ Q b H'
theorem pt_tru {a : Expr} {ta : TE} {ea : Addr} {pn : List (Addr × Obj)} (ha : PE (X.suite ea pn) a ta) (he : ∀ whole, isTrue a X.env whole = (whole >>= fun v => standAt a.pos >>= fun _ => holding [v] (truthy v))) : PT (X.suite ea pn) a (tTru X.K ta) := pt_truth (X := X.suite ea pn) ha he
theorem pe_fldS {o : Expr} {ta : TE} {g : Str} {ea : Addr} {pn : List (Addr × Obj)} {q0 : Pos} (h : PE (X.suite ea pn) o ta) (hb : attributeBase o g X.env (eval o X.env) = eval o X.env) : PE (X.suite ea pn) (.Attribute o g q0) (tFld X.K ta g) := pe_fld (X := X.suite ea pn) h hb
theorem roomS {X : Cx} {a : Addr} {pn : List (Addr × Obj)} {i j : Nat} (h : Room j X.A) (le : i ≤ j) : L2H.RoomH i (X.suite a pn).A := ⟨(h.mono le).dp, (h.mono le).un⟩
def tCallQ (sp : Sp) (t : TA) : TE := fun σ H Q => t σ H fun vs H1 => sp vs H1 Q (fun _ _ _ => False)
theorem pe_callQ (F : FnQ X.prog X.w X.K X.mg X.base k f fd ps sp) (hr : L2H.RoomH k X.A) (hg : Gl X x) (hm : X.mg x = some (.ref f)) (hk : PySem.W.keepIn X.K (.ref f) = true) (hb : Binds X.K fd ps [])
    (ha : PA X (e :: es) t) (hdb : (x == ("__debug__" : Str)) = false := by decide) (he : starEach (e :: es) X.env = (false, eval e X.env) :: starEach es X.env := by rfl) (hpl : (backTo pos (starEach es X.env)).any (·.1) = false := by rfl) :
    PE X (.Call (.Name x q) (e :: es) [] pos) (tCallQ sp t) := by
  refine ⟨fun pins s σ H Q I h => wpAny_Call_Name_kw (ld_glob I hg hm (PySem.W.callWith_K (h₀ := X.base) I.ok.mod.kin hk (thn (ha.run pos pins s σ H _ I h) fun us s1 hh => ?_) he hpl) hdb)⟩
  obtain ⟨vs, H1, I1, r, q1⟩ := hh
  have b := hb s1 us I1.kIn (by rw [List.append_nil, ← r.length]; exact F.size _ _ _ _ q1)
  rw [List.append_nil] at b
  refine ⟨I1.kIn, wpAny_call (codeAny_mono (F.runs X.A X.stack s1 H1 ⟨us, []⟩ us vs Q (fun _ _ _ => False) hr I1.env0 b r q1) fun res s2 hres => ?_)⟩
  rcases res with er | fl
  · exact hres.elim
  · cases fl
    case ret u => exact I1.after hres
    all_goals exact hres.elim
end
theorem exm_sup {K : PySem.W.Frag} {S B : Addr} (h1 : PySem.W.subIn K (.ref B) (.type "BaseException") = some true) (h2 : PySem.W.isClsIn K B = true) (h3 : PySem.W.typeIn K (.ref B) = some (.type "type")) (h4 : PySem.W.subIn K (.ref S) (.ref B) = some true) :
    PySem.W.exmOne K (.ref S) (.ref B) = some true := by
  unfold PySem.W.exmOne
  have e1 : (PySem.W.subIn K (.ref B) (.type "BaseException") == some true) = true := by rw [h1] <;> rfl
  have e2 : ((PySem.W.clsIn K B).isSome && PySem.W.typeIn K (.ref B) == some (.type "type")) = true := by
    rw [show (PySem.W.clsIn K B).isSome = true from h2, h3] <;> rfl
  rw [if_pos e1]
  show (if ((PySem.W.clsIn K B).isSome && PySem.W.typeIn K (.ref B) == some (.type "type")) = true then PySem.W.subIn K (.ref S) (.ref B) else none) = some true
  rw [if_pos e2]
  exact h4
theorem exm_self {K : PySem.W.Frag} {S : Addr} (h1 : PySem.W.subIn K (.ref S) (.type "BaseException") = some true) (h2 : PySem.W.isClsIn K S = true) (h3 : PySem.W.typeIn K (.ref S) = some (.type "type")) (h4 : PySem.W.subIn K (.ref S) (.ref S) = some true) :
    PySem.W.exmOne K (.ref S) (.ref S) = some true := exm_sup h1 h2 h3 h4
/-! ### isinstance of a caught error -/
structure ErrI (K : PySem.W.Frag) (D : Addr) : Prop where
  ha : PySem.W.findIn K (.ref D) "__class__" = some (some (.builtin "object.__class__"))
  hn : PySem.W.specialIn K (.builtin "object.__class__") "__get__" = some (some (.builtin "getset_descriptor.__get__"))
  ht : PySem.W.takesIn K (.builtin "object.__class__") = some true
  hm : PySem.W.mroIn K D (.type "object") = some true
section
open PySem.W PySem.Calls
variable {prog : Program} {w : World} {A : Around} {E : Value → Shared → Prop} {s : Shared} {K : Frag} {x D : Addr} {ox : Obj} {od : Option Obj}
theorem exc_class {Q : Option Value → Shared → Prop} (T : OexC K D) (F : XfC K D) (Y : ErrI K D) (X : K.In s.heap) (J : InstAt s.heap x ox D od) (h : Q (some (.ref D)) { s with toks := s.toks + 1 }) : wpAny (model prog w) A (getAttr? (.ref x) "__class__") Q E s := by
  have bound : findObj K D od "__class__" = some (.bind (.builtin "getset_descriptor.__get__") (.builtin "object.__class__")) := by
    obtain ⟨_, _, _, _, _, _, _, _, _, _, _, _, _, _, _, at_, _⟩ := T.cls
    unfold findObj clsIn
    rw [at_]
    simp only [Option.bind_some, Y.ha, Y.hn, Y.ht]
  obtain ⟨g0, a0, d0, t0, o0⟩ := s
  have ty := J.type (M := model prog w); have ga := looks_findIn (M := model prog w) X F.ga; have gg := looks_findIn (M := model prog w) X F.gg; have fd := looks_find (M := model prog w) X J bound
  have below : Looks (model prog w) g0 (isInstance (.ref x) (.type "BaseException")) true := ty.andThen (looks_subIn X F.exC)
  have b2 : (Value.builtin "BaseException.__getattribute__" == Value.builtin "object.__getattribute__") = false := by decide +kernel
  unfold getAttr? getAttrBy? getAttrBy
  refine wpAny_bind (wpAny_mkText (wpAny_bind (wpAny_attempt (wpAny_holding (wpAny_bind (ty.at (wpAny_bind (ga.at ?_))))))))
  show wpAny _ _ (ite ((onTheHeap (Value.ref D) && Value.builtin "BaseException.__getattribute__" == Value.builtin "object.__getattribute__") = true) _ _) _ _ _
  rw [b2, Bool.and_false, if_neg Bool.false_ne_true]
  unfold getAttrByItsOwn hookBefore; refine wpAny_bind ?_; rw [if_pos (show onTheHeap (Value.ref D) = true from rfl)]
  refine gg.at (wpAny_bind (wpAny_attempt (wpAny_holding ?_)))
  unfold callGetattribute; rw [show (false && onTheHeap (Value.builtin "BaseException.__getattribute__")) = false from rfl, if_neg Bool.false_ne_true]
  unfold boundAndCalled; rw [PySem.F.excAttr_ValueError.ga.bind (.ref x)]; refine wpAny_bind (wpAny_pure ?_)
  show wpAny _ _ (call (.builtin "BaseException.__getattribute__") [.ref x, .str "__class__" t0]) _ _ _
  refine wpAny_call (codeAny_call_builtin PySem.F.excAttr_ValueError.ga.plain PySem.F.entry_bexc_ga (@check_slot (model prog w) _ _ ⟨g0, a0, d0, t0 + 1, o0⟩ "BaseException.__getattribute__" "BaseException" "__getattribute__" (.ref x) [.str "__class__" t0] [] _ (by decide +kernel) (by decide +kernel) below (PySem.F.args_bexc_ga (.ref x) (.str "__class__" t0)) ?_))
  unfold Builtin.«object.__getattribute__»; refine wpAny_bind (wpAny_of_eq (a := ((Value.ref x : Value), [Value.str "__class__" t0])) (by first | rfl | (simp only [slotArgs]; rfl)) ?_)
  refine wpAny_bind (wpAny_pure (wpAny_bind (ty.at (wpAny_bind (fd.at ?_))))); show wpAny _ _ (holding [Value.builtin "object.__class__"] (call (.builtin "getset_descriptor.__get__") [.builtin "object.__class__", .ref x, .ref D]) >>= ret) _ _ _
  refine wpAny_bind (wpAny_holding (wpAny_call (class_get (s := ⟨g0, a0, d0, t0 + 1, o0⟩) X J Y.hm (wpAny_pure ?_)))); show wpAny _ _ (handedOut (.ref D)) _ _ _; rw [handedOut_of (v := .ref D) rfl]
  first | exact wpAny_pure (wpAny_pure h) | exact wpAny_pure h | exact wpAny_pure (wpAny_bind (wpAny_pure (wpAny_pure h)))
theorem kitx_err (T : OexC K D) (F : XfC K D) (Y : ErrI K D) : KitX K (.ref x) (.ref D) (fun h => ∃ od, InstAt h x ox D od) where
  ty := fun _ _ _ ⟨_, J⟩ => J.type
  it := fun _ _ X _ => by
    obtain ⟨_, _, _, _, _, _, _, _, _, _, _, _, _, _, _, at_, _⟩ := T.cls
    intro A' Q' E' s' k q
    exact PySem.ks_wpAny_isType_cls (k _ _ (X _ _ at_)) rfl q
  ne := fun h tp dd its n sl X htp => Bool.eq_false_iff.mpr fun q => by
    obtain ⟨_, _, _, _, _, _, _, _, _, _, _, _, _, _, _, at_, _⟩ := T.cls
    have e : D = tp := Value.ref.inj (beq_iff_eq.mp q)
    subst e
    have z := congrArg Obj.data (Option.some.inj ((X _ _ at_).symm.trans htp))
    cases z
  ca := fun X ⟨_, J⟩ k => exc_class T F Y X J k
theorem kit_own {C : Addr} {b : Bool} (h1 : subIn K (.ref D) (.ref C) = some b) (h2 : isClsIn K C = true) (h3 : typeIn K (.ref C) = some (.type "type")) (h4 : subIn K (.ref D) (.ref D) = some true) : kitOne K (.ref D) (.ref C) = some b := by
  unfold kitOne
  by_cases e : D = C
  · subst e
    rw [if_pos (beq_self_eq_true _), ← h1, h4]
  · rw [if_neg (show ¬ (Value.ref D == Value.ref C) = true from fun z => e (Value.ref.inj (beq_iff_eq.mp z)))]
    show (if ((clsIn K C).isSome && typeIn K (.ref C) == some (.type "type")) = true then subIn K (.ref D) (.ref C) else none) = some b
    rw [show (clsIn K C).isSome = true from h2, h3, if_pos (by rfl)]
    exact h1
theorem kit_val (h : subIn K (.ref D) (.type "ValueError") = some true) : kitOne K (.ref D) (.type "ValueError") = some true := by
  unfold kitOne
  rw [if_neg (show ¬ (Value.ref D == Value.type "ValueError") = true from fun z => by cases beq_iff_eq.mp z)]
  show (if kitMeta "ValueError" = true then subIn K (.ref D) (.type "ValueError") else none) = some true
  rw [if_pos (by decide +kernel)]
  exact h
theorem kit_nil : kitAny K (.ref D) [] = some false := rfl
theorem kit_cons {c : Value} {cs : List Value} {b : Bool} (h : kitOne K (.ref D) c = some false) (r : kitAny K (.ref D) cs = some b) : kitAny K (.ref D) (c :: cs) = some b := by
  unfold kitAny
  rw [h]
  exact r
end
/-- isinstance(e, C) and isinstance(e, (C1, ..)), e the caught error at a -/
def rIsXd (K : PySem.W.Frag) (cls : Value) (d : Option Addr) (a : Addr) : List V → Hp → VK → Prop := fun xs H Q => ∃ (D : Addr) (dd : Addr) (fs : List (Str × V)) (b : Bool), cls = .ref D ∧ d = some dd ∧ OexC K D ∧ XfC K D ∧ ErrI K D ∧ H dd = some (.xd fs) ∧
  ((∃ (c : V) (cv : Value), xs = [.ref a, c] ∧ (∀ u, RelV c u → u = cv) ∧ PySem.W.kitOne K (.ref D) cv = some b) ∨ (∃ (tp : Addr) (cs : List V) (ws : List Value), xs = [.ref a, .ref tp] ∧ H tp = some (.tup cs) ∧ (∀ us, Vals cs us → us = ws) ∧ PySem.W.kitAny K (.ref D) ws = some b)) ∧ Q (.bl b) H
theorem call_isX {X : Cx} {a : Addr} {oe : Obj} {cls : Value} {d : Option Addr} {pn : List (Addr × Obj)} (hz : Zc cls d oe) (hf : ∃ vs, oe.data = .fields vs) : CallR (X.suite a ((a, oe) :: pn)) (.builtin "isinstance") (rIsXd X.K cls d a) := by
  intro pins s σ H xs us Q I r h
  obtain ⟨D, dd, fs, b, rfl, rfl, T, F, Y, hd, way, q⟩ := h
  obtain ⟨hget, _⟩ := I.pin (a, oe) (List.mem_append.mpr (.inl List.mem_cons_self))
  obtain ⟨vs, hv⟩ := hf
  obtain ⟨mA, hns, _⟩ := (show ObjOk X.prog X.w H s.heap dd (.xd fs) from I.hok dd _ hd)
  obtain ⟨od, ho, _⟩ := lookIn_ns hns
  have J : ∃ od, PySem.W.InstAt s.heap a oe D od := ⟨some od, hget, hz.1, by unfold PySem.W.notCls; rw [hv] <;> rfl, by rw [hz.2]; exact ho⟩
  have Z := kitx_err (x := a) (ox := oe) T F Y
  rcases way with ⟨c, cv, rfl, hc, e⟩ | ⟨tp, cs, ws, rfl, ht, hw, e⟩
  · obtain ⟨u1, u2, rfl, r1, r2⟩ := vals2 r
    cases r1
    rw [hc _ r2]
    exact PySem.W.kia_one Z I.kIn J e (fun z => nomatch z) fun tk => ⟨.bl b, H, I.tok tk, rfl, q⟩
  · obtain ⟨u1, u2, rfl, r1, r2⟩ := vals2 r
    cases r1
    cases r2
    obtain ⟨_, its, rv, o, h1, h2, n, h3⟩ := (show ObjOk X.prog X.w H s.heap tp (.tup cs) from I.hok tp _ ht)
    rw [hw _ rv] at h3
    obtain ⟨oc, od', dt, sl⟩ := o
    simp only at h2 h3
    subst h2 h3
    exact PySem.W.kia_tup Z I.kIn J h1 e (fun z => nomatch z) fun tk => ⟨.bl b, H, I.tok tk, rfl, q⟩


/-! ### the truth of an own class with __bool__ -/
theorem truthy_own {X : Cx} {pins : List (Addr × Obj)} {σ : L2.St} {H : Hp} {s : Shared} {C f a dx : Addr} {fs : List (Str × V)} {k : Nat} {fd : FuncData} {ps : List Str} {sp : Sp} {A' : Around} {Qv : VK} {Q : Bool → Shared → Prop} {E : Value → Shared → Prop} (m : Meth X.K C "__bool__" f)
    (F : FnOk X.prog X.w X.K X.mg X.base CX0 k f fd ps sp) (bi : Binds X.K fd ps []) (hr : Room k A') (fr : A'.frames = some X.stack) (I : Inv X pins σ H s) (ha : H a = some (.ins C dx fs))
    (h : sp [.ref a] H Qv E0) (kk : ∀ v H' u s', Inv X pins σ H' s' → RelV v u → Qv v H' → ∃ t, u = .bool t ∧ Q t s') : wpAny (model X.prog X.w) A' (truthy (.ref a)) Q E s := by
  obtain ⟨mA, O, _⟩ := ins_get I.hok ha
  obtain ⟨od, J, _⟩ := O.look
  obtain ⟨mm, hF⟩ := I.fr
  have e0 := I.env0
  have b := bi s [.ref a] I.kIn (F.len _ _ _ _ h)
  refine PySem.W.truthy_K hF I.ok.mod.kin J m.at_ m.fn (wpAny_call (codeAny_mono (F.run A' X.stack s H ⟨[.ref a], []⟩ [.ref a] [.ref a] _ E0 hr ⟨fr, e0.mod, e0.bs, e0.bsz, e0.funs, e0.frf, e0.hok, e0.bare⟩ b (.cons rfl .nil) h) fun r s' hq => ?_))
  rcases r with er | fl
  · exact hq.elim
  · cases fl
    case ret u =>
      obtain ⟨v, H', I', rv, qv⟩ := I.after (Q := Qv) hq
      obtain ⟨t, rfl, q⟩ := kk v H' u s' I' rv qv
      exact q
    all_goals exact hq.elim
theorem call_boolI {X : Cx} {C f : Addr} {k : Nat} {fd : FuncData} {ps : List Str} {sp : Sp} (m : Meth X.K C "__bool__" f) (G : FnOk X.prog X.w X.K X.mg X.base CX0 k f fd ps sp) (bi : Binds X.K fd ps []) (hr : Room (k + 1) X.A) :
    CallR X (.type "bool") (fun xs H Q => ∃ a dx fs, xs = [.ref a] ∧ H a = some (.ins C dx fs) ∧ sp [.ref a] H (fun v H' => ∃ b, v = .bl b ∧ Q (.bl b) H') E0) := by
  intro pins s σ H xs us Q I r h
  obtain ⟨a, dx, fs, rfl, ha, q⟩ := h
  obtain rfl := Vals.ref1 r
  refine callType_codes (Q₁ := fun obj s' => s'.TypeIs obj "bool" ∧ EP X pins σ Q obj s') F.called_bool (F.typeCall_bool_1 _) F.entry_object_init ?_ fun obj s1 hq => ⟨hq.1, F.args_object_init_2 obj _, ?_⟩
  · refine codeAny_of_tree ?_
    show wpAny _ _ (do checkBuiltinCall "bool.__new__" ⟨[.type "bool", .ref a], []⟩; again (.builtin "bool.__new__" ⟨[.type "bool", .ref a], []⟩)) _ _ s
    refine wpAny_bind (wpAny_of_eq (F.newCall_bool_1 _) (wpAny_pure ⟨plainId_quiet (by decide +kernel) _, codeAny_builtin F.entry_bool_new ?_⟩))
    rw [Around.under_plainId (by decide +kernel) _]
    have room : Room k X.A.in1.in1 := ⟨hr.hd, (hr.mono (Nat.le_succ k)).dp, by have := hr.un; show X.A.units + 1 + 1 + 16 * k + 200 < _; omega⟩
    have tr : wpAny (model X.prog X.w) X.A.in1.in1 (truthy (.ref a)) (fun b s' => EP X pins σ Q (.bool b) s') X.xe s := truthy_own m G bi room I.ok.frames I ha q fun v H' u s' I' rv ⟨b, e, qb⟩ => by
      subst e
      cases (show u = Value.bool b from rv)
      exact ⟨b, rfl, .bl b, H', I', rfl, qb⟩
    have f1 := F.conv_sub_bool
    repeat (any_goals (first | assumption | (with_reducible refine wpAny_bind (wpAny_mono tr (fun b s' hb => ?_) fun _ _ z => z)) | wp_step))
    all_goals exact ⟨rfl, hb⟩
  · exact object_init_meets F.called_bool.init.lookup F.called_bool.made F.newNe_bool _ _ _ _ _ ⟨hq.1, rfl, hq.2⟩


structure Txt (K : PySem.W.Frag) (mg : Str → Option Value) where
  C_Ratio : Addr
  C_BadRatio : Addr
  a_BadRatio_init : Addr
  d_BadRatio_init : FuncData
  m_BadRatio : mg "BadRatio" = some (.ref C_BadRatio)
  e_BadRatio : ErrC K C_BadRatio a_BadRatio_init s_BadRatio_init "BadRatio.__init__" "value" d_BadRatio_init
  b_BadRatio_init : Binds K d_BadRatio_init ["self", "value"] []
  t_BadRatio : PySem.W.exmOne K (.ref C_BadRatio) (.ref C_BadRatio) = some true
  C_GameError : Addr
  m_GameError : mg "GameError" = some (.ref C_GameError)
  t_BadRatio_GameError : PySem.W.exmOne K (.ref C_BadRatio) (.ref C_GameError) = some true
  C_BadEdit : Addr
  m_BadEdit : mg "BadEdit" = some (.ref C_BadEdit)
  C_BadMove : Addr
  m_BadMove : mg "BadMove" = some (.ref C_BadMove)
  C_BadPaper : Addr
  m_BadPaper : mg "BadPaper" = some (.ref C_BadPaper)
  C_BadPlan : Addr
  m_BadPlan : mg "BadPlan" = some (.ref C_BadPlan)
  C_BadText : Addr
  m_BadText : mg "BadText" = some (.ref C_BadText)
  C_BadVersion : Addr
  m_BadVersion : mg "BadVersion" = some (.ref C_BadVersion)
  C_TooLarge : Addr
  m_TooLarge : mg "TooLarge" = some (.ref C_TooLarge)
  i_BadRatio : ErrI K C_BadRatio
  kv_BadRatio : PySem.W.kitOne K (.ref C_BadRatio) (.type "ValueError") = some true
  kk_BadRatio_BadRatio : PySem.W.kitOne K (.ref C_BadRatio) (.ref C_BadRatio) = some true
  kk_BadRatio_BadEdit : PySem.W.kitOne K (.ref C_BadRatio) (.ref C_BadEdit) = some false
  kk_BadRatio_BadMove : PySem.W.kitOne K (.ref C_BadRatio) (.ref C_BadMove) = some false
  kk_BadRatio_BadPaper : PySem.W.kitOne K (.ref C_BadRatio) (.ref C_BadPaper) = some false
  kk_BadRatio_BadPlan : PySem.W.kitOne K (.ref C_BadRatio) (.ref C_BadPlan) = some false
  kk_BadRatio_BadText : PySem.W.kitOne K (.ref C_BadRatio) (.ref C_BadText) = some false
  kk_BadRatio_BadVersion : PySem.W.kitOne K (.ref C_BadRatio) (.ref C_BadVersion) = some false
  kk_BadRatio_TooLarge : PySem.W.kitOne K (.ref C_BadRatio) (.ref C_TooLarge) = some false
  z_super : mg "super" = none
  a_Ratio_init : Addr
  d_Ratio_init : FuncData
  F_Ratio_init : FunD K "__init__" "Ratio.__init__" (defArgs s_Ratio_init) (defBody s_Ratio_init) (defScope s_Ratio_init) [.int 1] [] a_Ratio_init d_Ratio_init
  ds_Ratio_init : List Value
  v_Ratio_init : Vals [.int 1] ds_Ratio_init
  bd_Ratio_init : Binds K d_Ratio_init ["self", "num", "den"] ds_Ratio_init
  b_Ratio_init : Binds K d_Ratio_init ["self", "num", "den"] []
  mk_Ratio : Mk K C_Ratio a_Ratio_init
  a_Ratio_add : Addr
  d_Ratio_add : FuncData
  F_Ratio_add : Fun K "__add__" "Ratio.__add__" s_Ratio_add a_Ratio_add d_Ratio_add
  b_Ratio_add : Binds K d_Ratio_add ["self", "other"] []
  me_Ratio_add : Meth K C_Ratio "__add__" a_Ratio_add
  a_Ratio_sub : Addr
  d_Ratio_sub : FuncData
  F_Ratio_sub : Fun K "__sub__" "Ratio.__sub__" s_Ratio_sub a_Ratio_sub d_Ratio_sub
  b_Ratio_sub : Binds K d_Ratio_sub ["self", "other"] []
  me_Ratio_sub : Meth K C_Ratio "__sub__" a_Ratio_sub
  a_Ratio_mul : Addr
  d_Ratio_mul : FuncData
  F_Ratio_mul : Fun K "__mul__" "Ratio.__mul__" s_Ratio_mul a_Ratio_mul d_Ratio_mul
  b_Ratio_mul : Binds K d_Ratio_mul ["self", "other"] []
  me_Ratio_mul : Meth K C_Ratio "__mul__" a_Ratio_mul
  a_Ratio_neg : Addr
  d_Ratio_neg : FuncData
  F_Ratio_neg : Fun K "__neg__" "Ratio.__neg__" s_Ratio_neg a_Ratio_neg d_Ratio_neg
  b_Ratio_neg : Binds K d_Ratio_neg ["self"] []
  me_Ratio_neg : Meth K C_Ratio "__neg__" a_Ratio_neg
  a_Ratio_eq : Addr
  d_Ratio_eq : FuncData
  F_Ratio_eq : Fun K "__eq__" "Ratio.__eq__" s_Ratio_eq a_Ratio_eq d_Ratio_eq
  b_Ratio_eq : Binds K d_Ratio_eq ["self", "other"] []
  me_Ratio_eq : Meth K C_Ratio "__eq__" a_Ratio_eq
  a_Ratio_ne : Addr
  d_Ratio_ne : FuncData
  F_Ratio_ne : Fun K "__ne__" "Ratio.__ne__" s_Ratio_ne a_Ratio_ne d_Ratio_ne
  b_Ratio_ne : Binds K d_Ratio_ne ["self", "other"] []
  me_Ratio_ne : Meth K C_Ratio "__ne__" a_Ratio_ne
  a_Ratio_bool : Addr
  d_Ratio_bool : FuncData
  F_Ratio_bool : Fun K "__bool__" "Ratio.__bool__" s_Ratio_bool a_Ratio_bool d_Ratio_bool
  b_Ratio_bool : Binds K d_Ratio_bool ["self"] []
  me_Ratio_bool : Meth K C_Ratio "__bool__" a_Ratio_bool
  a_Ratio_sign : Addr
  d_Ratio_sign : FuncData
  F_Ratio_sign : Fun K "sign" "Ratio.sign" s_Ratio_sign a_Ratio_sign d_Ratio_sign
  b_Ratio_sign : Binds K d_Ratio_sign ["self"] []
  me_Ratio_sign : Meth K C_Ratio "sign" a_Ratio_sign
  a_law_cell : Addr
  d_law_cell : FuncData
  F_law_cell : Fun K "_law_cell" "_law_cell" s_law_cell a_law_cell d_law_cell
  b_law_cell : Binds K d_law_cell ["script", "k"] []
  m_law_cell : mg "_law_cell" = some (.ref a_law_cell)
  a_law_is_integer : Addr
  d_law_is_integer : FuncData
  F_law_is_integer : Fun K "_law_is_integer" "_law_is_integer" s_law_is_integer a_law_is_integer d_law_is_integer
  b_law_is_integer : Binds K d_law_is_integer ["actual"] []
  m_law_is_integer : mg "_law_is_integer" = some (.ref a_law_is_integer)
  a_law_gcd : Addr
  d_law_gcd : FuncData
  F_law_gcd : Fun K "_law_gcd" "_law_gcd" s_law_gcd a_law_gcd d_law_gcd
  b_law_gcd : Binds K d_law_gcd ["a", "b"] []
  m_law_gcd : mg "_law_gcd" = some (.ref a_law_gcd)
  a_law_is_ratio : Addr
  d_law_is_ratio : FuncData
  F_law_is_ratio : Fun K "_law_is_ratio" "_law_is_ratio" s_law_is_ratio a_law_is_ratio d_law_is_ratio
  b_law_is_ratio : Binds K d_law_is_ratio ["actual", "num", "den"] []
  m_law_is_ratio : mg "_law_is_ratio" = some (.ref a_law_is_ratio)
  a_law_number : Addr
  d_law_number : FuncData
  F_law_number : Fun K "_law_number" "_law_number" s_law_number a_law_number d_law_number
  b_law_number : Binds K d_law_number ["cell"] []
  m_law_number : mg "_law_number" = some (.ref a_law_number)
  a_law_refused : Addr
  d_law_refused : FuncData
  F_law_refused : Fun K "_law_refused" "_law_refused" s_law_refused a_law_refused d_law_refused
  b_law_refused : Binds K d_law_refused ["num"] []
  m_law_refused : mg "_law_refused" = some (.ref a_law_refused)
  a_law_sign : Addr
  d_law_sign : FuncData
  F_law_sign : Fun K "_law_sign" "_law_sign" s_law_sign a_law_sign d_law_sign
  b_law_sign : Binds K d_law_sign ["num"] []
  m_law_sign : mg "_law_sign" = some (.ref a_law_sign)
  a_law : Addr
  d_law : FuncData
  F_law : Fun K "law" "law" s_law a_law d_law
  b_law : Binds K d_law ["script"] []
  m_law : mg "law" = some (.ref a_law)
  m_Ratio : mg "Ratio" = some (.ref C_Ratio)
  cl_Ratio : Cls K C_Ratio
  n_Ratio_num : NoAttr K C_Ratio "num"
  n_Ratio_den : NoAttr K C_Ratio "den"
  sf_Ratio : PySem.W.selfFirst K C_Ratio = true
  ic_Ratio : C8.InsC K C_Ratio
  g_gcd : mg "gcd" = some (.builtin "math.gcd")
  z_ValueError : mg "ValueError" = none
  z_abs : mg "abs" = none
  z_bool : mg "bool" = none
  z_int : mg "int" = none
  z_isinstance : mg "isinstance" = none
  z_len : mg "len" = none
  z_range : mg "range" = none
section
variable {P : Program} [PrOk P] {w : World} {K : PySem.W.Frag} {mg : Str → Option Value} {base : Heap}
theorem nsc_BadRatio_init : NdefX.NScope ["self", "value", "__class__"] ["self", "value"] ["__class__"] (defScope s_BadRatio_init) := NdefX.nscope_by (by decide +kernel)
theorem ok_BadRatio_init (T : Txt K mg) : FnOk P w K mg base CX0 1 T.a_BadRatio_init T.d_BadRatio_init ["self", "value"] (spErr T.C_BadRatio "value" (fun _ => True)) := by
  obtain ⟨y1, y2, y3, y4, y5, y6, y7, y8, y9, yA, yB, yC, yD, yE, yF, yG, yH, yI, yJ, lk, hcd, hcode, hvs, hcell, hsup, hB, hself, hop⟩ := T.e_BadRatio.fn
  rw [yJ] at lk ⊢
  refine fn_super lk hcd hcode hvs PrOk.file hcell T.e_BadRatio.ox hsup hB hself hop T.z_super PrOk.top rfl rfl nsc_BadRatio_init (by decide +kernel) (fun vs H Q E h => ?_) (fun A outer s H vs Q E hr h => ?_) (fun _ => rfl) (fun _ => rfl) (fun _ => ⟨_, rfl⟩) (fun _ => rfl)
  · obtain ⟨x, v, rfl, _⟩ := h
    rfl
  obtain ⟨x, v, rfl, hx, hv, k⟩ := h
  refine ⟨_, _, x, (pa_cons pe_str pa_nil), (pss_one (ps_ost (pv 0) (pv 1))), rfl, hx, ?_⟩
  refine ⟨by show 1 ≤ 1000; decide, hx, ?_⟩
  refine ⟨_, rfl, _, rfl, x, T.C_BadRatio, rfl, T.e_BadRatio.ox, T.e_BadRatio.no, .inl ⟨hx, k⟩⟩
/-! ### Ratio.__init__ -/
def sp_Ratio_init (T : Txt K mg) : Sp := fun vs H Q _ => ∃ (x dx : Addr) (n d : Int), vs = [.ref x, .int n, .int d] ∧ H x = some (.ins T.C_Ratio dx []) ∧ d ≠ 0 ∧ d.natAbs < 2 ^ 8000 ∧
  ∀ (p q : Int) (H' : Hp), (∀ b o, b ≠ x → H b = some o → H' b = some o) → H' x = some (.ins T.C_Ratio dx (pf p q)) → Rt p q n d → p.natAbs ≤ n.natAbs → q.natAbs ≤ d.natAbs → Q .non H'

theorem ok_Ratio_init (T : Txt K mg) : FnOk P w K mg base CX0 3 T.a_Ratio_init T.d_Ratio_init ["self", "num", "den"] (sp_Ratio_init T) := by
  refine T.F_Ratio_init.ok sc_Ratio_init (fun vs H Q E h => ?_) (fun cdv A outer s H vs Q E hr h => ?_)
  · obtain ⟨x, dx, n, d, rfl, _⟩ := h
    rfl
  obtain ⟨x, dx, n, d, rfl, hx, hd, hb, q⟩ := h
  refine ⟨_, PSs.nox (pss_cons (ps_if (pt_cmpR op_eq (pv 2) pe_int (nomark _)) (pss_one (ps_never)) pss_nil)
      (pss_cons (ps_set (i := 3) sc_Ratio_init.nd rfl (by first | exact Or.inl rfl | exact Or.inr rfl) (pe_callBfun cr_gcd (by rfl) T.g_gcd (pa_cons (pv 1) (pa_cons (pv 2) pa_nil))))
      (C8.pss_cut (ps_if (pt_cmpR op_lt (pv 2) pe_int (nomark _)) (pss_one (ps_set (i := 3) sc_Ratio_init.nd rfl (by first | exact Or.inl rfl | exact Or.inr rfl) (pe_un un_neg (pv 3)))) pss_nil)
      (pss_cons (ps_fld (pv 0) (pe_op op_fdivX (pv 1) (pv 3)) rfl)
      (pss_one (ps_fld (pv 0) (pe_op op_fdivX (pv 2) (pv 3)) rfl)))))), ?_⟩
  refine ⟨_, rfl, rfl, _, rfl, ite2 (fun c => absurd (V.int.inj (of_decide_eq_true c)) hd) (fun _ => ?_)⟩
  refine ⟨_, rfl, _, rfl, n, d, rfl, ?_⟩
  refine ⟨fun σ' H' => σ' = [some (.ref x), some (.int n), some (.int d), some (.int (fac n d))] ∧ H' = H, ?_, ?_⟩
  · refine ⟨_, rfl, _, _, rfl, rfl, _, rfl, ite2 (fun c => ?_) (fun c => ?_)⟩
    · have c' : d < 0 := of_decide_eq_true c
      refine ⟨_, rfl, _, rfl, ?_, rfl⟩
      unfold fac
      rw [if_pos c']
      rfl
    · have c' : ¬ d < 0 := fun z => c (decide_eq_true z)
      refine ⟨?_, rfl⟩
      unfold fac
      rw [if_neg c']
      rfl
  rintro σ1 H1 ⟨rfl, rfl⟩
  have hf := fac_ne (n := n) hd
  have hg : (fac n d).natAbs < 2 ^ 8000 := by
    rw [fac_abs]
    exact Nat.lt_of_le_of_lt (Nat.le_of_dvd (Int.natAbs_pos.mpr hd) (Nat.gcd_dvd_right _ _)) hb
  have hl := log_lt hg (by omega) (by omega)
  obtain ⟨r1, r2, r3⟩ := rt_made (n := n) hd
  refine ⟨_, rfl, _, rfl, _, _, rfl, rfl, ⟨hf, hl⟩, _, rfl, x, T.C_Ratio, dx, [], rfl, hx, T.cl_Ratio, T.n_Ratio_num, by show 0 < 1000; decide, ?_⟩
  refine ⟨_, rfl, _, rfl, _, _, rfl, rfl, ⟨hf, hl⟩, _, rfl, x, T.C_Ratio, dx, _, rfl, upd_same, T.cl_Ratio, T.n_Ratio_den, by show 1 < 1000; decide, ?_⟩
  rw [upd_upd]
  exact q _ _ _ (fun b o n e => by rw [upd_ne n]; exact e) upd_same r1 r2 r3
/-! ### Ratio.__init__@x -/
def sp_Ratio_init_x (T : Txt K mg) : Sp := fun vs H _ E => ∃ (x : Addr) (n z : Int), vs = [.ref x, .int n, .int z] ∧ z = 0 ∧ ∀ d H', Same H H' → H d = none → H' d = some (.xd [("value", .int n)]) → E (.ref T.C_BadRatio) (some d) H'

theorem ok_Ratio_init_x (T : Txt K mg) : FnOk P w K mg base (L2.CX P w) 3 T.a_Ratio_init T.d_Ratio_init ["self", "num", "den"] (sp_Ratio_init_x T) := by
  refine T.F_Ratio_init.ok sc_Ratio_init (fun vs H Q E h => ?_) (fun cdv A outer s H vs Q E hr h => ?_)
  · obtain ⟨x, n, z, rfl, _⟩ := h
    rfl
  obtain ⟨x, n, z, rfl, rfl, k⟩ := h
  refine ⟨_, (pss_cons (ps_if (pt_cmpR op_eq (pv 2) pe_int (nomark _)) (pss_one (ps_raise rfl (takes_of rfl rfl rfl rfl) (pmk_oex T.e_BadRatio.ox T.e_BadRatio.ini T.e_BadRatio.ty (ok_BadRatio_init T) (hr.mono (by decide)) T.b_BadRatio_init .nil pass0 (by rfl) T.m_BadRatio (pa_cons (pv 1) pa_nil)))) pss_nil)
      (pss_cons (ps_set (i := 3) sc_Ratio_init.nd rfl (by first | exact Or.inl rfl | exact Or.inr rfl) (pe_callBfun cr_gcd (by rfl) T.g_gcd (pa_cons (pv 1) (pa_cons (pv 2) pa_nil))))
      (C8.pss_cut (ps_if (pt_cmpR op_lt (pv 2) pe_int (nomark _)) (pss_one (ps_set (i := 3) sc_Ratio_init.nd rfl (by first | exact Or.inl rfl | exact Or.inr rfl) (pe_un un_neg (pv 3)))) pss_nil)
      (pss_cons (ps_fld (pv 0) (pe_op op_fdivX (pv 1) (pv 3)) rfl)
      (pss_one (ps_fld (pv 0) (pe_op op_fdivX (pv 2) (pv 3)) rfl)))))), ?_⟩
  refine ⟨_, rfl, rfl, _, rfl, iteT ?_⟩
  refine ⟨_, rfl, raise_ok trivial k⟩
/-! ### Ratio.__add__ -/
theorem make_ratio (T : Txt K mg) {H : Hp} {R : Addr → Hp → Prop} {E : XK} {n d : Int} (hd : d ≠ 0) (hb : d.natAbs < 2 ^ 8000)
    (k : ∀ (r : Addr) (p q : Int) (H' : Hp), Same H H' → H r = none → RatAt T.C_Ratio H' r p q → Rt p q n d → p.natAbs ≤ n.natAbs → q.natAbs ≤ d.natAbs → R r H') :
    ∀ x dx, H x = none → H dx = none → dx ≠ x → sp_Ratio_init T [.ref x, .int n, .int d] (upd (upd H dx (.own x)) x (.ins T.C_Ratio dx [])) (fun v H2 => v = .non ∧ R x H2) E := by
  intro x dx nx nd ne
  refine ⟨x, dx, n, d, rfl, upd_same, hd, hb, fun p q H' hk hx hr hp hq => ⟨rfl, ?_⟩⟩
  refine k x p q H' (fun b o e => hk b o (ne_of_none e nx) ?_) nx ⟨dx, hx⟩ hr hp hq
  rw [upd_ne (ne_of_none e nx), upd_ne (ne_of_none e nd)]
  exact e
/-- two ratios given, one made of num and den -/
def sp2 (T : Txt K mg) (num den : Int → Int → Int → Int → Int) : Sp := fun vs H Q _ => ∃ (a b : Addr) (p q u v : Int), vs = [.ref a, .ref b] ∧ RatAt T.C_Ratio H a p q ∧ RatAt T.C_Ratio H b u v ∧ 0 < q ∧ 0 < v ∧ p.natAbs < 2 ^ 2000 ∧ q.natAbs < 2 ^ 2000 ∧ u.natAbs < 2 ^ 2000 ∧ v.natAbs < 2 ^ 2000 ∧
  ∀ (r : Addr) (p' q' : Int) (H' : Hp), Same H H' → H r = none → RatAt T.C_Ratio H' r p' q' → Rt p' q' (num p q u v) (den p q u v) → p'.natAbs ≤ (num p q u v).natAbs → q'.natAbs ≤ (den p q u v).natAbs → Q (.ref r) H'
def sp_Ratio_add (T : Txt K mg) : Sp := sp2 T (fun p q u v => p * v + u * q) (fun _ q _ v => q * v)

theorem ok_Ratio_add (T : Txt K mg) : FnOk P w K mg base CX0 5 T.a_Ratio_add T.d_Ratio_add ["self", "other"] (sp_Ratio_add T) := by
  refine T.F_Ratio_add.ok sc_Ratio_add (fun vs H Q E h => ?_) (fun cdv A outer s H vs Q E hr h => ?_)
  · obtain ⟨a, b, p, q, u, v, rfl, _⟩ := h
    rfl
  obtain ⟨a, b, p, q, u, v, rfl, ⟨da, ha⟩, ⟨db, hb⟩, q0, v0, hp, hq, hu, hv, k⟩ := h
  refine ⟨_, (pss_one (ps_ret (pe_make T.mk_Ratio (ok_Ratio_init T) (hr.mono (by decide)) (by rfl) T.m_Ratio T.b_Ratio_init .nil pass0 (pa_cons (pe_op op_add (pe_op op_mulW (pe_fld (pv 0) rfl) (pe_fld (pv 1) rfl)) (pe_op op_mulW (pe_fld (pv 1) rfl) (pe_fld (pv 0) rfl))) (pa_cons (pe_op op_mulW (pe_fld (pv 0) rfl) (pe_fld (pv 1) rfl)) pa_nil))))), ?_⟩
  refine ⟨_, rfl, a, T.C_Ratio, da, _, _, rfl, ha, T.cl_Ratio, T.n_Ratio_num, pf_num _ _, _, rfl, b, T.C_Ratio, db, _, _, rfl, hb, T.cl_Ratio, T.n_Ratio_den, pf_den _ _, _, _, rfl, rfl, wide_mul hp hv (by decide) (by decide) (by decide), ?_⟩
  refine ⟨_, rfl, b, T.C_Ratio, db, _, _, rfl, hb, T.cl_Ratio, T.n_Ratio_num, pf_num _ _, _, rfl, a, T.C_Ratio, da, _, _, rfl, ha, T.cl_Ratio, T.n_Ratio_den, pf_den _ _, _, _, rfl, rfl, wide_mul hu hq (by decide) (by decide) (by decide), _, _, rfl, rfl, ?_⟩
  refine ⟨_, rfl, a, T.C_Ratio, da, _, _, rfl, ha, T.cl_Ratio, T.n_Ratio_den, pf_den _ _, _, rfl, b, T.C_Ratio, db, _, _, rfl, hb, T.cl_Ratio, T.n_Ratio_den, pf_den _ _, _, _, rfl, rfl, wide_mul hq hv (by decide) (by decide) (by decide), ?_⟩
  exact make_ratio T (Int.mul_ne_zero (by omega) (by omega)) (Nat.lt_of_lt_of_le (wide_lt hq hv) (Nat.pow_le_pow_right (by decide) (by decide))) k
/-! ### Ratio.__sub__ -/
def sp_Ratio_sub (T : Txt K mg) : Sp := sp2 T (fun p q u v => p * v - u * q) (fun _ q _ v => q * v)

theorem ok_Ratio_sub (T : Txt K mg) : FnOk P w K mg base CX0 5 T.a_Ratio_sub T.d_Ratio_sub ["self", "other"] (sp_Ratio_sub T) := by
  refine T.F_Ratio_sub.ok sc_Ratio_sub (fun vs H Q E h => ?_) (fun cdv A outer s H vs Q E hr h => ?_)
  · obtain ⟨a, b, p, q, u, v, rfl, _⟩ := h
    rfl
  obtain ⟨a, b, p, q, u, v, rfl, ⟨da, ha⟩, ⟨db, hb⟩, q0, v0, hp, hq, hu, hv, k⟩ := h
  refine ⟨_, (pss_one (ps_ret (pe_make T.mk_Ratio (ok_Ratio_init T) (hr.mono (by decide)) (by rfl) T.m_Ratio T.b_Ratio_init .nil pass0 (pa_cons (pe_op op_sub (pe_op op_mulW (pe_fld (pv 0) rfl) (pe_fld (pv 1) rfl)) (pe_op op_mulW (pe_fld (pv 1) rfl) (pe_fld (pv 0) rfl))) (pa_cons (pe_op op_mulW (pe_fld (pv 0) rfl) (pe_fld (pv 1) rfl)) pa_nil))))), ?_⟩
  refine ⟨_, rfl, a, T.C_Ratio, da, _, _, rfl, ha, T.cl_Ratio, T.n_Ratio_num, pf_num _ _, _, rfl, b, T.C_Ratio, db, _, _, rfl, hb, T.cl_Ratio, T.n_Ratio_den, pf_den _ _, _, _, rfl, rfl, wide_mul hp hv (by decide) (by decide) (by decide), ?_⟩
  refine ⟨_, rfl, b, T.C_Ratio, db, _, _, rfl, hb, T.cl_Ratio, T.n_Ratio_num, pf_num _ _, _, rfl, a, T.C_Ratio, da, _, _, rfl, ha, T.cl_Ratio, T.n_Ratio_den, pf_den _ _, _, _, rfl, rfl, wide_mul hu hq (by decide) (by decide) (by decide), _, _, rfl, rfl, ?_⟩
  refine ⟨_, rfl, a, T.C_Ratio, da, _, _, rfl, ha, T.cl_Ratio, T.n_Ratio_den, pf_den _ _, _, rfl, b, T.C_Ratio, db, _, _, rfl, hb, T.cl_Ratio, T.n_Ratio_den, pf_den _ _, _, _, rfl, rfl, wide_mul hq hv (by decide) (by decide) (by decide), ?_⟩
  exact make_ratio T (Int.mul_ne_zero (by omega) (by omega)) (Nat.lt_of_lt_of_le (wide_lt hq hv) (Nat.pow_le_pow_right (by decide) (by decide))) k
/-! ### Ratio.__mul__ -/
def sp_Ratio_mul (T : Txt K mg) : Sp := sp2 T (fun p _ u _ => p * u) (fun _ q _ v => q * v)

theorem ok_Ratio_mul (T : Txt K mg) : FnOk P w K mg base CX0 5 T.a_Ratio_mul T.d_Ratio_mul ["self", "other"] (sp_Ratio_mul T) := by
  refine T.F_Ratio_mul.ok sc_Ratio_mul (fun vs H Q E h => ?_) (fun cdv A outer s H vs Q E hr h => ?_)
  · obtain ⟨a, b, p, q, u, v, rfl, _⟩ := h
    rfl
  obtain ⟨a, b, p, q, u, v, rfl, ⟨da, ha⟩, ⟨db, hb⟩, q0, v0, hp, hq, hu, hv, k⟩ := h
  refine ⟨_, (pss_one (ps_ret (pe_make T.mk_Ratio (ok_Ratio_init T) (hr.mono (by decide)) (by rfl) T.m_Ratio T.b_Ratio_init .nil pass0 (pa_cons (pe_op op_mulW (pe_fld (pv 0) rfl) (pe_fld (pv 1) rfl)) (pa_cons (pe_op op_mulW (pe_fld (pv 0) rfl) (pe_fld (pv 1) rfl)) pa_nil))))), ?_⟩
  refine ⟨_, rfl, a, T.C_Ratio, da, _, _, rfl, ha, T.cl_Ratio, T.n_Ratio_num, pf_num _ _, _, rfl, b, T.C_Ratio, db, _, _, rfl, hb, T.cl_Ratio, T.n_Ratio_num, pf_num _ _, _, _, rfl, rfl, wide_mul hp hu (by decide) (by decide) (by decide), ?_⟩
  refine ⟨_, rfl, a, T.C_Ratio, da, _, _, rfl, ha, T.cl_Ratio, T.n_Ratio_den, pf_den _ _, _, rfl, b, T.C_Ratio, db, _, _, rfl, hb, T.cl_Ratio, T.n_Ratio_den, pf_den _ _, _, _, rfl, rfl, wide_mul hq hv (by decide) (by decide) (by decide), ?_⟩
  exact make_ratio T (Int.mul_ne_zero (by omega) (by omega)) (Nat.lt_of_lt_of_le (wide_lt hq hv) (Nat.pow_le_pow_right (by decide) (by decide))) k
/-! ### Ratio.__neg__ -/
def sp_Ratio_neg (T : Txt K mg) : Sp := fun vs H Q _ => ∃ (a : Addr) (p q : Int), vs = [.ref a] ∧ RatAt T.C_Ratio H a p q ∧ 0 < q ∧ q.natAbs < 2 ^ 2000 ∧
  ∀ (r : Addr) (p' q' : Int) (H' : Hp), Same H H' → H r = none → RatAt T.C_Ratio H' r p' q' → Rt p' q' (-p) q → Q (.ref r) H'

theorem ok_Ratio_neg (T : Txt K mg) : FnOk P w K mg base CX0 5 T.a_Ratio_neg T.d_Ratio_neg ["self"] (sp_Ratio_neg T) := by
  refine T.F_Ratio_neg.ok sc_Ratio_neg (fun vs H Q E h => ?_) (fun cdv A outer s H vs Q E hr h => ?_)
  · obtain ⟨a, p, q, rfl, _⟩ := h
    rfl
  obtain ⟨a, p, q, rfl, ⟨da, ha⟩, q0, hq, k⟩ := h
  refine ⟨_, (pss_one (ps_ret (pe_make T.mk_Ratio (ok_Ratio_init T) (hr.mono (by decide)) (by rfl) T.m_Ratio T.b_Ratio_init .nil pass0 (pa_cons (pe_un un_neg (pe_fld (pv 0) rfl)) (pa_cons (pe_fld (pv 0) rfl) pa_nil))))), ?_⟩
  refine ⟨_, rfl, a, T.C_Ratio, da, _, _, rfl, ha, T.cl_Ratio, T.n_Ratio_num, pf_num _ _, _, rfl, _, rfl, a, T.C_Ratio, da, _, _, rfl, ha, T.cl_Ratio, T.n_Ratio_den, pf_den _ _, ?_⟩
  exact make_ratio T (by omega) (Nat.lt_of_lt_of_le hq (Nat.pow_le_pow_right (by decide) (by decide))) fun r p' q' H' s' nr hr' rt _ _ => k r p' q' H' s' nr hr' rt
/-! ### Ratio.__eq__ -/
def sp_Ratio_eq (T : Txt K mg) : Sp := fun vs H Q _ => ∃ (a b : Addr) (p q u v : Int), vs = [.ref a, .ref b] ∧ RatAt T.C_Ratio H a p q ∧ RatAt T.C_Ratio H b u v ∧ ∀ c : Bool, (c = true ↔ (p = u ∧ q = v)) → Q (.bl c) H

theorem ok_Ratio_eq (T : Txt K mg) : FnOk P w K mg base CX0 1 T.a_Ratio_eq T.d_Ratio_eq ["self", "other"] (sp_Ratio_eq T) := by
  refine T.F_Ratio_eq.ok sc_Ratio_eq (fun vs H Q E h => ?_) (fun cdv A outer s H vs Q E hr h => ?_)
  · obtain ⟨a, b, p, q, u, v, rfl, _⟩ := h
    rfl
  obtain ⟨a, b, p, q, u, v, rfl, ⟨da, ha⟩, ⟨db, hb⟩, k⟩ := h
  refine ⟨_, (pss_one (ps_ret (pe_and (pe_callB (C8.call_isC T.ic_Ratio) (by rfl) T.z_isinstance (by first | exact PySem.boot_isinstance | decide +kernel) (pa_cons (pv 1) (pa_cons (pe_glob (v := .ref T.C_Ratio) (by rfl) T.m_Ratio rfl) pa_nil))) (pe_and (pe_cmpR op_eq (pe_fld (pv 0) rfl) (pe_fld (pv 1) rfl) (nomark _)) (pe_one (pe_cmpR op_eq (pe_fld (pv 0) rfl) (pe_fld (pv 1) rfl) (nomark _))))))), ?_⟩
  refine ⟨_, rfl, b, db, _, rfl, hb, _, rfl, ?_⟩
  refine ⟨_, rfl, a, T.C_Ratio, da, _, _, rfl, ha, T.cl_Ratio, T.n_Ratio_num, pf_num _ _, _, rfl, b, T.C_Ratio, db, _, _, rfl, hb, T.cl_Ratio, T.n_Ratio_num, pf_num _ _, rfl, _, rfl, ite2 (fun e => ?_) (fun e => ?_)⟩
  · have e' : p = u := V.int.inj (of_decide_eq_true e)
    refine ⟨_, rfl, a, T.C_Ratio, da, _, _, rfl, ha, T.cl_Ratio, T.n_Ratio_den, pf_den _ _, _, rfl, b, T.C_Ratio, db, _, _, rfl, hb, T.cl_Ratio, T.n_Ratio_den, pf_den _ _, rfl, k _ ?_⟩
    rw [decide_eq_true_iff]
    exact ⟨fun z => ⟨e', V.int.inj z⟩, fun z => congrArg V.int z.2⟩
  · have e' : ¬ p = u := fun z => e (decide_eq_true (congrArg V.int z))
    exact k _ ⟨(fun z => by cases z), fun z => absurd z.1 e'⟩
/-! ### Ratio.__ne__ -/
def sp_Ratio_ne (T : Txt K mg) : Sp := fun vs H Q _ => ∃ (a b : Addr) (p q u v : Int), vs = [.ref a, .ref b] ∧ RatAt T.C_Ratio H a p q ∧ RatAt T.C_Ratio H b u v ∧ ∀ c : Bool, (c = true ↔ ¬ (p = u ∧ q = v)) → Q (.bl c) H

theorem ok_Ratio_ne (T : Txt K mg) : FnOk P w K mg base CX0 3 T.a_Ratio_ne T.d_Ratio_ne ["self", "other"] (sp_Ratio_ne T) := by
  refine T.F_Ratio_ne.ok sc_Ratio_ne (fun vs H Q E h => ?_) (fun cdv A outer s H vs Q E hr h => ?_)
  · obtain ⟨a, b, p, q, u, v, rfl, _⟩ := h
    rfl
  obtain ⟨a, b, p, q, u, v, rfl, ⟨da, ha⟩, ⟨db, hb⟩, k⟩ := h
  refine ⟨_, (pss_one (ps_ret (pe_not (pe_cmpR (op_cmp (fun _ _ => rfl) T.me_Ratio_eq (ok_Ratio_eq T) (hr.mono (by decide)) T.b_Ratio_eq pass0) (pv 0) (pv 1) (nomark _))))), ?_⟩
  refine ⟨_, rfl, _, rfl, a, da, _, b, db, _, rfl, rfl, ha, hb, a, b, p, q, u, v, rfl, ⟨da, ha⟩, ⟨db, hb⟩, fun c hc => ⟨c, rfl, k _ ?_⟩⟩
  rw [← hc]
  cases c <;> simp
/-! ### Ratio.__bool__ -/
def sp_Ratio_bool (T : Txt K mg) : Sp := fun vs H Q _ => ∃ (a : Addr) (p q : Int), vs = [.ref a] ∧ RatAt T.C_Ratio H a p q ∧ Q (.bl (p != 0)) H

theorem ok_Ratio_bool (T : Txt K mg) : FnOk P w K mg base CX0 1 T.a_Ratio_bool T.d_Ratio_bool ["self"] (sp_Ratio_bool T) := by
  refine T.F_Ratio_bool.ok sc_Ratio_bool (fun vs H Q E h => ?_) (fun cdv A outer s H vs Q E hr h => ?_)
  · obtain ⟨a, p, q, rfl, _⟩ := h
    rfl
  obtain ⟨a, p, q, rfl, ⟨da, ha⟩, k⟩ := h
  refine ⟨_, (pss_one (ps_ret (pe_callTy call_bool1 (by rfl) T.z_bool (by first | exact PySem.boot_bool | decide +kernel) (pa_cons (pe_fld (pv 0) rfl) pa_nil)))), ?_⟩
  exact ⟨_, rfl, a, T.C_Ratio, da, _, _, rfl, ha, T.cl_Ratio, T.n_Ratio_num, pf_num _ _, .inl ⟨p, rfl, k⟩⟩
/-! ### Ratio.sign -/
def sgn (p : Int) : Int := if p < 0 then -1 else if p > 0 then 1 else 0
def sp_Ratio_sign (T : Txt K mg) : Sp := fun vs H Q _ => ∃ (a : Addr) (p q : Int), vs = [.ref a] ∧ RatAt T.C_Ratio H a p q ∧ Q (.int (sgn p)) H

theorem ok_Ratio_sign (T : Txt K mg) : FnOk P w K mg base CX0 1 T.a_Ratio_sign T.d_Ratio_sign ["self"] (sp_Ratio_sign T) := by
  refine T.F_Ratio_sign.ok sc_Ratio_sign (fun vs H Q E h => ?_) (fun cdv A outer s H vs Q E hr h => ?_)
  · obtain ⟨a, p, q, rfl, _⟩ := h
    rfl
  obtain ⟨a, p, q, rfl, ⟨da, ha⟩, k⟩ := h
  unfold sgn at k
  refine ⟨_, (pss_cons (ps_if (pt_cmpR op_lt (pe_fld (pv 0) rfl) pe_int (nomark _)) (pss_one (ps_ret (pe_un un_neg pe_int))) pss_nil)
      (pss_one (ps_ret (pe_ifExp (pt_cmpR op_gt (pe_fld (pv 0) rfl) pe_int (nomark _)) pe_int pe_int)))), ?_⟩
  refine ⟨_, rfl, a, T.C_Ratio, da, _, _, rfl, ha, T.cl_Ratio, T.n_Ratio_num, pf_num _ _, _, _, rfl, rfl, _, rfl, ite2 (fun e => ?_) (fun e => ?_)⟩
  · have e' : p < 0 := of_decide_eq_true e
    rw [if_pos e'] at k
    exact ⟨_, rfl, k⟩
  · have e' : ¬ p < 0 := fun z => e (decide_eq_true z)
    rw [if_neg e'] at k
    refine ⟨_, rfl, a, T.C_Ratio, da, _, _, rfl, ha, T.cl_Ratio, T.n_Ratio_num, pf_num _ _, _, _, rfl, rfl, _, rfl, ite2 (fun e => ?_) (fun e => ?_)⟩
    · have e' : 0 < p := of_decide_eq_true e
      rw [if_pos e'] at k
      exact k
    · have e' : ¬ 0 < p := fun z => e (decide_eq_true z)
      rw [if_neg e'] at k
      exact k
/-! ### _law_cell -/
def sp_law_cell (T : Txt K mg) : Sp := fun vs H Q _ => ∃ (a : Addr) (ns : List Int) (k : Int), vs = [.ref a, .int k] ∧ SqL K H a (ns.map V.int) ∧ 0 ≤ k ∧ Q (.int (cell ns k)) H

theorem ok_law_cell (T : Txt K mg) : FnOk P w K mg base CX0 1 T.a_law_cell T.d_law_cell ["script", "k"] (sp_law_cell T) := by
  refine T.F_law_cell.ok sc_law_cell (fun vs H Q E h => ?_) (fun cdv A outer s H vs Q E hr h => ?_)
  · obtain ⟨a, ns, k, rfl, _⟩ := h
    rfl
  obtain ⟨a, ns, k, rfl, hS, hk, q⟩ := h
  refine ⟨_, (pss_cons (ps_if (pt_cmpR op_lt (pv 1) (pe_callB call_len_seq (by rfl) T.z_len (by first | exact PySem.boot_len | decide +kernel) (pa_cons (pv 0) pa_nil)) (nomark _)) (pss_one (ps_ret (pe_ix ix_list (pv 0) (pv 1) (fun _ _ => rfl)))) pss_nil)
      (pss_one (ps_ret pe_int))), ?_⟩
  refine ⟨_, rfl, _, rfl, a, _, rfl, .inl hS, _, _, rfl, rfl, _, rfl, ite2 (fun c => ?_) (fun c => ?_)⟩
  · have c' : k < (((ns.map V.int).length : Nat) : Int) := of_decide_eq_true c
    rw [List.length_map] at c'
    have hlt : k.toNat < ns.length := by omega
    refine ⟨_, rfl, _, rfl, a, _, k, .int (cell ns k), rfl, rfl, hS, at_of (j := k.toNat) (by omega) ?_, q⟩
    rw [List.getElem?_map, List.getElem?_eq_getElem hlt]
    unfold cell
    rw [List.getD_eq_getElem?_getD, List.getElem?_eq_getElem hlt]
    rfl
  · have c' : ¬ k < (((ns.map V.int).length : Nat) : Int) := fun z => c (decide_eq_true z)
    rw [List.length_map] at c'
    have e : cell ns k = 0 := by
      unfold cell
      rw [List.getD_eq_getElem?_getD, List.getElem?_eq_none (by omega)]
      rfl
    rw [e] at q
    exact q
/-! ### _law_is_integer -/
def sp_law_is_integer (T : Txt K mg) : Sp := fun vs H Q _ => ∃ (k : Int), vs = [.int k] ∧ Q (.bl true) H

theorem ok_law_is_integer (T : Txt K mg) : FnOk P w K mg base CX0 1 T.a_law_is_integer T.d_law_is_integer ["actual"] (sp_law_is_integer T) := by
  refine T.F_law_is_integer.ok sc_law_is_integer (fun vs H Q E h => ?_) (fun cdv A outer s H vs Q E hr h => ?_)
  · obtain ⟨k, rfl, _⟩ := h
    rfl
  obtain ⟨k, rfl, q⟩ := h
  refine ⟨_, (pss_one (ps_ret (pe_and (pe_callB call_isi (by rfl) T.z_isinstance (by first | exact PySem.boot_isinstance | decide +kernel) (pa_cons (pv 0) (pa_cons (pe_bltn (v := .ty "int") (by rfl) T.z_int (by decide +kernel) rfl) pa_nil))) (pe_one (pe_not (pe_callB call_isi (by rfl) T.z_isinstance (by first | exact PySem.boot_isinstance | decide +kernel) (pa_cons (pv 0) (pa_cons (pe_bltn (v := .ty "bool") (by rfl) T.z_bool (by decide +kernel) rfl) pa_nil)))))))), ?_⟩
  refine ⟨_, rfl, .int k, .ty "int", .type "int", .type "int", true, rfl, .ty _, .base (.int _), kit_ty (by decide +kernel), true, rfl, ?_⟩
  refine iteT ?_
  refine ⟨_, rfl, .int k, .ty "bool", .type "int", .type "bool", false, rfl, .ty _, .base (.int _), kit_ty (by decide +kernel), false, rfl, ?_⟩
  exact q
/-! ### _law_is_integer@q -/

theorem ok_law_is_integer_q (T : Txt K mg) : FnQ P w K mg base 1 T.a_law_is_integer T.d_law_is_integer ["actual"] (sp_law_is_integer T) := by
  refine fun_okQ T.F_law_is_integer sc_law_is_integer (fun vs H Q E h => ?_) (fun cdv A outer s H vs Q E hr h => ?_)
  · obtain ⟨k, rfl, _⟩ := h
    rfl
  obtain ⟨k, rfl, q⟩ := h
  refine ⟨_, (pss_one (ps_ret (pe_and (pe_callB call_isi (by rfl) T.z_isinstance (by first | exact PySem.boot_isinstance | decide +kernel) (pa_cons (pv 0) (pa_cons (pe_bltn (v := .ty "int") (by rfl) T.z_int (by decide +kernel) rfl) pa_nil))) (pe_one (pe_not (pe_callB call_isi (by rfl) T.z_isinstance (by first | exact PySem.boot_isinstance | decide +kernel) (pa_cons (pv 0) (pa_cons (pe_bltn (v := .ty "bool") (by rfl) T.z_bool (by decide +kernel) rfl) pa_nil)))))))), ?_⟩
  refine ⟨_, rfl, .int k, .ty "int", .type "int", .type "int", true, rfl, .ty _, .base (.int _), kit_ty (by decide +kernel), true, rfl, ?_⟩
  refine iteT ?_
  refine ⟨_, rfl, .int k, .ty "bool", .type "int", .type "bool", false, rfl, .ty _, .base (.int _), kit_ty (by decide +kernel), false, rfl, ?_⟩
  exact q
/-! ### _law_gcd -/
theorem gcd_pow {i N m : Nat} (h : 2 ^ i * m < 2 ^ N) (hi : N ≤ i) : m = 0 := by
  refine Nat.eq_zero_of_not_pos fun z => ?_
  have h1 : 2 ^ N ≤ 2 ^ i := Nat.pow_le_pow_right (by decide) hi
  have h2 : 2 ^ i * 1 ≤ 2 ^ i * m := Nat.mul_le_mul_left _ z
  omega
theorem gcd_half {x y j M : Nat} (hy : 0 < y) (hx : y < x) (h : 2 ^ j * (x * y) < M) : x % y = 0 ∨ 2 ^ (j + 1) * (y * (x % y)) < M := by
  refine .inr (Nat.lt_of_le_of_lt ?_ h)
  have h1 : 2 * (x % y) ≤ x := by
    have h2 := Nat.mod_lt x hy
    have h3 := Nat.div_add_mod x y
    have h4 : 1 ≤ x / y := (Nat.le_div_iff_mul_le hy).mpr (by omega)
    have h5 : y * 1 ≤ y * (x / y) := Nat.mul_le_mul_left _ h4
    omega
  have h6 : 2 ^ (j + 1) * (y * (x % y)) = 2 ^ j * (y * (2 * (x % y))) := by
    rw [Nat.pow_succ]
    simp only [Nat.mul_assoc, Nat.mul_left_comm]
  rw [h6, Nat.mul_comm x y]
  exact Nat.mul_le_mul_left _ (Nat.mul_le_mul_left _ h1)
def sp_law_gcd (T : Txt K mg) : Sp := fun vs H Q _ => ∃ (a b : Int), vs = [.int a, .int b] ∧ a.natAbs < 2 ^ 1900 ∧ b.natAbs < 2 ^ 1900 ∧ Q (.int ((Nat.gcd a.natAbs b.natAbs : Nat) : Int)) H

theorem ok_law_gcd (T : Txt K mg) : FnOk P w K mg base CX0 1 T.a_law_gcd T.d_law_gcd ["a", "b"] (sp_law_gcd T) := by
  refine T.F_law_gcd.ok sc_law_gcd (fun vs H Q E h => ?_) (fun cdv A outer s H vs Q E hr h => ?_)
  · obtain ⟨a, b, rfl, _⟩ := h
    rfl
  obtain ⟨a, b, rfl, ha, hb, q⟩ := h
  refine ⟨_, (pss_cons (ps_set (i := 0) sc_law_gcd.nd rfl (by first | exact Or.inl rfl | exact Or.inr rfl) (pe_callB call_abs (by rfl) T.z_abs (by first | exact PySem.boot_abs | decide +kernel) (pa_cons (pv 0) pa_nil)))
      (pss_cons (ps_set (i := 1) sc_law_gcd.nd rfl (by first | exact Or.inl rfl | exact Or.inr rfl) (pe_callB call_abs (by rfl) T.z_abs (by first | exact PySem.boot_abs | decide +kernel) (pa_cons (pv 1) pa_nil)))
      (pss_cons (ps_for PassesOwn.never rfl (pi_range1 (by rfl) T.z_range (pa_cons pe_int pa_nil)) (pg_name (i := 2) sc_law_gcd.nd rfl (by first | exact Or.inl rfl | exact Or.inr rfl)) (pss_cons (ps_if (pt_cmpR op_eq (pv 1) pe_int (nomark _)) (pss_one (ps_ret (pv 0))) pss_nil)
      (pss_cons (ps_set (i := 3) sc_law_gcd.nd rfl (by first | exact Or.inl rfl | exact Or.inr rfl) (pe_op op_mod (pe_callTy call_int1 (by rfl) T.z_int (by first | exact PySem.boot_int | decide +kernel) (pa_cons (pv 0) pa_nil)) (pv 1)))
      (pss_cons (ps_set (i := 0) sc_law_gcd.nd rfl (by first | exact Or.inl rfl | exact Or.inr rfl) (pv 1))
      (pss_one (ps_set (i := 1) sc_law_gcd.nd rfl (by first | exact Or.inl rfl | exact Or.inr rfl) (pv 3)))))))
      (pss_one (ps_ret (pv 0)))))), ?_⟩
  have absn : ∀ z : Int, (if z < 0 then -z else z) = ((z.natAbs : Nat) : Int) := fun z => by split <;> omega
  refine ⟨_, rfl, a, rfl, _, rfl, b, rfl, ?_⟩
  rw [absn, absn]
  have hab : a.natAbs * b.natAbs < 2 ^ 3800 := by
    have e : (2 : Nat) ^ 3800 = 2 ^ 1900 * 2 ^ 1900 := by rw [← Nat.pow_add]
    rw [e]
    exact Nat.mul_lt_mul'' ha hb
  obtain ⟨N, hN, hab⟩ : ∃ N, N ≤ 3800 ∧ a.natAbs * b.natAbs < 2 ^ N := ⟨3800, Nat.le_refl _, hab⟩
  clear ha hb
  generalize eg : Nat.gcd a.natAbs b.natAbs = g at q
  refine ⟨4000, rfl, by decide, by decide, for_range (n := 4000) (fun i σ' H' => ∃ (x y : Nat) (yk yc : Option V), σ' = [some (.int (x : Int)), some (.int (y : Int)), yk, yc] ∧ H' = H ∧ Nat.gcd x y = g ∧ ((i = 0 ∧ x * y < 2 ^ N) ∨ ∃ j, i = j + 1 ∧ (y = 0 ∨ (y < x ∧ 2 ^ j * (x * y) < 2 ^ N))))
    ⟨a.natAbs, b.natAbs, none, none, rfl, rfl, eg, .inl ⟨rfl, hab⟩⟩ ?_ ?_⟩
  · rintro i σ1 H1 hi ⟨x, y, yk, yc, rfl, rfl, hg, hv⟩
    refine ⟨_, rfl, rfl, _, rfl, ite2 (fun c => ?_) (fun c => ?_)⟩
    · have c' : (y : Int) = 0 := V.int.inj (of_decide_eq_true c)
      have y0 : y = 0 := by omega
      subst y0
      rw [Nat.gcd_zero_right] at hg
      subst hg
      exact ⟨_, rfl, q⟩
    · have y0 : y ≠ 0 := fun z => c (by rw [z]; exact decide_eq_true rfl)
      have yp : 0 < y := Nat.pos_of_ne_zero y0
      refine ⟨_, rfl, .inl ⟨_, rfl, _, rfl, _, _, rfl, rfl, by show (0 : Int) < (y : Int); omega, _, rfl, _, rfl, ?_⟩⟩
      refine ⟨y, x % y, _, _, rfl, rfl, ?_, .inr ⟨i, rfl, ?_⟩⟩
      · rw [Nat.gcd_comm y, ← Nat.gcd_rec, Nat.gcd_comm]
        exact hg
      · rcases hv with ⟨rfl, h1⟩ | ⟨j, rfl, h1 | ⟨h1, h2⟩⟩
        · refine .inr ⟨Nat.mod_lt _ yp, Nat.lt_of_le_of_lt ?_ h1⟩
          rw [Nat.pow_zero, Nat.one_mul, Nat.mul_comm x y]
          exact Nat.mul_le_mul_left _ (Nat.mod_le _ _)
        · exact absurd h1 y0
        · rcases gcd_half yp h1 h2 with h3 | h3
          · exact .inl h3
          · exact .inr ⟨Nat.mod_lt _ yp, h3⟩
  · rintro σ1 H1 ⟨x, y, yk, yc, rfl, rfl, hg, hv⟩
    have y0 : y = 0 := by
      rcases hv with ⟨h, _⟩ | ⟨j, hj, h1 | ⟨h1, h2⟩⟩
      · cases h
      · exact h1
      · have h3 := gcd_pow h2 (by omega)
        rcases Nat.mul_eq_zero.mp h3 with h4 | h4
        · omega
        · exact h4
    subst y0
    rw [Nat.gcd_zero_right] at hg
    subst hg
    exact ⟨_, rfl, q⟩
/-! ### _law_is_ratio -/
def sp_law_is_ratio (T : Txt K mg) : Sp := fun vs H Q _ => ∃ (r : Addr) (p q n d : Int), vs = [.ref r, .int n, .int d] ∧ RatAt T.C_Ratio H r p q ∧ Rt p q n d ∧ d ≠ 0 ∧ n.natAbs < 2 ^ 1900 ∧ d.natAbs < 2 ^ 1900 ∧ Q (.bl true) H

theorem ok_law_is_ratio (T : Txt K mg) : FnOk P w K mg base CX0 2 T.a_law_is_ratio T.d_law_is_ratio ["actual", "num", "den"] (sp_law_is_ratio T) := by
  refine T.F_law_is_ratio.ok sc_law_is_ratio (fun vs H Q E h => ?_) (fun cdv A outer s H vs Q E hr h => ?_)
  · obtain ⟨r, p, q, n, d, rfl, _⟩ := h
    rfl
  obtain ⟨r, p, q, n, d, rfl, ⟨dx, er⟩, hR, hd, hn, hdb, k⟩ := h
  refine ⟨_, (pss_cons (ps_if (pt_not (pt_truth (pe_callB (C8.call_isC T.ic_Ratio) (by rfl) T.z_isinstance (by first | exact PySem.boot_isinstance | decide +kernel) (pa_cons (pv 0) (pa_cons (pe_glob (v := .ref T.C_Ratio) (by rfl) T.m_Ratio rfl) pa_nil))) (fun _ => rfl))) (pss_one (ps_ret pe_bl)) pss_nil)
      (pss_cons (ps_if (PW.pt (pw_or (pt_not (pt_truth (pe_call (ok_law_is_integer T) (hr.mono (by decide)) (by rfl) T.m_law_is_integer T.F_law_is_integer.kp T.b_law_is_integer .nil pass0 (pa_cons (pe_fld (pv 0) rfl) pa_nil)) (fun _ => rfl))) (pw_or1 (pt_not (pt_truth (pe_call (ok_law_is_integer T) (hr.mono (by decide)) (by rfl) T.m_law_is_integer T.F_law_is_integer.kp T.b_law_is_integer .nil pass0 (pa_cons (pe_fld (pv 0) rfl) pa_nil)) (fun _ => rfl)))))) (pss_one (ps_ret pe_bl)) pss_nil)
      (pss_cons (ps_set (i := 3) sc_law_is_ratio.nd rfl (by first | exact Or.inl rfl | exact Or.inr rfl) (pe_call (ok_law_gcd T) (hr.mono (by decide)) (by rfl) T.m_law_gcd T.F_law_gcd.kp T.b_law_gcd .nil pass0 (pa_cons (pv 1) (pa_cons (pv 2) pa_nil))))
      (C8.pss_cut (ps_if (pt_cmpR op_lt (pv 2) pe_int (nomark _)) (pss_one (ps_set (i := 3) sc_law_is_ratio.nd rfl (by first | exact Or.inl rfl | exact Or.inr rfl) (pe_un un_neg (pv 3)))) pss_nil)
      (pss_one (ps_ret (pe_and (pe_cmpR op_eq (pe_fld (pv 0) rfl) (pe_op op_fdivX (pv 1) (pv 3)) (nomark _)) (pe_one (pe_cmpR op_eq (pe_fld (pv 0) rfl) (pe_op op_fdivX (pv 2) (pv 3)) (nomark _)))))))))), ?_⟩
  obtain ⟨m1, _, _⟩ := rt_made (n := n) hd
  obtain ⟨ep, eq⟩ := rt_uniq hR m1 hd hd rfl
  have hf := fac_ne (n := n) hd
  have hg : (fac n d).natAbs < 2 ^ 1900 := by
    rw [fac_abs]
    exact Nat.lt_of_le_of_lt (Nat.le_of_dvd (Int.natAbs_pos.mpr hd) (Nat.gcd_dvd_right _ _)) hdb
  have hl := log_lt hg (by decide) (by decide)
  refine ⟨_, rfl, r, dx, _, rfl, er, true, rfl, ?_⟩
  refine ⟨_, rfl, r, T.C_Ratio, dx, _, _, rfl, er, T.cl_Ratio, T.n_Ratio_num, pf_num _ _, p, rfl, true, rfl, ?_⟩
  refine ⟨_, rfl, r, T.C_Ratio, dx, _, _, rfl, er, T.cl_Ratio, T.n_Ratio_den, pf_den _ _, q, rfl, true, rfl, ?_⟩
  refine ⟨_, rfl, _, rfl, n, d, rfl, hn, hdb, ?_⟩
  refine ⟨fun σ' H' => σ' = [some (.ref r), some (.int n), some (.int d), some (.int (fac n d))] ∧ H' = H, ?_, ?_⟩
  · refine ⟨_, rfl, _, _, rfl, rfl, _, rfl, ite2 (fun c => ?_) (fun c => ?_)⟩
    · have c' : d < 0 := of_decide_eq_true c
      refine ⟨_, rfl, _, rfl, ?_, rfl⟩
      unfold fac
      rw [if_pos c']
      rfl
    · have c' : ¬ d < 0 := fun z => c (decide_eq_true z)
      refine ⟨?_, rfl⟩
      unfold fac
      rw [if_neg c']
      rfl
  rintro σ1 H1 ⟨rfl, rfl⟩
  refine ⟨_, rfl, r, T.C_Ratio, dx, _, _, rfl, er, T.cl_Ratio, T.n_Ratio_num, pf_num _ _, _, rfl, _, rfl, _, _, rfl, rfl, ⟨hf, hl⟩, rfl, _, rfl, ?_⟩
  show if decide (V.int p = V.int (n.fdiv (fac n d))) = true then _ else _
  rw [← ep, decide_eq_true rfl]
  refine ⟨_, rfl, r, T.C_Ratio, dx, _, _, rfl, er, T.cl_Ratio, T.n_Ratio_den, pf_den _ _, _, rfl, _, rfl, _, _, rfl, rfl, ⟨hf, hl⟩, rfl, ?_⟩
  show Q (.bl (decide (V.int q = V.int (d.fdiv (fac n d))))) _
  rw [← eq, decide_eq_true rfl]
  exact k
/-! ### _law_number -/
def lawNum (c : Int) : Int := if c % 3 = 0 then c / 3 % 9 - 4 else if c % 3 = 1 then c / 3 % 2001 - 1000 else c % (2 * 10 ^ 30) - 10 ^ 30
theorem lawNum_lt (c : Int) : (lawNum c).natAbs < 2 ^ 100 := by
  unfold lawNum
  have h1 : 0 ≤ c / 3 % 9 := Int.emod_nonneg _ (by decide)
  have h2 : c / 3 % 9 < 9 := Int.emod_lt_of_pos _ (by decide)
  have h3 : 0 ≤ c / 3 % 2001 := Int.emod_nonneg _ (by decide)
  have h4 : c / 3 % 2001 < 2001 := Int.emod_lt_of_pos _ (by decide)
  have h5 : 0 ≤ c % (2 * 10 ^ 30) := Int.emod_nonneg _ (by decide)
  have h6 : c % (2 * 10 ^ 30) < 2 * 10 ^ 30 := Int.emod_lt_of_pos _ (by decide)
  have h7 : (2 : Nat) ^ 100 = 1267650600228229401496703205376 := by decide
  rw [h7]
  split
  · omega
  · split <;> omega
def sp_law_number (T : Txt K mg) : Sp := fun vs H Q _ => ∃ (c : Int), vs = [.int c] ∧ Q (.int (lawNum c)) H

theorem ok_law_number (T : Txt K mg) : FnOk P w K mg base CX0 1 T.a_law_number T.d_law_number ["cell"] (sp_law_number T) := by
  refine T.F_law_number.ok sc_law_number (fun vs H Q E h => ?_) (fun cdv A outer s H vs Q E hr h => ?_)
  · obtain ⟨c, rfl, _⟩ := h
    rfl
  obtain ⟨c, rfl, q⟩ := h
  refine ⟨_, (pss_cons (ps_if (pt_cmpR op_eq (pe_op op_mod (pe_callTy call_int1 (by rfl) T.z_int (by first | exact PySem.boot_int | decide +kernel) (pa_cons (pv 0) pa_nil)) pe_int) pe_int (nomark _)) (pss_one (ps_ret (pe_op op_sub (pe_op op_mod (pe_op op_fdiv (pv 0) pe_int) pe_int) pe_int))) pss_nil)
      (pss_cons (ps_if (pt_cmpR op_eq (pe_op op_mod (pe_callTy call_int1 (by rfl) T.z_int (by first | exact PySem.boot_int | decide +kernel) (pa_cons (pv 0) pa_nil)) pe_int) pe_int (nomark _)) (pss_one (ps_ret (pe_op op_sub (pe_op op_mod (pe_op op_fdiv (pv 0) pe_int) pe_int) pe_int))) pss_nil)
      (pss_one (ps_ret (pe_op op_sub (pe_op op_mod (pe_callTy call_int1 (by rfl) T.z_int (by first | exact PySem.boot_int | decide +kernel) (pa_cons (pv 0) pa_nil)) (pe_op op_mul pe_int (pe_op op_pow pe_int pe_int))) (pe_op op_pow pe_int pe_int)))))), ?_⟩
  unfold lawNum at q
  refine ⟨_, rfl, .inl ⟨_, rfl, _, _, rfl, rfl, by show (0 : Int) < 3; decide, rfl, _, rfl, ite2 (fun e => ?_) (fun e => ?_)⟩⟩
  · have e' : c % 3 = 0 := V.int.inj (of_decide_eq_true e)
    rw [if_pos e'] at q
    exact ⟨_, rfl, _, _, rfl, rfl, ⟨by decide, by decide⟩, _, _, rfl, rfl, by show (0 : Int) < 9; decide, _, _, rfl, rfl, q⟩
  have e' : ¬ c % 3 = 0 := fun z => e (decide_eq_true (congrArg V.int z))
  rw [if_neg e'] at q
  refine ⟨_, rfl, .inl ⟨_, rfl, _, _, rfl, rfl, by show (0 : Int) < 3; decide, rfl, _, rfl, ite2 (fun e => ?_) (fun e => ?_)⟩⟩
  · have e' : c % 3 = 1 := V.int.inj (of_decide_eq_true e)
    rw [if_pos e'] at q
    exact ⟨_, rfl, _, _, rfl, rfl, ⟨by decide, by decide⟩, _, _, rfl, rfl, by show (0 : Int) < 2001; decide, _, _, rfl, rfl, q⟩
  have e' : ¬ c % 3 = 1 := fun z => e (decide_eq_true (congrArg V.int z))
  rw [if_neg e'] at q
  exact ⟨_, rfl, .inl ⟨_, rfl, _, _, rfl, rfl, ⟨by decide, by decide, by decide⟩, _, _, rfl, rfl, .inl ⟨by decide, by decide⟩, _, _, rfl, rfl, by show (0 : Int) < 2 * 10 ^ 30; decide, _, _, rfl, rfl, ⟨by decide, by decide, by decide⟩, _, _, rfl, rfl, q⟩⟩
/-! ### _law_refused -/
def sp_law_refused (T : Txt K mg) : Sp := fun vs H Q _ => ∃ n : Int, vs = [.int n] ∧ ∀ H', Same H H' → Q (.bl true) H'

theorem ok_law_refused (T : Txt K mg) : FnOk P w K mg base CX0 6 T.a_law_refused T.d_law_refused ["num"] (sp_law_refused T) := by
  refine T.F_law_refused.ok sc_law_refused (fun vs H Q E h => ?_) (fun cdv A outer s H vs Q E hr h => ?_)
  · obtain ⟨n, rfl, _⟩ := h
    rfl
  obtain ⟨n, rfl, k⟩ := h
  refine ⟨_, (pss_cons (ps_try_asN (i := 1) rfl rfl sc_law_refused.nd rfl rfl ⟨rfl, by decide, .inl T.m_GameError⟩ takes0 (fun W pn xe tk ow => (by exact (pss_one (ps_expr (pe_makeT T.mk_Ratio (ok_Ratio_init_x T) (hr.mono (by decide)) (by rfl) T.m_Ratio T.b_Ratio_init .nil (fun σ => passAt tk σ) (pa_cons (pv 0) (pa_cons pe_int pa_nil))))))) (fun ae oe cls d pn hz hf => (by exact (by exact (pss_cons (by exact (ps_if (by exact (pt_tru (by exact (pe_callB (call_isX hz hf) (by rfl) T.z_isinstance (by first | exact PySem.boot_isinstance | decide +kernel) (by exact (pa_cons (by exact (pv 1)) (pa_cons (by exact (pe_tup (by exact (pa_cons (by exact (pe_glob (v := .ref T.C_BadEdit) (by rfl) T.m_BadEdit rfl)) (pa_cons (by exact (pe_glob (v := .ref T.C_BadMove) (by rfl) T.m_BadMove rfl)) (pa_cons (by exact (pe_glob (v := .ref T.C_BadPaper) (by rfl) T.m_BadPaper rfl)) (pa_cons (by exact (pe_glob (v := .ref T.C_BadPlan) (by rfl) T.m_BadPlan rfl)) (pa_cons (by exact (pe_glob (v := .ref T.C_BadText) (by rfl) T.m_BadText rfl)) (pa_cons (by exact (pe_glob (v := .ref T.C_BadVersion) (by rfl) T.m_BadVersion rfl)) (pa_cons (by exact (pe_glob (v := .ref T.C_TooLarge) (by rfl) T.m_TooLarge rfl)) pa_nil)))))))))) pa_nil))))) (fun _ => rfl))) (by exact (pss_one (by exact (ps_ret pe_bl)))) pss_nil))
      (pss_one (by exact (ps_ret (by exact (by exact (pe_and (by exact (pe_callB (call_isX hz hf) (by rfl) T.z_isinstance (by first | exact PySem.boot_isinstance | decide +kernel) (by exact (pa_cons (by exact (pv 1)) (pa_cons (by exact (pe_glob (v := .ref T.C_BadRatio) (by rfl) T.m_BadRatio rfl)) pa_nil))))) (by exact (pe_and (by exact (pe_callB (call_isX hz hf) (by rfl) T.z_isinstance (by first | exact PySem.boot_isinstance | decide +kernel) (by exact (pa_cons (by exact (pv 1)) (pa_cons (by exact (pe_bltn (v := .ty "ValueError") (by rfl) T.z_ValueError (by decide +kernel) rfl)) pa_nil))))) (by exact (pe_and (by exact (pe_callQ (ok_law_is_integer_q T) (roomS hr (by decide)) (by rfl) T.m_law_is_integer T.F_law_is_integer.kp T.b_law_is_integer (by exact (pa_cons (by exact (pe_xf T.e_BadRatio.xf T.e_BadRatio.no hz hf (by exact (pv 1)))) pa_nil)))) (pe_one (by exact (pe_cmpR op_eq (by exact (pe_xf T.e_BadRatio.xf T.e_BadRatio.no hz hf (by exact (pv 1)))) (by exact (pv 0)) (nomark _)))))))))))))))))))
      (pss_one (ps_ret pe_bl))), ?_⟩
  refine ⟨_, rfl, fun x dx nx nd ne => ⟨x, n, 0, rfl, rfl, fun d H6 s6 hd hv => ?_⟩⟩
  have S6 : Same H H6 := fun b o e => s6 b o (by rw [upd_ne (ne_of_none e nx), upd_ne (ne_of_none e nd)]; exact e)
  refine ⟨true, T.t_BadRatio_GameError, fun _ ea nea => ?_, fun z => Bool.noConfusion z⟩
  -- none of the others
  refine ⟨_, rfl, by show 7 ≤ sizeLine; decide, fun tp htp => ?_⟩
  have hv2 := (same_upd (o := .tup [.ref T.C_BadEdit, .ref T.C_BadMove, .ref T.C_BadPaper, .ref T.C_BadPlan, .ref T.C_BadText, .ref T.C_BadVersion, .ref T.C_TooLarge]) htp) _ _ hv
  have S7 := S6.trans (same_upd (o := .tup [.ref T.C_BadEdit, .ref T.C_BadMove, .ref T.C_BadPaper, .ref T.C_BadPlan, .ref T.C_BadText, .ref T.C_BadVersion, .ref T.C_TooLarge]) htp)
  have kt := upd_same (H := H6) (a := tp) (o := .tup [.ref T.C_BadEdit, .ref T.C_BadMove, .ref T.C_BadPaper, .ref T.C_BadPlan, .ref T.C_BadText, .ref T.C_BadVersion, .ref T.C_TooLarge])
  refine ⟨T.C_BadRatio, d, _, false, rfl, rfl, T.e_BadRatio.ox, T.e_BadRatio.xf, T.i_BadRatio, hv2, .inr ⟨tp, _, [.ref T.C_BadEdit, .ref T.C_BadMove, .ref T.C_BadPaper, .ref T.C_BadPlan, .ref T.C_BadText, .ref T.C_BadVersion, .ref T.C_TooLarge], rfl, kt, fun us h => ?_, ?_⟩, false, rfl, ?_⟩
  · rcases h with _ | ⟨r1, h⟩
    rcases h with _ | ⟨r2, h⟩
    rcases h with _ | ⟨r3, h⟩
    rcases h with _ | ⟨r4, h⟩
    rcases h with _ | ⟨r5, h⟩
    rcases h with _ | ⟨r6, h⟩
    rcases h with _ | ⟨r7, h⟩
    cases h
    cases r1; cases r2; cases r3; cases r4; cases r5; cases r6; cases r7
    rfl
  · exact kit_cons T.kk_BadRatio_BadEdit (kit_cons T.kk_BadRatio_BadMove (kit_cons T.kk_BadRatio_BadPaper (kit_cons T.kk_BadRatio_BadPlan (kit_cons T.kk_BadRatio_BadText (kit_cons T.kk_BadRatio_BadVersion (kit_cons T.kk_BadRatio_TooLarge kit_nil))))))
  refine ⟨_, rfl, T.C_BadRatio, d, _, true, rfl, rfl, T.e_BadRatio.ox, T.e_BadRatio.xf, T.i_BadRatio, hv2, .inl ⟨.ref T.C_BadRatio, .ref T.C_BadRatio, rfl, fun u h => h, T.kk_BadRatio_BadRatio⟩, true, rfl, iteT ?_⟩
  refine ⟨_, rfl, T.C_BadRatio, d, _, true, rfl, rfl, T.e_BadRatio.ox, T.e_BadRatio.xf, T.i_BadRatio, hv2, .inl ⟨.ty "ValueError", .type "ValueError", rfl, fun u h => h, T.kv_BadRatio⟩, true, rfl, iteT ?_⟩
  refine ⟨_, rfl, rfl, rfl, d, _, _, rfl, hv2, rfl, n, rfl, true, rfl, iteT ?_⟩
  refine ⟨_, rfl, rfl, rfl, d, _, _, rfl, hv2, rfl, _, rfl, rfl, ?_⟩
  show Q (.bl (decide (V.int n = V.int n))) _
  rw [decide_eq_true rfl]
  exact k _ S7
/-! ### _law_sign -/
theorem sgn_zero {p q n d : Int} (h : Rt p q n d) (hd : d ≠ 0) : (p != 0) = !decide (V.int n = V.int 0) := by
  obtain ⟨q0, _, e⟩ := h
  by_cases z : n = 0
  · subst z
    rw [Int.zero_mul] at e
    rcases Int.mul_eq_zero.mp e with w | w
    · rw [w, decide_eq_true rfl]
      rfl
    · exact absurd w hd
  · have pz : p ≠ 0 := fun w => by
      rw [w, Int.zero_mul] at e
      rcases Int.mul_eq_zero.mp e.symm with u | u
      · exact z u
      · omega
    rw [decide_eq_false fun w => z (V.int.inj w)]
    simpa using pz
theorem sgn_mul {p q n d : Int} (h : Rt p q n d) (hd : d ≠ 0) : sgn p = sgn n * sgn d := by
  obtain ⟨q0, _, e⟩ := h
  unfold sgn
  rcases Int.lt_trichotomy n 0 with hn | hn | hn
  · have e1 : n * q < 0 := Int.mul_neg_of_neg_of_pos hn q0
    rcases Int.lt_or_gt_of_ne hd with h | h
    · have : 0 < p := by
        refine Int.not_le.mp fun z => ?_
        have := Int.mul_nonneg_of_nonpos_of_nonpos z (Int.le_of_lt h)
        omega
      rw [if_neg (by omega), if_pos this, if_pos hn, if_pos h]
      rfl
    · have : p < 0 := by
        refine Int.not_le.mp fun z => ?_
        have := Int.mul_nonneg z (Int.le_of_lt h)
        omega
      rw [if_pos this, if_pos hn, if_neg (by omega), if_pos h]
      rfl
  · subst hn
    rw [Int.zero_mul] at e
    have : p = 0 := (Int.mul_eq_zero.mp e).resolve_right hd
    subst this
    simp
  · have e1 : 0 < n * q := Int.mul_pos hn q0
    rcases Int.lt_or_gt_of_ne hd with h | h
    · have : p < 0 := by
        refine Int.not_le.mp fun z => ?_
        have := Int.mul_nonpos_of_nonneg_of_nonpos z (Int.le_of_lt h)
        omega
      rw [if_pos this, if_neg (by omega), if_pos hn, if_pos h]
      rfl
    · have : 0 < p := by
        refine Int.not_le.mp fun z => ?_
        have := Int.mul_nonpos_of_nonpos_of_nonneg z (Int.le_of_lt h)
        omega
      rw [if_neg (by omega), if_pos this, if_neg (by omega), if_pos hn, if_neg (by omega), if_pos h]
      rfl
theorem sgn_lt (n : Int) : -2 < sgn n ∧ sgn n < 2 := by
  unfold sgn
  split
  · omega
  · split <;> omega
def sp_law_sign (T : Txt K mg) : Sp := fun vs H Q _ => ∃ n : Int, vs = [.int n] ∧ Q (.int (sgn n)) H

theorem ok_law_sign (T : Txt K mg) : FnOk P w K mg base CX0 1 T.a_law_sign T.d_law_sign ["num"] (sp_law_sign T) := by
  refine T.F_law_sign.ok sc_law_sign (fun vs H Q E h => ?_) (fun cdv A outer s H vs Q E hr h => ?_)
  · obtain ⟨n, rfl, _⟩ := h
    rfl
  obtain ⟨p, rfl, k⟩ := h
  unfold sgn at k
  refine ⟨_, (pss_cons (ps_if (pt_cmpR op_lt (pv 0) pe_int (nomark _)) (pss_one (ps_ret (pe_un un_neg pe_int))) pss_nil)
      (pss_cons (ps_if (pt_cmpR op_gt (pv 0) pe_int (nomark _)) (pss_one (ps_ret pe_int)) pss_nil)
      (pss_one (ps_ret pe_int)))), ?_⟩
  refine ⟨_, rfl, _, _, rfl, rfl, _, rfl, ite2 (fun e => ?_) (fun e => ?_)⟩
  · have e' : p < 0 := of_decide_eq_true e
    rw [if_pos e'] at k
    exact ⟨_, rfl, k⟩
  · have e' : ¬ p < 0 := fun z => e (decide_eq_true z)
    rw [if_neg e'] at k
    refine ⟨_, rfl, _, _, rfl, rfl, _, rfl, ite2 (fun e => ?_) (fun e => ?_)⟩
    · have e' : 0 < p := of_decide_eq_true e
      rw [if_pos e'] at k
      exact k
    · have e' : ¬ 0 < p := fun z => e (decide_eq_true z)
      rw [if_neg e'] at k
      exact k
/-! ### law -/
def sp_law (T : Txt K mg) : Sp := spLaw K

theorem ok_law (T : Txt K mg) : FnOk P w K mg base CX0 9 T.a_law T.d_law ["script"] (sp_law T) := by
  refine T.F_law.ok sc_law (fun vs H Q E h => ?_) (fun cdv A outer s H vs Q E hr h => ?_)
  · obtain ⟨a, ns, rfl, _⟩ := h
    rfl
  obtain ⟨s0, ns, rfl, hS, h63, q⟩ := h
  refine ⟨_, (pss_cons (ps_for PassesOwn.never rfl (pi_range1 (by rfl) T.z_range (pa_cons (pe_op op_add pe_int (pe_op op_fdiv (pe_callB call_len_seq (by rfl) T.z_len (by first | exact PySem.boot_len | decide +kernel) (pa_cons (pv 0) pa_nil)) pe_int)) pa_nil)) (pg_name (i := 1) sc_law.nd rfl (by first | exact Or.inl rfl | exact Or.inr rfl)) (pss_cons (ps_set (i := 2) sc_law.nd rfl (by first | exact Or.inl rfl | exact Or.inr rfl) (pe_call (ok_law_number T) (hr.mono (by decide)) (by rfl) T.m_law_number T.F_law_number.kp T.b_law_number .nil pass0 (pa_cons (pe_call (ok_law_cell T) (hr.mono (by decide)) (by rfl) T.m_law_cell T.F_law_cell.kp T.b_law_cell .nil pass0 (pa_cons (pv 0) (pa_cons (pe_op op_mul pe_int (pv 1)) pa_nil))) pa_nil)))
      (pss_cons (ps_set (i := 3) sc_law.nd rfl (by first | exact Or.inl rfl | exact Or.inr rfl) (pe_call (ok_law_number T) (hr.mono (by decide)) (by rfl) T.m_law_number T.F_law_number.kp T.b_law_number .nil pass0 (pa_cons (pe_call (ok_law_cell T) (hr.mono (by decide)) (by rfl) T.m_law_cell T.F_law_cell.kp T.b_law_cell .nil pass0 (pa_cons (pv 0) (pa_cons (pe_op op_add (pe_op op_mul pe_int (pv 1)) pe_int) pa_nil))) pa_nil)))
      (pss_cons (ps_if (pt_not (pt_truth (pe_call (ok_law_refused T) (hr.mono (by decide)) (by rfl) T.m_law_refused T.F_law_refused.kp T.b_law_refused .nil pass0 (pa_cons (pv 2) pa_nil)) (fun _ => rfl))) (pss_one (ps_ret pe_bl)) pss_nil)
      (pss_cons (ps_if (pt_not (pt_truth (pe_call (ok_law_is_ratio T) (hr.mono (by decide)) (by rfl) T.m_law_is_ratio T.F_law_is_ratio.kp T.b_law_is_ratio .nil pass0 (pa_cons (pe_make T.mk_Ratio (ok_Ratio_init T) (hr.mono (by decide)) (by rfl) T.m_Ratio T.bd_Ratio_init T.v_Ratio_init pass0 (pa_cons (pv 2) pa_nil)) (pa_cons (pv 2) (pa_cons pe_int pa_nil)))) (fun _ => rfl))) (pss_one (ps_ret pe_bl)) pss_nil)
      (C8.pss_cut (ps_if (pt_cmpR op_eq (pv 3) pe_int (nomark _)) (pss_one (ps_set (i := 3) sc_law.nd rfl (by first | exact Or.inl rfl | exact Or.inr rfl) pe_int)) pss_nil)
      (pss_cons (ps_set (i := 4) sc_law.nd rfl (by first | exact Or.inl rfl | exact Or.inr rfl) (pe_make T.mk_Ratio (ok_Ratio_init T) (hr.mono (by decide)) (by rfl) T.m_Ratio T.b_Ratio_init .nil pass0 (pa_cons (pv 2) (pa_cons (pv 3) pa_nil))))
      (pss_cons (ps_if (pt_not (pt_truth (pe_call (ok_law_is_ratio T) (hr.mono (by decide)) (by rfl) T.m_law_is_ratio T.F_law_is_ratio.kp T.b_law_is_ratio .nil pass0 (pa_cons (pv 4) (pa_cons (pv 2) (pa_cons (pv 3) pa_nil)))) (fun _ => rfl))) (pss_one (ps_ret pe_bl)) pss_nil)
      (pss_cons (ps_if (pt_cmpR op_ne (pe_callTy (call_boolI T.me_Ratio_bool (ok_Ratio_bool T) T.b_Ratio_bool (hr.mono (by decide))) (by rfl) T.z_bool (by first | exact PySem.boot_bool | decide +kernel) (pa_cons (pv 4) pa_nil)) (pe_cmpR op_ne (pv 2) pe_int (nomark _)) (nomark _)) (pss_one (ps_ret pe_bl)) pss_nil)
      (pss_cons (ps_set (i := 5) sc_law.nd rfl (by first | exact Or.inl rfl | exact Or.inr rfl) (pe_op op_mul (pe_call (ok_law_sign T) (hr.mono (by decide)) (by rfl) T.m_law_sign T.F_law_sign.kp T.b_law_sign .nil pass0 (pa_cons (pv 2) pa_nil)) (pe_call (ok_law_sign T) (hr.mono (by decide)) (by rfl) T.m_law_sign T.F_law_sign.kp T.b_law_sign .nil pass0 (pa_cons (pv 3) pa_nil))))
      (pss_one (ps_if (PW.pt (pw_or (pt_not (pt_truth (pe_call (ok_law_is_integer T) (hr.mono (by decide)) (by rfl) T.m_law_is_integer T.F_law_is_integer.kp T.b_law_is_integer .nil pass0 (pa_cons (pe_meth0 (pv 4) T.cl_Ratio T.me_Ratio_sign (ok_Ratio_sign T) (hr.mono (by decide)) T.b_Ratio_sign .nil pass0) pa_nil)) (fun _ => rfl))) (pw_or1 (pt_cmpR op_ne (pe_meth0 (pv 4) T.cl_Ratio T.me_Ratio_sign (ok_Ratio_sign T) (hr.mono (by decide)) T.b_Ratio_sign .nil pass0) (pv 5) (nomark _))))) (pss_one (ps_ret pe_bl)) pss_nil))))))))))))
      (pss_one (ps_ret pe_bl))), ?_⟩
  refine ⟨_, rfl, s0, _, rfl, .inl hS, _, _, rfl, rfl, ⟨by decide, by decide⟩, _, _, rfl, rfl, _, rfl, ?_, ?_, ?_⟩
  · rw [List.length_map]
    omega
  · rw [List.length_map]
    omega
  refine for_range (fun i σ' H' => ∃ y1 y2 y3 y4 y5, σ' = [some (.ref s0), y1, y2, y3, y4, y5] ∧ Same H H') ⟨_, _, _, _, _, rfl, Same.refl _⟩ ?_ (fun σ1 H1 _ => q _)
  rintro i σ1 H1 hi ⟨y1, y2, y3, y4, y5, rfl, s1⟩
  have hA := s1.seq (K := K) hS
  have ik : (0 : Int) + (i : Int) = (i : Int) := Int.zero_add _
  rw [ik]
  refine ⟨_, rfl, _, rfl, _, _, rfl, rfl, .inl ⟨by decide, by decide⟩, s0, ns, 2 * (i : Int), rfl, hA, by omega, _, rfl, ?_⟩
  refine ⟨_, rfl, _, rfl, _, _, rfl, rfl, .inl ⟨by decide, by decide⟩, _, _, rfl, rfl, s0, ns, 2 * (i : Int) + 1, rfl, hA, by omega, _, rfl, ?_⟩
  have ha := lawNum_lt (cell ns (2 * (i : Int)))
  have hb := lawNum_lt (cell ns (2 * (i : Int) + 1))
  generalize lawNum (cell ns (2 * (i : Int))) = n at ha ⊢
  generalize lawNum (cell ns (2 * (i : Int) + 1)) = d0 at hb ⊢
  refine ⟨_, rfl, n, rfl, fun H2 s2 => ⟨true, rfl, ?_⟩⟩
  refine ⟨_, rfl, ?_⟩
  refine make_ratio T (n := n) (d := 1) (by decide) (by decide) fun r p q' H3 s3 _ R3 rt _ _ => ?_
  refine ⟨_, rfl, r, p, q', n, 1, rfl, R3, rt, by decide, lt_of ha (by decide), by decide, true, rfl, ?_⟩
  have S3 := s1.trans (s2.trans s3)
  let Mid : L2.St → Hp → Prop := fun σ' H' => ∃ d : Int, σ' = [some (.ref s0), some (.int (i : Int)), some (.int n), some (.int d), y4, y5] ∧ H' = H3 ∧ d ≠ 0 ∧ d.natAbs < 2 ^ 100
  refine ⟨Mid, ?_, ?_⟩
  · refine ⟨_, rfl, rfl, _, rfl, ite2 (fun _ => ?_) (fun c0 => ?_)⟩
    · exact ⟨7, rfl, rfl, by decide, by decide⟩
    · exact ⟨d0, rfl, rfl, fun z => c0 (by rw [z]; exact decide_eq_true rfl), hb⟩
  clear hb d0 R3 rt
  rintro σ2 H4 ⟨d, rfl, rfl, d0, hd⟩
  refine ⟨_, rfl, _, rfl, ?_⟩
  refine make_ratio T (n := n) (d := d) d0 (lt_of hd (by decide)) fun r p q' H5 s5 _ R5 rt b1 b2 => ?_
  refine ⟨_, rfl, _, rfl, _, rfl, r, p, q', n, d, rfl, R5, rt, d0, lt_of ha (by decide), lt_of hd (by decide), true, rfl, ?_⟩
  obtain ⟨da, r5⟩ := id R5
  refine ⟨_, rfl, r, da, _, rfl, r5, r, p, q', rfl, R5, _, rfl, _, rfl, rfl, rfl, _, rfl, iteNS (congrArg V.bl (sgn_zero rt d0)) ?_⟩
  have g1 := sgn_lt n
  have g2 := sgn_lt d
  refine ⟨_, rfl, n, rfl, _, rfl, d, rfl, _, _, rfl, rfl, .inl ⟨by omega, by omega⟩, ?_⟩
  refine ⟨_, rfl, r, da, _, rfl, r5, no_sign _ _, r, p, q', rfl, R5, sgn p, rfl, true, rfl, ?_⟩
  refine ⟨_, rfl, r, da, _, rfl, r5, no_sign _ _, r, p, q', rfl, R5, _, rfl, rfl, _, rfl, iteNS (congrArg V.int (sgn_mul rt d0)) ?_⟩
  exact ⟨_, _, _, _, _, rfl, S3.trans s5⟩
end
/-! ### what the top has written -/
theorem all_mk {l : PySem.W.OpenLaw} [PrOk l.prog] {w : World} {K : PySem.W.Frag} {h : Heap} {mg : Str → Option Value} {fa : Addr} (X : K.In h) (G : h.Ns mainGlobals mg) (hfa : mg "law" = some (.ref fa))
    {C_Ratio : Addr}
    {C_GameError : Addr}
    {C_BadRatio fe_BadRatio ce_BadRatio de_BadRatio ne_BadRatio : Addr} {nm_BadRatio qn_BadRatio : Str} {bs_BadRatio sb_BadRatio : List Value} {sn_BadRatio : List Str} {ab_BadRatio : Bool} {cl_BadRatio : Option Bool} {dd_BadRatio oe_BadRatio ae_BadRatio ge_BadRatio he_BadRatio : Option Addr} {k0_BadRatio k1_BadRatio k2_BadRatio k3_BadRatio k5_BadRatio : Option Value} {oce_BadRatio kve_BadRatio dce_BadRatio pme_BadRatio cte_BadRatio cle_BadRatio cme_BadRatio : Value} {sle_BadRatio sme_BadRatio sne_BadRatio : Array (Option Value)} {vse_BadRatio : Array Value} {tfe_BadRatio : Tok}
    {C_BadEdit : Addr}
    {C_BadMove : Addr}
    {C_BadPaper : Addr}
    {C_BadPlan : Addr}
    {C_BadText : Addr}
    {C_BadVersion : Addr}
    {C_TooLarge : Addr}
    {f1 : Addr} {od1 an1 : Option Addr} {sl1 : Array (Option Value)} {oc1 kV1 dc1 pm1 cd1 ct1 : Value}
    {Tt1 : Addr} {tc1 : Value} {td1 : Option Addr} {tn1 : Nat} {tl1 : Array (Option Value)} {tk1 : Tok}
    {f2 : Addr} {od2 an2 : Option Addr} {sl2 : Array (Option Value)} {oc2 kV2 dc2 pm2 cd2 ct2 : Value}
    {f3 : Addr} {od3 an3 : Option Addr} {sl3 : Array (Option Value)} {oc3 kV3 dc3 pm3 cd3 ct3 : Value}
    {f4 : Addr} {od4 an4 : Option Addr} {sl4 : Array (Option Value)} {oc4 kV4 dc4 pm4 cd4 ct4 : Value}
    {f5 : Addr} {od5 an5 : Option Addr} {sl5 : Array (Option Value)} {oc5 kV5 dc5 pm5 cd5 ct5 : Value}
    {f6 : Addr} {od6 an6 : Option Addr} {sl6 : Array (Option Value)} {oc6 kV6 dc6 pm6 cd6 ct6 : Value}
    {f7 : Addr} {od7 an7 : Option Addr} {sl7 : Array (Option Value)} {oc7 kV7 dc7 pm7 cd7 ct7 : Value}
    {f8 : Addr} {od8 an8 : Option Addr} {sl8 : Array (Option Value)} {oc8 kV8 dc8 pm8 cd8 ct8 : Value}
    {f9 : Addr} {od9 an9 : Option Addr} {sl9 : Array (Option Value)} {oc9 kV9 dc9 pm9 cd9 ct9 : Value}
    {f10 : Addr} {od10 an10 : Option Addr} {sl10 : Array (Option Value)} {oc10 kV10 dc10 pm10 cd10 ct10 : Value}
    {f11 : Addr} {od11 an11 : Option Addr} {sl11 : Array (Option Value)} {oc11 kV11 dc11 pm11 cd11 ct11 : Value}
    {f12 : Addr} {od12 an12 : Option Addr} {sl12 : Array (Option Value)} {oc12 kV12 dc12 pm12 cd12 ct12 : Value}
    {f13 : Addr} {od13 an13 : Option Addr} {sl13 : Array (Option Value)} {oc13 kV13 dc13 pm13 cd13 ct13 : Value}
    {f14 : Addr} {od14 an14 : Option Addr} {sl14 : Array (Option Value)} {oc14 kV14 dc14 pm14 cd14 ct14 : Value}
    {f15 : Addr} {od15 an15 : Option Addr} {sl15 : Array (Option Value)} {oc15 kV15 dc15 pm15 cd15 ct15 : Value}
    {f16 : Addr} {od16 an16 : Option Addr} {sl16 : Array (Option Value)} {oc16 kV16 dc16 pm16 cd16 ct16 : Value}
    {f17 : Addr} {od17 an17 : Option Addr} {sl17 : Array (Option Value)} {oc17 kV17 dc17 pm17 cd17 ct17 : Value}
    (ac_Ratio : PySem.W.nsIn K mainGlobals "Ratio" = some (some (.ref C_Ratio)))
    (pg_Ratio : PySem.W.plainGet K C_Ratio Str.empty = true)
    (hd_Ratio : PySem.W.hasDictIn K C_Ratio = true)
    (po_Ratio : PySem.W.plainOver K C_Ratio = true)
    (sa_Ratio : PySem.W.findIn K (.ref C_Ratio) "__setattr__" = some (some (.builtin "object.__setattr__")))
    (mkc_Ratio : PySem.W.makesIn K C_Ratio = true)
    (kpc_Ratio : PySem.W.keepIn K (.ref C_Ratio) = true)
    (na_Ratio_num : PySem.W.findIn K (.ref C_Ratio) "num" = some none)
    (na_Ratio_den : PySem.W.findIn K (.ref C_Ratio) "den" = some none)
    (sf_Ratio : PySem.W.selfFirst K C_Ratio = true)
    (xa_Ratio : PySem.W.findIn K (.ref C_Ratio) "__class__" = some (some (.builtin "object.__class__")))
    (xn_Ratio : PySem.W.specialIn K (.builtin "object.__class__") "__get__" = some (some (.builtin "getset_descriptor.__get__")))
    (xt_Ratio : PySem.W.takesIn K (.builtin "object.__class__") = some true)
    (xm_Ratio : PySem.W.mroIn K C_Ratio (.type "object") = some true)
    (ac_GameError : PySem.W.nsIn K mainGlobals "GameError" = some (some (.ref C_GameError)))
    (re_GameError : PySem.W.subIn K (.ref C_GameError) (.type "BaseException") = some true)
    (ri_GameError : PySem.W.isClsIn K C_GameError = true)
    (ac_BadRatio : PySem.W.nsIn K mainGlobals "BadRatio" = some (some (.ref C_BadRatio)))
    (xl_BadRatio : K.lookup C_BadRatio = some (excClassObj nm_BadRatio qn_BadRatio C_BadRatio ne_BadRatio bs_BadRatio [.ref C_GameError, .type "ValueError", .type "Exception", .type "BaseException", .type "object"] true sn_BadRatio sb_BadRatio ab_BadRatio cl_BadRatio dd_BadRatio k0_BadRatio k1_BadRatio k2_BadRatio k3_BadRatio k5_BadRatio "ValueError.__new__"))
    (esa_BadRatio : PySem.W.findIn K (.ref C_BadRatio) "__setattr__" = some (some (.builtin "object.__setattr__")))
    (exc_BadRatio : PySem.W.subIn K (.ref C_BadRatio) (.type "BaseException") = some true)
    (ety_BadRatio : PySem.W.typeIn K (.ref C_BadRatio) = some (.type "type"))
    (ekp_BadRatio : PySem.W.keepIn K (.ref C_BadRatio) = true)
    (ega_BadRatio : PySem.W.findIn K (.ref C_BadRatio) "__getattribute__" = some (some (.builtin "BaseException.__getattribute__")))
    (egg_BadRatio : PySem.W.findIn K (.ref C_BadRatio) "__getattr__" = some none)
    (ehd_BadRatio : PySem.W.hasDictIn K C_BadRatio = true)
    (eno_BadRatio : PySem.W.findIn K (.ref C_BadRatio) "value" = some none)
    (ein_BadRatio : PySem.W.findIn K (.ref C_BadRatio) "__init__" = some (some (.ref fe_BadRatio)))
    (eit_BadRatio : PySem.W.typeIn K (.ref fe_BadRatio) = some (.type "function"))
    (eic_BadRatio : PySem.W.isClsIn K C_BadRatio = true)
    (ess_BadRatio : PySem.W.subIn K (.ref C_BadRatio) (.ref C_BadRatio) = some true)
    (elk_BadRatio : K.lookup fe_BadRatio = some ⟨oce_BadRatio, oe_BadRatio, .func (PySem.W.ksFn "__init__" "BadRatio.__init__" (defArgs s_BadRatio_init) (defBody s_BadRatio_init) (defScope s_BadRatio_init) .none kve_BadRatio dce_BadRatio pme_BadRatio ae_BadRatio (.ref ce_BadRatio) cte_BadRatio de_BadRatio), sle_BadRatio⟩)
    (ecd_BadRatio : PySem.W.codeIn K (.ref ce_BadRatio) "BadRatio.__init__" = true)
    (eco_BadRatio : K.lookup ce_BadRatio = some ⟨cle_BadRatio, ge_BadRatio, .fields vse_BadRatio, sme_BadRatio⟩)
    (evs_BadRatio : vse_BadRatio[2]? = some (.str "/claim/cut.py" tfe_BadRatio))
    (ecc_BadRatio : K.lookup de_BadRatio = some ⟨cme_BadRatio, he_BadRatio, .cell (some (.ref C_BadRatio)), sne_BadRatio⟩)
    (esu_BadRatio : PySem.W.ks_superIn K C_BadRatio C_BadRatio "__init__" = some (some (.builtin "ValueError.__init__")))
    (evb_BadRatio : PySem.W.subIn K (.ref C_BadRatio) (.type "ValueError") = some true)
    (emr_BadRatio : PySem.W.mroIn K C_BadRatio (.ref C_BadRatio) = some true)
    (eha_BadRatio : PySem.W.findIn K (.ref C_BadRatio) "__class__" = some (some (.builtin "object.__class__")))
    (ehm_BadRatio : PySem.W.mroIn K C_BadRatio (.type "object") = some true)
    (ex_BadEdit_BadRatio : PySem.W.subIn K (.ref C_BadRatio) (.ref C_BadEdit) = some false)
    (ex_BadMove_BadRatio : PySem.W.subIn K (.ref C_BadRatio) (.ref C_BadMove) = some false)
    (ex_BadPaper_BadRatio : PySem.W.subIn K (.ref C_BadRatio) (.ref C_BadPaper) = some false)
    (ex_BadPlan_BadRatio : PySem.W.subIn K (.ref C_BadRatio) (.ref C_BadPlan) = some false)
    (ex_BadText_BadRatio : PySem.W.subIn K (.ref C_BadRatio) (.ref C_BadText) = some false)
    (ex_BadVersion_BadRatio : PySem.W.subIn K (.ref C_BadRatio) (.ref C_BadVersion) = some false)
    (ex_TooLarge_BadRatio : PySem.W.subIn K (.ref C_BadRatio) (.ref C_TooLarge) = some false)
    (esr_GameError_BadRatio : PySem.W.subIn K (.ref C_BadRatio) (.ref C_GameError) = some true)
    (ert_GameError_BadRatio : PySem.W.typeIn K (.ref C_GameError) = some (.type "type"))
    (ac_BadEdit : PySem.W.nsIn K mainGlobals "BadEdit" = some (some (.ref C_BadEdit)))
    (eic_BadEdit : PySem.W.isClsIn K C_BadEdit = true)
    (ety_BadEdit : PySem.W.typeIn K (.ref C_BadEdit) = some (.type "type"))
    (ac_BadMove : PySem.W.nsIn K mainGlobals "BadMove" = some (some (.ref C_BadMove)))
    (eic_BadMove : PySem.W.isClsIn K C_BadMove = true)
    (ety_BadMove : PySem.W.typeIn K (.ref C_BadMove) = some (.type "type"))
    (ac_BadPaper : PySem.W.nsIn K mainGlobals "BadPaper" = some (some (.ref C_BadPaper)))
    (eic_BadPaper : PySem.W.isClsIn K C_BadPaper = true)
    (ety_BadPaper : PySem.W.typeIn K (.ref C_BadPaper) = some (.type "type"))
    (ac_BadPlan : PySem.W.nsIn K mainGlobals "BadPlan" = some (some (.ref C_BadPlan)))
    (eic_BadPlan : PySem.W.isClsIn K C_BadPlan = true)
    (ety_BadPlan : PySem.W.typeIn K (.ref C_BadPlan) = some (.type "type"))
    (ac_BadText : PySem.W.nsIn K mainGlobals "BadText" = some (some (.ref C_BadText)))
    (eic_BadText : PySem.W.isClsIn K C_BadText = true)
    (ety_BadText : PySem.W.typeIn K (.ref C_BadText) = some (.type "type"))
    (ac_BadVersion : PySem.W.nsIn K mainGlobals "BadVersion" = some (some (.ref C_BadVersion)))
    (eic_BadVersion : PySem.W.isClsIn K C_BadVersion = true)
    (ety_BadVersion : PySem.W.typeIn K (.ref C_BadVersion) = some (.type "type"))
    (ac_TooLarge : PySem.W.nsIn K mainGlobals "TooLarge" = some (some (.ref C_TooLarge)))
    (eic_TooLarge : PySem.W.isClsIn K C_TooLarge = true)
    (ety_TooLarge : PySem.W.typeIn K (.ref C_TooLarge) = some (.type "type"))
    (ehn : PySem.W.specialIn K (.builtin "object.__class__") "__get__" = some (some (.builtin "getset_descriptor.__get__")))
    (eht : PySem.W.takesIn K (.builtin "object.__class__") = some true)
    (opq : PySem.W.nsIn K cStatics "thirdparty.any" = some none)
    (z_super : PySem.W.nsIn K mainGlobals "super" = some none)
    (a1 : PySem.W.findIn K (.ref C_Ratio) "__init__" = some (some (.ref f1)))
    (i1 : PySem.W.isFn K (.ref f1) = true)
    (l1 : K.lookup f1 = some ⟨oc1, od1, .func (PySem.W.fnOf "__init__" "Ratio.__init__" (defArgs s_Ratio_init) (defBody s_Ratio_init) (defScope s_Ratio_init) (.ref Tt1) kV1 dc1 pm1 an1 cd1 ct1), sl1⟩)
    (c1 : PySem.W.codeIn K cd1 "Ratio.__init__" = true)
    (k1 : PySem.W.keepIn K (.ref f1) = true)
    (t1 : K.lookup Tt1 = some ⟨tc1, td1, .seq #[.int 1 tk1] tn1, tl1⟩)
    (a2 : PySem.W.findIn K (.ref C_Ratio) "__add__" = some (some (.ref f2)))
    (i2 : PySem.W.isFn K (.ref f2) = true)
    (l2 : K.lookup f2 = some ⟨oc2, od2, .func (PySem.W.fnOf "__add__" "Ratio.__add__" (defArgs s_Ratio_add) (defBody s_Ratio_add) (defScope s_Ratio_add) .none kV2 dc2 pm2 an2 cd2 ct2), sl2⟩)
    (c2 : PySem.W.codeIn K cd2 "Ratio.__add__" = true)
    (k2 : PySem.W.keepIn K (.ref f2) = true)
    (a3 : PySem.W.findIn K (.ref C_Ratio) "__sub__" = some (some (.ref f3)))
    (i3 : PySem.W.isFn K (.ref f3) = true)
    (l3 : K.lookup f3 = some ⟨oc3, od3, .func (PySem.W.fnOf "__sub__" "Ratio.__sub__" (defArgs s_Ratio_sub) (defBody s_Ratio_sub) (defScope s_Ratio_sub) .none kV3 dc3 pm3 an3 cd3 ct3), sl3⟩)
    (c3 : PySem.W.codeIn K cd3 "Ratio.__sub__" = true)
    (k3 : PySem.W.keepIn K (.ref f3) = true)
    (a4 : PySem.W.findIn K (.ref C_Ratio) "__mul__" = some (some (.ref f4)))
    (i4 : PySem.W.isFn K (.ref f4) = true)
    (l4 : K.lookup f4 = some ⟨oc4, od4, .func (PySem.W.fnOf "__mul__" "Ratio.__mul__" (defArgs s_Ratio_mul) (defBody s_Ratio_mul) (defScope s_Ratio_mul) .none kV4 dc4 pm4 an4 cd4 ct4), sl4⟩)
    (c4 : PySem.W.codeIn K cd4 "Ratio.__mul__" = true)
    (k4 : PySem.W.keepIn K (.ref f4) = true)
    (a5 : PySem.W.findIn K (.ref C_Ratio) "__neg__" = some (some (.ref f5)))
    (i5 : PySem.W.isFn K (.ref f5) = true)
    (l5 : K.lookup f5 = some ⟨oc5, od5, .func (PySem.W.fnOf "__neg__" "Ratio.__neg__" (defArgs s_Ratio_neg) (defBody s_Ratio_neg) (defScope s_Ratio_neg) .none kV5 dc5 pm5 an5 cd5 ct5), sl5⟩)
    (c5 : PySem.W.codeIn K cd5 "Ratio.__neg__" = true)
    (k5 : PySem.W.keepIn K (.ref f5) = true)
    (a6 : PySem.W.findIn K (.ref C_Ratio) "__eq__" = some (some (.ref f6)))
    (i6 : PySem.W.isFn K (.ref f6) = true)
    (l6 : K.lookup f6 = some ⟨oc6, od6, .func (PySem.W.fnOf "__eq__" "Ratio.__eq__" (defArgs s_Ratio_eq) (defBody s_Ratio_eq) (defScope s_Ratio_eq) .none kV6 dc6 pm6 an6 cd6 ct6), sl6⟩)
    (c6 : PySem.W.codeIn K cd6 "Ratio.__eq__" = true)
    (k6 : PySem.W.keepIn K (.ref f6) = true)
    (a7 : PySem.W.findIn K (.ref C_Ratio) "__ne__" = some (some (.ref f7)))
    (i7 : PySem.W.isFn K (.ref f7) = true)
    (l7 : K.lookup f7 = some ⟨oc7, od7, .func (PySem.W.fnOf "__ne__" "Ratio.__ne__" (defArgs s_Ratio_ne) (defBody s_Ratio_ne) (defScope s_Ratio_ne) .none kV7 dc7 pm7 an7 cd7 ct7), sl7⟩)
    (c7 : PySem.W.codeIn K cd7 "Ratio.__ne__" = true)
    (k7 : PySem.W.keepIn K (.ref f7) = true)
    (a8 : PySem.W.findIn K (.ref C_Ratio) "__bool__" = some (some (.ref f8)))
    (i8 : PySem.W.isFn K (.ref f8) = true)
    (l8 : K.lookup f8 = some ⟨oc8, od8, .func (PySem.W.fnOf "__bool__" "Ratio.__bool__" (defArgs s_Ratio_bool) (defBody s_Ratio_bool) (defScope s_Ratio_bool) .none kV8 dc8 pm8 an8 cd8 ct8), sl8⟩)
    (c8 : PySem.W.codeIn K cd8 "Ratio.__bool__" = true)
    (k8 : PySem.W.keepIn K (.ref f8) = true)
    (a9 : PySem.W.findIn K (.ref C_Ratio) "sign" = some (some (.ref f9)))
    (i9 : PySem.W.isFn K (.ref f9) = true)
    (l9 : K.lookup f9 = some ⟨oc9, od9, .func (PySem.W.fnOf "sign" "Ratio.sign" (defArgs s_Ratio_sign) (defBody s_Ratio_sign) (defScope s_Ratio_sign) .none kV9 dc9 pm9 an9 cd9 ct9), sl9⟩)
    (c9 : PySem.W.codeIn K cd9 "Ratio.sign" = true)
    (k9 : PySem.W.keepIn K (.ref f9) = true)
    (a10 : PySem.W.nsIn K mainGlobals "_law_cell" = some (some (.ref f10)))
    (l10 : K.lookup f10 = some ⟨oc10, od10, .func (PySem.W.fnOf "_law_cell" "_law_cell" (defArgs s_law_cell) (defBody s_law_cell) (defScope s_law_cell) .none kV10 dc10 pm10 an10 cd10 ct10), sl10⟩)
    (c10 : PySem.W.codeIn K cd10 "_law_cell" = true)
    (k10 : PySem.W.keepIn K (.ref f10) = true)
    (a11 : PySem.W.nsIn K mainGlobals "_law_is_integer" = some (some (.ref f11)))
    (l11 : K.lookup f11 = some ⟨oc11, od11, .func (PySem.W.fnOf "_law_is_integer" "_law_is_integer" (defArgs s_law_is_integer) (defBody s_law_is_integer) (defScope s_law_is_integer) .none kV11 dc11 pm11 an11 cd11 ct11), sl11⟩)
    (c11 : PySem.W.codeIn K cd11 "_law_is_integer" = true)
    (k11 : PySem.W.keepIn K (.ref f11) = true)
    (a12 : PySem.W.nsIn K mainGlobals "_law_gcd" = some (some (.ref f12)))
    (l12 : K.lookup f12 = some ⟨oc12, od12, .func (PySem.W.fnOf "_law_gcd" "_law_gcd" (defArgs s_law_gcd) (defBody s_law_gcd) (defScope s_law_gcd) .none kV12 dc12 pm12 an12 cd12 ct12), sl12⟩)
    (c12 : PySem.W.codeIn K cd12 "_law_gcd" = true)
    (k12 : PySem.W.keepIn K (.ref f12) = true)
    (a13 : PySem.W.nsIn K mainGlobals "_law_is_ratio" = some (some (.ref f13)))
    (l13 : K.lookup f13 = some ⟨oc13, od13, .func (PySem.W.fnOf "_law_is_ratio" "_law_is_ratio" (defArgs s_law_is_ratio) (defBody s_law_is_ratio) (defScope s_law_is_ratio) .none kV13 dc13 pm13 an13 cd13 ct13), sl13⟩)
    (c13 : PySem.W.codeIn K cd13 "_law_is_ratio" = true)
    (k13 : PySem.W.keepIn K (.ref f13) = true)
    (a14 : PySem.W.nsIn K mainGlobals "_law_number" = some (some (.ref f14)))
    (l14 : K.lookup f14 = some ⟨oc14, od14, .func (PySem.W.fnOf "_law_number" "_law_number" (defArgs s_law_number) (defBody s_law_number) (defScope s_law_number) .none kV14 dc14 pm14 an14 cd14 ct14), sl14⟩)
    (c14 : PySem.W.codeIn K cd14 "_law_number" = true)
    (k14 : PySem.W.keepIn K (.ref f14) = true)
    (a15 : PySem.W.nsIn K mainGlobals "_law_refused" = some (some (.ref f15)))
    (l15 : K.lookup f15 = some ⟨oc15, od15, .func (PySem.W.fnOf "_law_refused" "_law_refused" (defArgs s_law_refused) (defBody s_law_refused) (defScope s_law_refused) .none kV15 dc15 pm15 an15 cd15 ct15), sl15⟩)
    (c15 : PySem.W.codeIn K cd15 "_law_refused" = true)
    (k15 : PySem.W.keepIn K (.ref f15) = true)
    (a16 : PySem.W.nsIn K mainGlobals "_law_sign" = some (some (.ref f16)))
    (l16 : K.lookup f16 = some ⟨oc16, od16, .func (PySem.W.fnOf "_law_sign" "_law_sign" (defArgs s_law_sign) (defBody s_law_sign) (defScope s_law_sign) .none kV16 dc16 pm16 an16 cd16 ct16), sl16⟩)
    (c16 : PySem.W.codeIn K cd16 "_law_sign" = true)
    (k16 : PySem.W.keepIn K (.ref f16) = true)
    (a17 : PySem.W.nsIn K mainGlobals "law" = some (some (.ref f17)))
    (l17 : K.lookup f17 = some ⟨oc17, od17, .func (PySem.W.fnOf "law" "law" (defArgs s_law) (defBody s_law) (defScope s_law) .none kV17 dc17 pm17 an17 cd17 ct17), sl17⟩)
    (c17 : PySem.W.codeIn K cd17 "law" = true)
    (k17 : PySem.W.keepIn K (.ref f17) = true)
    (g_gcd : PySem.W.nsIn K mainGlobals "gcd" = some (some (.builtin "math.gcd")))
    (z_ValueError : PySem.W.nsIn K mainGlobals "ValueError" = some none)
    (z_abs : PySem.W.nsIn K mainGlobals "abs" = some none)
    (z_bool : PySem.W.nsIn K mainGlobals "bool" = some none)
    (z_int : PySem.W.nsIn K mainGlobals "int" = some none)
    (z_isinstance : PySem.W.nsIn K mainGlobals "isinstance" = some none)
    (z_len : PySem.W.nsIn K mainGlobals "len" = some none)
    (z_range : PySem.W.nsIn K mainGlobals "range" = some none) :
    ∃ fd : FuncData, (∀ (s : Shared) (v : Value), BindsTo s fd ⟨[v], []⟩ [("script", v)]) ∧ ∀ base : Heap, K.In base → base.Ns mainGlobals mg → FnOk l.prog w K mg base CX0 9 fa fd ["script"] (spLaw K) := by
  have e := hfa.symm.trans (PySem.W.mg_of X G a17)
  cases e
  have FD1 : FunD K "__init__" "Ratio.__init__" (defArgs s_Ratio_init) (defBody s_Ratio_init) (defScope s_Ratio_init) [.int 1] [] f1 _ := ⟨⟨_, _, _, _, _, _, _, _, _, _, rfl, l1, c1, .inr ⟨(by simp), _, _, _, _, rfl, t1, rfl, (.cons (by first | exact ⟨_, rfl⟩ | rfl) .nil)⟩, .inl rfl⟩, k1⟩
  obtain ⟨dz1, vz1, bz1⟩ := FD1.binds1 (ps := ["self", "num", "den"]) 3 1 (by simp) (by decide) (fun _ _ _ _ _ _ _ us its h1 h2 => match us, its, h1, h2 with | [_, _, _], [_], _, _ => ⟨_, rfl, rfl⟩)
  cases vz1
  obtain ⟨ds1, vd1, bd1⟩ := FD1.binds1 (ps := ["self", "num", "den"]) 2 0 (by simp) (by decide) (fun _ _ _ _ _ _ _ us its h1 h2 => match us, its, h1, h2 with | [_, _], [_], _, _ => ⟨_, rfl, rfl⟩)
  let T : Txt K mg := { C_Ratio := C_Ratio, m_Ratio := PySem.W.mg_of X G ac_Ratio, cl_Ratio := ⟨pg_Ratio, hd_Ratio, po_Ratio, sa_Ratio⟩, n_Ratio_num := na_Ratio_num, n_Ratio_den := na_Ratio_den, sf_Ratio := sf_Ratio, ic_Ratio := ⟨⟨pg_Ratio, hd_Ratio, po_Ratio, sa_Ratio⟩, xa_Ratio, xn_Ratio, xt_Ratio, xm_Ratio, (by unfold PySem.W.kitOne; simp)⟩, C_GameError := C_GameError, m_GameError := PySem.W.mg_of X G ac_GameError, C_BadRatio := C_BadRatio, a_BadRatio_init := fe_BadRatio, d_BadRatio_init := _, m_BadRatio := PySem.W.mg_of X G ac_BadRatio, e_BadRatio := ⟨⟨⟨_, _, _, _, _, _, _, _, _, _, _, _, _, _, _, xl_BadRatio, rfl⟩, esa_BadRatio, exc_BadRatio, ety_BadRatio, ekp_BadRatio⟩, ⟨ega_BadRatio, egg_BadRatio, exc_BadRatio, ehd_BadRatio⟩, eno_BadRatio, ein_BadRatio, eit_BadRatio, ⟨_, _, _, _, _, _, _, _, _, _, _, _, _, _, _, _, _, _, rfl, elk_BadRatio, ecd_BadRatio, eco_BadRatio, evs_BadRatio, ecc_BadRatio, esu_BadRatio, evb_BadRatio, emr_BadRatio, opq⟩⟩, b_BadRatio_init := .all (fun us hl => match us, hl with | [_, _], _ => rfl), t_BadRatio := exm_self exc_BadRatio eic_BadRatio ety_BadRatio ess_BadRatio, i_BadRatio := ⟨eha_BadRatio, ehn, eht, ehm_BadRatio⟩, kv_BadRatio := kit_val evb_BadRatio, kk_BadRatio_BadRatio := kit_own ess_BadRatio eic_BadRatio ety_BadRatio ess_BadRatio, kk_BadRatio_BadEdit := kit_own ex_BadEdit_BadRatio eic_BadEdit ety_BadEdit ess_BadRatio, kk_BadRatio_BadMove := kit_own ex_BadMove_BadRatio eic_BadMove ety_BadMove ess_BadRatio, kk_BadRatio_BadPaper := kit_own ex_BadPaper_BadRatio eic_BadPaper ety_BadPaper ess_BadRatio, kk_BadRatio_BadPlan := kit_own ex_BadPlan_BadRatio eic_BadPlan ety_BadPlan ess_BadRatio, kk_BadRatio_BadText := kit_own ex_BadText_BadRatio eic_BadText ety_BadText ess_BadRatio, kk_BadRatio_BadVersion := kit_own ex_BadVersion_BadRatio eic_BadVersion ety_BadVersion ess_BadRatio, kk_BadRatio_TooLarge := kit_own ex_TooLarge_BadRatio eic_TooLarge ety_TooLarge ess_BadRatio, t_BadRatio_GameError := exm_sup re_GameError ri_GameError ert_GameError_BadRatio esr_GameError_BadRatio, C_BadEdit := C_BadEdit, m_BadEdit := PySem.W.mg_of X G ac_BadEdit, C_BadMove := C_BadMove, m_BadMove := PySem.W.mg_of X G ac_BadMove, C_BadPaper := C_BadPaper, m_BadPaper := PySem.W.mg_of X G ac_BadPaper, C_BadPlan := C_BadPlan, m_BadPlan := PySem.W.mg_of X G ac_BadPlan, C_BadText := C_BadText, m_BadText := PySem.W.mg_of X G ac_BadText, C_BadVersion := C_BadVersion, m_BadVersion := PySem.W.mg_of X G ac_BadVersion, C_TooLarge := C_TooLarge, m_TooLarge := PySem.W.mg_of X G ac_TooLarge, z_super := PySem.W.mg_none_of X G z_super, a_Ratio_init := f1, d_Ratio_init := _, F_Ratio_init := FD1, ds_Ratio_init := ds1, v_Ratio_init := vd1, bd_Ratio_init := bd1, b_Ratio_init := bz1, mk_Ratio := ⟨mkc_Ratio, a1, i1, kpc_Ratio⟩, a_Ratio_add := f2, d_Ratio_add := _, F_Ratio_add := fun_mk (st := s_Ratio_add) l2 c2 k2, b_Ratio_add := (fun_mk (st := s_Ratio_add) l2 c2 k2).binds (ps := ["self", "other"]) (fun _ _ _ _ _ _ us hl => match us, hl with | [_, _], _ => rfl), me_Ratio_add := ⟨a2, i2, k2⟩, a_Ratio_sub := f3, d_Ratio_sub := _, F_Ratio_sub := fun_mk (st := s_Ratio_sub) l3 c3 k3, b_Ratio_sub := (fun_mk (st := s_Ratio_sub) l3 c3 k3).binds (ps := ["self", "other"]) (fun _ _ _ _ _ _ us hl => match us, hl with | [_, _], _ => rfl), me_Ratio_sub := ⟨a3, i3, k3⟩, a_Ratio_mul := f4, d_Ratio_mul := _, F_Ratio_mul := fun_mk (st := s_Ratio_mul) l4 c4 k4, b_Ratio_mul := (fun_mk (st := s_Ratio_mul) l4 c4 k4).binds (ps := ["self", "other"]) (fun _ _ _ _ _ _ us hl => match us, hl with | [_, _], _ => rfl), me_Ratio_mul := ⟨a4, i4, k4⟩, a_Ratio_neg := f5, d_Ratio_neg := _, F_Ratio_neg := fun_mk (st := s_Ratio_neg) l5 c5 k5, b_Ratio_neg := (fun_mk (st := s_Ratio_neg) l5 c5 k5).binds (ps := ["self"]) (fun _ _ _ _ _ _ us hl => match us, hl with | [_], _ => rfl), me_Ratio_neg := ⟨a5, i5, k5⟩, a_Ratio_eq := f6, d_Ratio_eq := _, F_Ratio_eq := fun_mk (st := s_Ratio_eq) l6 c6 k6, b_Ratio_eq := (fun_mk (st := s_Ratio_eq) l6 c6 k6).binds (ps := ["self", "other"]) (fun _ _ _ _ _ _ us hl => match us, hl with | [_, _], _ => rfl), me_Ratio_eq := ⟨a6, i6, k6⟩, a_Ratio_ne := f7, d_Ratio_ne := _, F_Ratio_ne := fun_mk (st := s_Ratio_ne) l7 c7 k7, b_Ratio_ne := (fun_mk (st := s_Ratio_ne) l7 c7 k7).binds (ps := ["self", "other"]) (fun _ _ _ _ _ _ us hl => match us, hl with | [_, _], _ => rfl), me_Ratio_ne := ⟨a7, i7, k7⟩, a_Ratio_bool := f8, d_Ratio_bool := _, F_Ratio_bool := fun_mk (st := s_Ratio_bool) l8 c8 k8, b_Ratio_bool := (fun_mk (st := s_Ratio_bool) l8 c8 k8).binds (ps := ["self"]) (fun _ _ _ _ _ _ us hl => match us, hl with | [_], _ => rfl), me_Ratio_bool := ⟨a8, i8, k8⟩, a_Ratio_sign := f9, d_Ratio_sign := _, F_Ratio_sign := fun_mk (st := s_Ratio_sign) l9 c9 k9, b_Ratio_sign := (fun_mk (st := s_Ratio_sign) l9 c9 k9).binds (ps := ["self"]) (fun _ _ _ _ _ _ us hl => match us, hl with | [_], _ => rfl), me_Ratio_sign := ⟨a9, i9, k9⟩, a_law_cell := f10, d_law_cell := _, F_law_cell := fun_mk (st := s_law_cell) l10 c10 k10, b_law_cell := (fun_mk (st := s_law_cell) l10 c10 k10).binds (ps := ["script", "k"]) (fun _ _ _ _ _ _ us hl => match us, hl with | [_, _], _ => rfl), m_law_cell := PySem.W.mg_of X G a10, a_law_is_integer := f11, d_law_is_integer := _, F_law_is_integer := fun_mk (st := s_law_is_integer) l11 c11 k11, b_law_is_integer := (fun_mk (st := s_law_is_integer) l11 c11 k11).binds (ps := ["actual"]) (fun _ _ _ _ _ _ us hl => match us, hl with | [_], _ => rfl), m_law_is_integer := PySem.W.mg_of X G a11, a_law_gcd := f12, d_law_gcd := _, F_law_gcd := fun_mk (st := s_law_gcd) l12 c12 k12, b_law_gcd := (fun_mk (st := s_law_gcd) l12 c12 k12).binds (ps := ["a", "b"]) (fun _ _ _ _ _ _ us hl => match us, hl with | [_, _], _ => rfl), m_law_gcd := PySem.W.mg_of X G a12, a_law_is_ratio := f13, d_law_is_ratio := _, F_law_is_ratio := fun_mk (st := s_law_is_ratio) l13 c13 k13, b_law_is_ratio := (fun_mk (st := s_law_is_ratio) l13 c13 k13).binds (ps := ["actual", "num", "den"]) (fun _ _ _ _ _ _ us hl => match us, hl with | [_, _, _], _ => rfl), m_law_is_ratio := PySem.W.mg_of X G a13, a_law_number := f14, d_law_number := _, F_law_number := fun_mk (st := s_law_number) l14 c14 k14, b_law_number := (fun_mk (st := s_law_number) l14 c14 k14).binds (ps := ["cell"]) (fun _ _ _ _ _ _ us hl => match us, hl with | [_], _ => rfl), m_law_number := PySem.W.mg_of X G a14, a_law_refused := f15, d_law_refused := _, F_law_refused := fun_mk (st := s_law_refused) l15 c15 k15, b_law_refused := (fun_mk (st := s_law_refused) l15 c15 k15).binds (ps := ["num"]) (fun _ _ _ _ _ _ us hl => match us, hl with | [_], _ => rfl), m_law_refused := PySem.W.mg_of X G a15, a_law_sign := f16, d_law_sign := _, F_law_sign := fun_mk (st := s_law_sign) l16 c16 k16, b_law_sign := (fun_mk (st := s_law_sign) l16 c16 k16).binds (ps := ["num"]) (fun _ _ _ _ _ _ us hl => match us, hl with | [_], _ => rfl), m_law_sign := PySem.W.mg_of X G a16, a_law := fa, d_law := _, F_law := fun_mk (st := s_law) l17 c17 k17, b_law := (fun_mk (st := s_law) l17 c17 k17).binds (ps := ["script"]) (fun _ _ _ _ _ _ us hl => match us, hl with | [_], _ => rfl), m_law := PySem.W.mg_of X G a17, g_gcd := PySem.W.mg_of X G g_gcd, z_ValueError := PySem.W.mg_none_of X G z_ValueError, z_abs := PySem.W.mg_none_of X G z_abs, z_bool := PySem.W.mg_none_of X G z_bool, z_int := PySem.W.mg_none_of X G z_int, z_isinstance := PySem.W.mg_none_of X G z_isinstance, z_len := PySem.W.mg_none_of X G z_len, z_range := PySem.W.mg_none_of X G z_range }
  exact ⟨T.d_law, fun s v => .of_eq rfl, fun base _ _ => ok_law T⟩
end Own
open PySem PySem.W PyProof.Rows
set_option maxHeartbeats 0 in
theorem PySem.Challenge.cw_sureplay_k00_ratio_in_lowest_terms_holds : PySem.Challenge.rw_sureplay_k00_ratio_in_lowest_terms.Holds := by
  w_on; o_law; k_head; (case hw => w_witness2)
  k_fill
  refine L2.walk_of (l := PySem.Challenge.rw_sureplay_k00_ratio_in_lowest_terms) (n := 63) (k := 9) (x := "script") (CX := fun _ => L2.CX0) (sp := fun w => Own.spLaw _) rfl (by decide) rfl ⟨rfl, by decide, by decide⟩ (fun w h Y => PySem.W.kIn_of Y) ?F (fun _ _ a ns hl _ hS => ⟨a, ns, rfl, hS, hl, fun _ => rfl⟩) (fun _ _ _ _ _ h => h)
  case F =>
    intro w mg fa h KX G hmg
    haveI pro : Own.PrOk PySem.Challenge.rw_sureplay_k00_ratio_in_lowest_terms.prog := ⟨by decide +kernel, by decide +kernel⟩
    refine' Own.all_mk KX G hmg ?ac_Ratio ?pg_Ratio ?hd_Ratio ?po_Ratio ?sa_Ratio ?mkc_Ratio ?kpc_Ratio ?na_Ratio_num ?na_Ratio_den ?sf_Ratio ?xa_Ratio ?xn_Ratio ?xt_Ratio ?xm_Ratio ?ac_GameError ?re_GameError ?ri_GameError ?ac_BadRatio ?xl_BadRatio ?esa_BadRatio ?exc_BadRatio ?ety_BadRatio ?ekp_BadRatio ?ega_BadRatio ?egg_BadRatio ?ehd_BadRatio ?eno_BadRatio ?ein_BadRatio ?eit_BadRatio ?eic_BadRatio ?ess_BadRatio ?elk_BadRatio ?ecd_BadRatio ?eco_BadRatio ?evs_BadRatio ?ecc_BadRatio ?esu_BadRatio ?evb_BadRatio ?emr_BadRatio ?eha_BadRatio ?ehm_BadRatio ?ex_BadEdit_BadRatio ?ex_BadMove_BadRatio ?ex_BadPaper_BadRatio ?ex_BadPlan_BadRatio ?ex_BadText_BadRatio ?ex_BadVersion_BadRatio ?ex_TooLarge_BadRatio ?esr_GameError_BadRatio ?ert_GameError_BadRatio ?ac_BadEdit ?eic_BadEdit ?ety_BadEdit ?ac_BadMove ?eic_BadMove ?ety_BadMove ?ac_BadPaper ?eic_BadPaper ?ety_BadPaper ?ac_BadPlan ?eic_BadPlan ?ety_BadPlan ?ac_BadText ?eic_BadText ?ety_BadText ?ac_BadVersion ?eic_BadVersion ?ety_BadVersion ?ac_TooLarge ?eic_TooLarge ?ety_TooLarge ?ehn ?eht ?opq ?z_super ?a1 ?i1 ?l1 ?c1 ?k1 ?t1 ?a2 ?i2 ?l2 ?c2 ?k2 ?a3 ?i3 ?l3 ?c3 ?k3 ?a4 ?i4 ?l4 ?c4 ?k4 ?a5 ?i5 ?l5 ?c5 ?k5 ?a6 ?i6 ?l6 ?c6 ?k6 ?a7 ?i7 ?l7 ?c7 ?k7 ?a8 ?i8 ?l8 ?c8 ?k8 ?a9 ?i9 ?l9 ?c9 ?k9 ?a10 ?l10 ?c10 ?k10 ?a11 ?l11 ?c11 ?k11 ?a12 ?l12 ?c12 ?k12 ?a13 ?l13 ?c13 ?k13 ?a14 ?l14 ?c14 ?k14 ?a15 ?l15 ?c15 ?k15 ?a16 ?l16 ?c16 ?k16 ?a17 ?l17 ?c17 ?k17 ?g_gcd ?z_ValueError ?z_abs ?z_bool ?z_int ?z_isinstance ?z_len ?z_range
    (case ac_Ratio => k_is)
    (case ac_GameError => k_is)
    (case ac_BadRatio => k_is)
    (case ac_BadEdit => k_is)
    (case ac_BadMove => k_is)
    (case ac_BadPaper => k_is)
    (case ac_BadPlan => k_is)
    (case ac_BadText => k_is)
    (case ac_BadVersion => k_is)
    (case ac_TooLarge => k_is)
    (case pg_Ratio => k_is)
    (case hd_Ratio => k_is)
    (case po_Ratio => k_is)
    (case sa_Ratio => k_is)
    (case mkc_Ratio => k_is)
    (case kpc_Ratio => k_is)
    (case na_Ratio_num => k_is)
    (case na_Ratio_den => k_is)
    (case sf_Ratio => k_is)
    (case xa_Ratio => k_is)
    (case xn_Ratio => k_is)
    (case xt_Ratio => k_is)
    (case xm_Ratio => k_is)
    (case re_GameError => k_is)
    (case ri_GameError => k_is)
    (case xl_BadRatio => k_is)
    (case esa_BadRatio => k_is)
    (case exc_BadRatio => k_is)
    (case ety_BadRatio => k_is)
    (case ekp_BadRatio => k_is)
    (case ega_BadRatio => k_is)
    (case egg_BadRatio => k_is)
    (case ehd_BadRatio => k_is)
    (case eno_BadRatio => k_is)
    (case ein_BadRatio => k_is)
    (case eit_BadRatio => k_is)
    (case eic_BadRatio => k_is)
    (case ess_BadRatio => first | rfl | k_is)
    (case elk_BadRatio => k_is)
    (case ecd_BadRatio => k_is)
    (case eco_BadRatio => k_is)
    (case evs_BadRatio => first | rfl | decide +kernel)
    (case ecc_BadRatio => k_is)
    (case esu_BadRatio => ks_is)
    (case evb_BadRatio => k_is)
    (case emr_BadRatio => k_is)
    (case eha_BadRatio => k_is)
    (case ehm_BadRatio => k_is)
    (case ex_BadEdit_BadRatio => k_is)
    (case ex_BadMove_BadRatio => k_is)
    (case ex_BadPaper_BadRatio => k_is)
    (case ex_BadPlan_BadRatio => k_is)
    (case ex_BadText_BadRatio => k_is)
    (case ex_BadVersion_BadRatio => k_is)
    (case ex_TooLarge_BadRatio => k_is)
    (case esr_GameError_BadRatio => first | rfl | k_is)
    (case ert_GameError_BadRatio => k_is)
    (case eic_BadEdit => k_is)
    (case ety_BadEdit => k_is)
    (case eic_BadMove => k_is)
    (case ety_BadMove => k_is)
    (case eic_BadPaper => k_is)
    (case ety_BadPaper => k_is)
    (case eic_BadPlan => k_is)
    (case ety_BadPlan => k_is)
    (case eic_BadText => k_is)
    (case ety_BadText => k_is)
    (case eic_BadVersion => k_is)
    (case ety_BadVersion => k_is)
    (case eic_TooLarge => k_is)
    (case ety_TooLarge => k_is)
    (case ehn => k_is)
    (case eht => k_is)
    (case opq => k_is)
    (case z_super => k_is)
    (case a1 => k_is)
    (case i1 => k_is)
    (case l1 => k_is)
    (case c1 => k_is)
    (case k1 => k_is)
    (case t1 => k_is)
    (case a2 => k_is)
    (case i2 => k_is)
    (case l2 => k_is)
    (case c2 => k_is)
    (case k2 => k_is)
    (case a3 => k_is)
    (case i3 => k_is)
    (case l3 => k_is)
    (case c3 => k_is)
    (case k3 => k_is)
    (case a4 => k_is)
    (case i4 => k_is)
    (case l4 => k_is)
    (case c4 => k_is)
    (case k4 => k_is)
    (case a5 => k_is)
    (case i5 => k_is)
    (case l5 => k_is)
    (case c5 => k_is)
    (case k5 => k_is)
    (case a6 => k_is)
    (case i6 => k_is)
    (case l6 => k_is)
    (case c6 => k_is)
    (case k6 => k_is)
    (case a7 => k_is)
    (case i7 => k_is)
    (case l7 => k_is)
    (case c7 => k_is)
    (case k7 => k_is)
    (case a8 => k_is)
    (case i8 => k_is)
    (case l8 => k_is)
    (case c8 => k_is)
    (case k8 => k_is)
    (case a9 => k_is)
    (case i9 => k_is)
    (case l9 => k_is)
    (case c9 => k_is)
    (case k9 => k_is)
    (case a10 => k_is)
    (case l10 => k_is)
    (case c10 => k_is)
    (case k10 => k_is)
    (case a11 => k_is)
    (case l11 => k_is)
    (case c11 => k_is)
    (case k11 => k_is)
    (case a12 => k_is)
    (case l12 => k_is)
    (case c12 => k_is)
    (case k12 => k_is)
    (case a13 => k_is)
    (case l13 => k_is)
    (case c13 => k_is)
    (case k13 => k_is)
    (case a14 => k_is)
    (case l14 => k_is)
    (case c14 => k_is)
    (case k14 => k_is)
    (case a15 => k_is)
    (case l15 => k_is)
    (case c15 => k_is)
    (case k15 => k_is)
    (case a16 => k_is)
    (case l16 => k_is)
    (case c16 => k_is)
    (case k16 => k_is)
    (case a17 => k_is)
    (case l17 => k_is)
    (case c17 => k_is)
    (case k17 => k_is)
    (case g_gcd => k_is)
    (case z_ValueError => k_is)
    (case z_abs => k_is)
    (case z_bool => k_is)
    (case z_int => k_is)
    (case z_isinstance => k_is)
    (case z_len => k_is)
    (case z_range => k_is)
#print axioms PySem.Challenge.cw_sureplay_k00_ratio_in_lowest_terms_holds
