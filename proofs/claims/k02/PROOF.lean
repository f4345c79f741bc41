import PyProof.Rows.All
import Wide.All
import OpenK.AllK
import Wide.FinOn
import HandS.ForMost
import HandS.IsInst
import HandS.Codes
import HandS.Gcd
import HandS.Wide
import HandS.Defaults
import HandS.SlotsOwn
import PySem.Challenge.RW_sureplay_k02_ratio_order
set_option Elab.async false
set_option linter.all false
set_option maxRecDepth 100000
set_option maxHeartbeats 4000000
namespace Own
open PySem PySem.Spec PyProof.Rows L2
def topS (i : Nat) : Stmt := PySem.Challenge.pw_sureplay_k02_ratio_order.main.body.getD i (.Pass ⟨0, 0, 0, 0⟩)
abbrev s_Ratio_init : Stmt := (inClass (topS 6) 0)
abbrev N_Ratio_init : List Str := ["self", "num", "den", "factor"]
theorem sc_Ratio_init : FnScope N_Ratio_init ["self", "num", "den"] (defScope s_Ratio_init) := ⟨rfl, rfl, rfl, by decide +kernel, rfl, by decide +kernel, by decide +kernel⟩
abbrev s_Ratio_add : Stmt := (inClass (topS 6) 1)
abbrev N_Ratio_add : List Str := ["self", "other"]
theorem sc_Ratio_add : FnScope N_Ratio_add ["self", "other"] (defScope s_Ratio_add) := ⟨rfl, rfl, rfl, by decide +kernel, rfl, by decide +kernel, by decide +kernel⟩
abbrev s_Ratio_sub : Stmt := (inClass (topS 6) 2)
abbrev N_Ratio_sub : List Str := ["self", "other"]
theorem sc_Ratio_sub : FnScope N_Ratio_sub ["self", "other"] (defScope s_Ratio_sub) := ⟨rfl, rfl, rfl, by decide +kernel, rfl, by decide +kernel, by decide +kernel⟩
abbrev s_Ratio_mul : Stmt := (inClass (topS 6) 3)
abbrev N_Ratio_mul : List Str := ["self", "other"]
theorem sc_Ratio_mul : FnScope N_Ratio_mul ["self", "other"] (defScope s_Ratio_mul) := ⟨rfl, rfl, rfl, by decide +kernel, rfl, by decide +kernel, by decide +kernel⟩
abbrev s_Ratio_neg : Stmt := (inClass (topS 6) 4)
abbrev N_Ratio_neg : List Str := ["self"]
theorem sc_Ratio_neg : FnScope N_Ratio_neg ["self"] (defScope s_Ratio_neg) := ⟨rfl, rfl, rfl, by decide +kernel, rfl, by decide +kernel, by decide +kernel⟩
abbrev s_Ratio_eq : Stmt := (inClass (topS 6) 5)
abbrev N_Ratio_eq : List Str := ["self", "other"]
theorem sc_Ratio_eq : FnScope N_Ratio_eq ["self", "other"] (defScope s_Ratio_eq) := ⟨rfl, rfl, rfl, by decide +kernel, rfl, by decide +kernel, by decide +kernel⟩
abbrev s_Ratio_ne : Stmt := (inClass (topS 6) 6)
abbrev N_Ratio_ne : List Str := ["self", "other"]
theorem sc_Ratio_ne : FnScope N_Ratio_ne ["self", "other"] (defScope s_Ratio_ne) := ⟨rfl, rfl, rfl, by decide +kernel, rfl, by decide +kernel, by decide +kernel⟩
abbrev s_Ratio_below : Stmt := (inClass (topS 6) 10)
abbrev N_Ratio_below : List Str := ["self", "other"]
theorem sc_Ratio_below : FnScope N_Ratio_below ["self", "other"] (defScope s_Ratio_below) := ⟨rfl, rfl, rfl, by decide +kernel, rfl, by decide +kernel, by decide +kernel⟩
abbrev s_Ratio_at_most : Stmt := (inClass (topS 6) 11)
abbrev N_Ratio_at_most : List Str := ["self", "other"]
theorem sc_Ratio_at_most : FnScope N_Ratio_at_most ["self", "other"] (defScope s_Ratio_at_most) := ⟨rfl, rfl, rfl, by decide +kernel, rfl, by decide +kernel, by decide +kernel⟩
abbrev s_law_cell : Stmt := (topS 8)
abbrev N_law_cell : List Str := ["script", "k"]
theorem sc_law_cell : FnScope N_law_cell ["script", "k"] (defScope s_law_cell) := ⟨rfl, rfl, rfl, by decide +kernel, rfl, by decide +kernel, by decide +kernel⟩
abbrev s_law_is_integer : Stmt := (topS 9)
abbrev N_law_is_integer : List Str := ["actual"]
theorem sc_law_is_integer : FnScope N_law_is_integer ["actual"] (defScope s_law_is_integer) := ⟨rfl, rfl, rfl, by decide +kernel, rfl, by decide +kernel, by decide +kernel⟩
abbrev s_law_gcd : Stmt := (topS 10)
abbrev N_law_gcd : List Str := ["a", "b", "k", "c"]
theorem sc_law_gcd : FnScope N_law_gcd ["a", "b"] (defScope s_law_gcd) := ⟨rfl, rfl, rfl, by decide +kernel, rfl, by decide +kernel, by decide +kernel⟩
abbrev s_law_is_ratio : Stmt := (topS 11)
abbrev N_law_is_ratio : List Str := ["actual", "num", "den", "part"]
theorem sc_law_is_ratio : FnScope N_law_is_ratio ["actual", "num", "den"] (defScope s_law_is_ratio) := ⟨rfl, rfl, rfl, by decide +kernel, rfl, by decide +kernel, by decide +kernel⟩
abbrev s_law_number : Stmt := (topS 12)
abbrev N_law_number : List Str := ["cell"]
theorem sc_law_number : FnScope N_law_number ["cell"] (defScope s_law_number) := ⟨rfl, rfl, rfl, by decide +kernel, rfl, by decide +kernel, by decide +kernel⟩
abbrev s_law_positive : Stmt := (topS 13)
abbrev N_law_positive : List Str := ["cell"]
theorem sc_law_positive : FnScope N_law_positive ["cell"] (defScope s_law_positive) := ⟨rfl, rfl, rfl, by decide +kernel, rfl, by decide +kernel, by decide +kernel⟩
abbrev s_law_bool : Stmt := (topS 14)
abbrev N_law_bool : List Str := ["actual", "due"]
theorem sc_law_bool : FnScope N_law_bool ["actual", "due"] (defScope s_law_bool) := ⟨rfl, rfl, rfl, by decide +kernel, rfl, by decide +kernel, by decide +kernel⟩
abbrev s_law : Stmt := (topS 15)
abbrev N_law : List Str := ["script", "k", "a", "b", "c", "d", "way", "left", "right"]
theorem sc_law : FnScope N_law ["script"] (defScope s_law) := ⟨rfl, rfl, rfl, by decide +kernel, rfl, by decide +kernel, by decide +kernel⟩
def spLaw (K : PySem.W.Frag) : Sp := fun vs H Q _ => ∃ (a : Addr) (ns : List Int), vs = [.ref a] ∧ SqL K H a (ns.map V.int) ∧ ns.length ≤ 63 ∧ ∀ H', Q (.bl true) H'
def cell (ns : List Int) (k : Int) : Int := ns.getD k.toNat 0
theorem same_upd {H : Hp} {p : Addr} {o : HO} (h : H p = none) : Same H (upd H p o) := fun b x e => by
  rw [upd_ne (ne_of_none e h)]
  exact e
theorem cut_from (xs : List V) (k : Nat) : cutV xs (some (k : Int)) none = xs.drop k := by
  unfold cutV
  rw [HT.sIx_nat, HT.sIx_none]
  by_cases h : k ≤ xs.length
  · rw [Nat.min_eq_left h]
    exact List.take_of_length_le (by rw [List.length_drop]; omega)
  · rw [Nat.min_eq_right (by omega), List.drop_eq_nil_of_le (by omega), List.drop_eq_nil_of_le (by omega)]
    simp
theorem cut_to (xs : List V) (k : Nat) : cutV xs none (some (k : Int)) = xs.take k := by
  unfold cutV
  rw [HT.sIx_nat, HT.sIx_none, List.drop_zero, Nat.sub_zero]
  by_cases h : k ≤ xs.length
  · rw [Nat.min_eq_left h]
  · rw [Nat.min_eq_right (by omega), List.take_of_length_le (Nat.le_refl _), List.take_of_length_le (by omega)]
theorem cut_to' (xs : List V) (k : Int) (h : 0 ≤ k) : cutV xs none (some k) = xs.take k.toNat := by
  obtain ⟨m, rfl⟩ := Int.eq_ofNat_of_zero_le h
  exact cut_to xs m
theorem cut_from' (xs : List V) (k : Int) (h : 0 ≤ k) : cutV xs (some k) none = xs.drop k.toNat := by
  obtain ⟨m, rfl⟩ := Int.eq_ofNat_of_zero_le h
  exact cut_from xs m
theorem small_le {n : Nat} (h : n ≤ 1000) : n ≤ sizeLine := Nat.le_of_lt (small1000 h)
theorem at_ofG {α : Type} {xs : List α} {z : Int} {j : Nat} {v : α} (e : z = (j : Int)) (h : xs[j]? = some v) : atI xs z = some v := by
  rw [e]
  exact atI_nat h
theorem int_of_map {ns : List Int} {i : Nat} {y : V} (hi : (ns.map V.int)[i]? = some y) : ∃ z, ns[i]? = some z ∧ y = V.int z := by
  rw [List.getElem?_map] at hi
  cases e : ns[i]? with
  | none => rw [e] at hi; cases hi
  | some u => rw [e] at hi; exact ⟨u, rfl, (Option.some.inj hi).symm⟩
theorem dp_ints {K : PySem.W.Frag} {H : Hp} : ∀ ns : List Int, DpAll K H (ns.map V.int) (ns.map PyData.int)
  | [] => .nil
  | n :: r => .cons (.int n) (dp_ints r)
theorem lay_ints : ∀ ns : List Int, PyData.canLayAll0 (ns.map PyData.int) = true ∧ PyData.depthAll (ns.map PyData.int) = 0
  | [] => ⟨by simp [PyData.canLayAll0], by simp [PyData.depthAll]⟩
  | n :: r => by
    have ih := lay_ints r
    exact ⟨by simp [PyData.canLayAll0, PyData.canLay0, ih.1], by simp [PyData.depthAll, PyData.depth, ih.2]⟩
theorem shaped_ints (ns : List Int) : SeqAt.shaped (.list (ns.map PyData.int)) = true := by
  have h := lay_ints ns
  unfold SeqAt.shaped
  simp [PyData.canLay0, PyData.depth, h.1, h.2]
theorem eqv_ints (ns : List Int) : PyData.eqv (.list (ns.map PyData.int)) (.list (ns.map PyData.int)) = true :=
  SeqAt.eqv_refl _ (by rw [PyData.canLay0]; exact (lay_ints ns).1)

/-! ### fractions -/
/-- p / q is num / den in lowest terms -/
def Rt (p q num den : Int) : Prop := 0 < q ∧ Nat.gcd p.natAbs q.natAbs = 1 ∧ p * den = num * q
theorem natAbs_eq_of_mul {p q : Int} (hq : 0 < q) (h : Nat.gcd p.natAbs q.natAbs = 1) {p' q' : Int} (hq' : 0 < q') (h' : Nat.gcd p'.natAbs q'.natAbs = 1) (e : p * q' = p' * q) : p = p' ∧ q = q' := by
  have en : p.natAbs * q'.natAbs = p'.natAbs * q.natAbs := by rw [← Int.natAbs_mul, ← Int.natAbs_mul, e]
  have d1 : q.natAbs ∣ q'.natAbs := by
    have c : Nat.Coprime q.natAbs p.natAbs := by rw [Nat.coprime_comm]; exact h
    exact c.dvd_of_dvd_mul_left ⟨p'.natAbs, by rw [en, Nat.mul_comm]⟩
  have d2 : q'.natAbs ∣ q.natAbs := by
    have c : Nat.Coprime q'.natAbs p'.natAbs := by rw [Nat.coprime_comm]; exact h'
    exact c.dvd_of_dvd_mul_left ⟨p.natAbs, by rw [← en, Nat.mul_comm]⟩
  have eq : q.natAbs = q'.natAbs := Nat.dvd_antisymm d1 d2
  have eq' : q = q' := by omega
  refine ⟨?_, eq'⟩
  rw [eq'] at e
  exact Int.eq_of_mul_eq_mul_right (by omega) e
theorem rt_uniq {p q p' q' n d n' d' : Int} (h : Rt p q n d) (h' : Rt p' q' n' d') (hd : d ≠ 0) (hd' : d' ≠ 0) (e : n * d' = n' * d) : p = p' ∧ q = q' := by
  obtain ⟨h1, h2, h3⟩ := h
  obtain ⟨g1, g2, g3⟩ := h'
  refine natAbs_eq_of_mul h1 h2 g1 g2 ?_
  have k : (p * q') * (d * d') = (p' * q) * (d * d') := by
    grind
  exact Int.eq_of_mul_eq_mul_right (Int.mul_ne_zero hd hd') k
/-- the sign and the common divisor -/
def fac (n d : Int) : Int := if d < 0 then -((Nat.gcd n.natAbs d.natAbs : Nat) : Int) else ((Nat.gcd n.natAbs d.natAbs : Nat) : Int)
theorem gcd_pos' {n d : Int} (hd : d ≠ 0) : 0 < Nat.gcd n.natAbs d.natAbs := Nat.gcd_pos_of_pos_right _ (Int.natAbs_pos.mpr hd)
theorem fac_ne {n d : Int} (hd : d ≠ 0) : fac n d ≠ 0 := by
  have := gcd_pos' (n := n) hd
  unfold fac
  split <;> omega
theorem fac_abs (n d : Int) : (fac n d).natAbs = Nat.gcd n.natAbs d.natAbs := by
  unfold fac
  split <;> omega
theorem fac_dvd (n d : Int) : fac n d ∣ n ∧ fac n d ∣ d := by
  have h1 : ((Nat.gcd n.natAbs d.natAbs : Nat) : Int) ∣ n := Int.ofNat_dvd_left.mpr (Nat.gcd_dvd_left _ _)
  have h2 : ((Nat.gcd n.natAbs d.natAbs : Nat) : Int) ∣ d := Int.ofNat_dvd_left.mpr (Nat.gcd_dvd_right _ _)
  unfold fac
  split
  · exact ⟨(Int.neg_dvd).mpr h1, (Int.neg_dvd).mpr h2⟩
  · exact ⟨h1, h2⟩
theorem rt_made {n d : Int} (hd : d ≠ 0) : Rt (n.fdiv (fac n d)) (d.fdiv (fac n d)) n d ∧ (n.fdiv (fac n d)).natAbs ≤ n.natAbs ∧ (d.fdiv (fac n d)).natAbs ≤ d.natAbs := by
  have hf := fac_ne (n := n) hd
  obtain ⟨⟨a, ha⟩, ⟨b, hb⟩⟩ := fac_dvd n d
  have fa := fac_abs n d
  have gp := gcd_pos' (n := n) hd
  generalize hfe : fac n d = f at hf ha hb fa
  have e1 : n.fdiv f = a := by rw [ha]; exact Int.mul_fdiv_cancel_left a hf
  have e2 : d.fdiv f = b := by rw [hb]; exact Int.mul_fdiv_cancel_left b hf
  rw [e1, e2]
  have na : n.natAbs = f.natAbs * a.natAbs := by rw [ha, Int.natAbs_mul]
  have nb : d.natAbs = f.natAbs * b.natAbs := by rw [hb, Int.natAbs_mul]
  have fpos : 0 < f.natAbs := by omega
  refine ⟨⟨?_, ?_, ?_⟩, ?_, ?_⟩
  · -- the sign
    have hs : (d < 0 ∧ f < 0) ∨ (0 < d ∧ 0 < f) := by
      unfold fac at hfe
      split at hfe <;> omega
    rcases hs with ⟨h1, h2⟩ | ⟨h1, h2⟩
    · refine Int.not_le.mp fun z => ?_
      have := Int.mul_nonneg_of_nonpos_of_nonpos (Int.le_of_lt h2) z
      omega
    · refine Int.not_le.mp fun z => ?_
      have := Int.mul_nonpos_of_nonneg_of_nonpos (Int.le_of_lt h2) z
      omega
  · have e : Nat.gcd n.natAbs d.natAbs = f.natAbs * Nat.gcd a.natAbs b.natAbs := by rw [na, nb, Nat.gcd_mul_left]
    rw [← fa] at e
    have : f.natAbs * 1 = f.natAbs * Nat.gcd a.natAbs b.natAbs := by rw [Nat.mul_one]; exact e
    exact (Nat.eq_of_mul_eq_mul_left fpos this).symm
  · have x : a * d = n * b := by rw [hb, ha, ← Int.mul_assoc, Int.mul_comm a f]
    exact x
  · rw [na]
    exact Nat.le_mul_of_pos_left _ fpos
  · rw [nb]
    exact Nat.le_mul_of_pos_left _ fpos
theorem Rt.pos {p q n d : Int} (h : Rt p q n d) : 0 < q := h.1
theorem op_fdivX {X : Cx} : OpR X (binaryOp .FloorDiv) (rI (fun _ j => j ≠ 0 ∧ j.natAbs.log2 < 9000) fun i j => .int (i.fdiv j)) :=
  opI fun _ _ _ _ _ _ _ hc q => floordiv_int hc.1 q (.inl (PyProof.noPylong_of_log2 hc.2))
theorem log_lt {j : Int} {b : Nat} (hb : j.natAbs < 2 ^ b) (h0 : 0 < b) (h9 : b ≤ 9000) : j.natAbs.log2 < 9000 := Nat.lt_of_lt_of_le (PySem.Flt.log2_lt_of h0 hb) h9
/-! ### ratios as objects -/
def pf (p q : Int) : List (Str × V) := putF "den" (.int q) (putF "num" (.int p) [])
theorem nd_ : ¬ (("num" : Str) = "den") := by decide +kernel
theorem pf_num (p q : Int) : (pf p q).lookup ("num" : Str) = some (.int p) := by
  unfold pf
  rw [lookup_putF, if_neg nd_, lookup_putF, if_pos rfl]
theorem pf_den (p q : Int) : (pf p q).lookup ("den" : Str) = some (.int q) := by
  unfold pf
  rw [lookup_putF, if_pos rfl]
theorem pf_no (p q : Int) {m : Str} (h1 : ¬ m = "num") (h2 : ¬ m = "den") : (pf p q).lookup m = none := by
  unfold pf
  rw [lookup_putF, if_neg h2, lookup_putF, if_neg h1]
  rfl
/-- at r a ratio p / q -/
def RatAt (C : Addr) (H : Hp) (r : Addr) (p q : Int) : Prop := ∃ dx, H r = some (.ins C dx (pf p q))
theorem no_below (p q : Int) : (pf p q).lookup ("below" : Str) = none := pf_no _ _ (by decide +kernel) (by decide +kernel)
theorem no_at_most (p q : Int) : (pf p q).lookup ("at_most" : Str) = none := pf_no _ _ (by decide +kernel) (by decide +kernel)
theorem no_over (p q : Int) : (pf p q).lookup ("over" : Str) = none := pf_no _ _ (by decide +kernel) (by decide +kernel)
theorem no_sign (p q : Int) : (pf p q).lookup ("sign" : Str) = none := pf_no _ _ (by decide +kernel) (by decide +kernel)
theorem RatAt.same {C : Addr} {H H' : Hp} {r : Addr} {p q : Int} (h : RatAt C H r p q) (s : Same H H') : RatAt C H' r p q := by
  obtain ⟨dx, e⟩ := h
  exact ⟨dx, s _ _ e⟩
/-- an operator of an own class: both are its instances -/
def rBin (C : Addr) (sp : Sp) (E : XK) : R2 := fun x y H Q => ∃ a dx fs b dy gs, x = .ref a ∧ y = .ref b ∧ H a = some (.ins C dx fs) ∧ H b = some (.ins C dy gs) ∧ sp [x, y] H Q E
theorem op_bin {X : Cx} {op : Operator} {C g : Addr} {n : Nat} {fd : FuncData} {ps : List Str} {sp : Sp} {E : XK} {CX : CXT} (hc : PySem.W.selfFirst X.K C = true) (m : Meth X.K C (PySem.dunder op.info.2) g)
    (F : FnOk X.prog X.w X.K X.mg X.base CX n g fd ps sp) (hr : Room n X.A) (hb : Binds X.K fd ps []) (hx : Passes CX X E) : OpR X (binaryOp op) (rBin C sp E) := by
  intro pins s σ H x y v u Q I rx ry h
  obtain ⟨a, dx, fs, b, dy, gs, rfl, rfl, ha, hb', q⟩ := h
  cases (show v = Value.ref a from rx)
  cases (show u = Value.ref b from ry)
  obtain ⟨mA, O, _⟩ := ins_get I.hok ha
  obtain ⟨od, J, _⟩ := O.look
  obtain ⟨mA', O', _⟩ := ins_get I.hok hb'
  obtain ⟨od', J', _⟩ := O'.look
  obtain ⟨mm, hF⟩ := I.fr
  refine PySem.W.binop_K hF I.ok.mod.kin J J'.type hc m.at_ m.fn ?_
  refine wpAny_mono (run_fn (vs := [.ref a, .ref b]) (dvs := []) (ds := []) F hr hb .nil hx I (.cons rfl (.cons rfl .nil)) q) (fun w s' z => ?_) fun _ _ x => x
  obtain ⟨z', H', I', rz, qz⟩ := z
  exact SlX.cmpback rz ⟨z', H', I', rz, qz⟩
def rNeg (C : Addr) (sp : Sp) (E : XK) : V → Hp → VK → Prop := fun x H Q => ∃ a dx fs, x = .ref a ∧ H a = some (.ins C dx fs) ∧ sp [x] H Q E
theorem un_own {X : Cx} {C g : Addr} {n : Nat} {fd : FuncData} {ps : List Str} {sp : Sp} {E : XK} {CX : CXT} (m : Meth X.K C "__neg__" g)
    (F : FnOk X.prog X.w X.K X.mg X.base CX n g fd ps sp) (hr : Room n X.A) (hb : Binds X.K fd ps []) (hx : Passes CX X E) : UnR X (unaryOp .USub) (rNeg C sp E) := by
  intro pins s σ H x v Q I rx h
  obtain ⟨a, dx, fs, rfl, ha, q⟩ := h
  cases (show v = Value.ref a from rx)
  obtain ⟨mA, O, _⟩ := ins_get I.hok ha
  obtain ⟨od, J, _⟩ := O.look
  obtain ⟨mm, hF⟩ := I.fr
  refine PySem.W.ksp_neg hF I.ok.mod.kin J m.at_ m.fn ?_
  exact run_fn (vs := [.ref a]) (dvs := []) (ds := []) F hr hb .nil hx I (.cons rfl .nil) q
theorem op_cmp {X : Cx} {op : CmpOp} {C g : Addr} {n : Nat} {fd : FuncData} {ps : List Str} {sp : Sp} {E : XK} {CX : CXT} (hop : ∀ a b, compareOp op a b = richCompare op a b) (m : Meth X.K C (PySem.cmpInfo op).2.1 g)
    (F : FnOk X.prog X.w X.K X.mg X.base CX n g fd ps sp) (hr : Room n X.A) (hb : Binds X.K fd ps []) (hx : Passes CX X E) : OpR X (compareOp op) (rBin C sp E) := by
  intro pins s σ H x y v u Q I rx ry h
  obtain ⟨a, dx, fs, b, dy, gs, rfl, rfl, ha, hb', q⟩ := h
  cases (show v = Value.ref a from rx)
  cases (show u = Value.ref b from ry)
  obtain ⟨mA, O, _⟩ := ins_get I.hok ha
  obtain ⟨od, J, _⟩ := O.look
  obtain ⟨mA', O', _⟩ := ins_get I.hok hb'
  obtain ⟨od', J', _⟩ := O'.look
  obtain ⟨mm, hF⟩ := I.fr
  rw [hop]
  refine PySem.W.cmp_K (op := op) (tb := .ref C) hr.units0 hF I.ok.mod.kin J J'.type (by unfold PySem.W.notFirst; simp) m.at_ m.fn ?_
  refine wpAny_mono (run_fn (vs := [.ref a, .ref b]) (dvs := []) (ds := []) F hr hb .nil hx I (.cons rfl (.cons rfl .nil)) q) (fun w s' z => ?_) fun _ _ x => x
  obtain ⟨z', H', I', rz, qz⟩ := z
  exact SlX.cmpback rz ⟨z', H', I', rz, qz⟩
theorem rt_of {p q n d n' d' : Int} (h : Rt p q n d) (hd : d ≠ 0) (e : n * d' = n' * d) : Rt p q n' d' := by
  obtain ⟨h1, h2, h3⟩ := h
  refine ⟨h1, h2, Int.eq_of_mul_eq_mul_right hd ?_⟩
  grind
theorem lt_of {x : Int} {a b : Nat} (h : x.natAbs < 2 ^ a) (l : a ≤ b) : x.natAbs < 2 ^ b := Nat.lt_of_lt_of_le h (Nat.pow_le_pow_right (by decide) l)
theorem add_lt {x y : Int} {a : Nat} (h : x.natAbs < 2 ^ a) (g : y.natAbs < 2 ^ a) : (x + y).natAbs < 2 ^ (a + 1) := by
  rw [Nat.pow_succ]
  omega
theorem sub_lt {x y : Int} {a : Nat} (h : x.natAbs < 2 ^ a) (g : y.natAbs < 2 ^ a) : (x - y).natAbs < 2 ^ (a + 1) := by
  rw [Nat.pow_succ]
  omega
theorem rt_lt {p q u v a b c d : Int} (h : Rt p q a b) (g : Rt u v c d) (hb : 0 < b) (hd : 0 < d) : (p * v < u * q ↔ a * d < c * b) ∧ (p * v ≤ u * q ↔ a * d ≤ c * b) ∧ ((p = u ∧ q = v) ↔ a * d = c * b) := by
  obtain ⟨q0, _, e1⟩ := id h
  obtain ⟨v0, _, e2⟩ := id g
  have k1 : (p * v) * (b * d) = (a * d) * (q * v) := by grind
  have k2 : (u * q) * (b * d) = (c * b) * (q * v) := by grind
  have h1 : 0 < b * d := Int.mul_pos hb hd
  have h2 : 0 < q * v := Int.mul_pos q0 v0
  refine ⟨?_, ?_, ?_⟩
  · rw [← Int.mul_lt_mul_right h1, k1, k2, Int.mul_lt_mul_right h2]
  · rw [← Int.mul_le_mul_right h1, k1, k2, Int.mul_le_mul_right h2]
  · constructor
    · rintro ⟨rfl, rfl⟩
      have := k1.symm.trans k2
      exact Int.eq_of_mul_eq_mul_right (by omega) this
    · intro e
      exact rt_uniq h g (by omega) (by omega) e

structure Txt (K : PySem.W.Frag) (mg : Str → Option Value) where
  C_Ratio : Addr
  a_Ratio_init : Addr
  d_Ratio_init : FuncData
  F_Ratio_init : FunD K "__init__" "Ratio.__init__" (defArgs s_Ratio_init) (defBody s_Ratio_init) (defScope s_Ratio_init) [.int 1] [] a_Ratio_init d_Ratio_init
  ds_Ratio_init : List Value
  v_Ratio_init : Vals [.int 1] ds_Ratio_init
  bd_Ratio_init : Binds K d_Ratio_init ["self", "num", "den"] ds_Ratio_init
  b_Ratio_init : Binds K d_Ratio_init ["self", "num", "den"] []
  mk_Ratio : Mk K C_Ratio a_Ratio_init
  a_Ratio_add : Addr
  d_Ratio_add : FuncData
  F_Ratio_add : Fun K "__add__" "Ratio.__add__" s_Ratio_add a_Ratio_add d_Ratio_add
  b_Ratio_add : Binds K d_Ratio_add ["self", "other"] []
  me_Ratio_add : Meth K C_Ratio "__add__" a_Ratio_add
  a_Ratio_sub : Addr
  d_Ratio_sub : FuncData
  F_Ratio_sub : Fun K "__sub__" "Ratio.__sub__" s_Ratio_sub a_Ratio_sub d_Ratio_sub
  b_Ratio_sub : Binds K d_Ratio_sub ["self", "other"] []
  me_Ratio_sub : Meth K C_Ratio "__sub__" a_Ratio_sub
  a_Ratio_mul : Addr
  d_Ratio_mul : FuncData
  F_Ratio_mul : Fun K "__mul__" "Ratio.__mul__" s_Ratio_mul a_Ratio_mul d_Ratio_mul
  b_Ratio_mul : Binds K d_Ratio_mul ["self", "other"] []
  me_Ratio_mul : Meth K C_Ratio "__mul__" a_Ratio_mul
  a_Ratio_neg : Addr
  d_Ratio_neg : FuncData
  F_Ratio_neg : Fun K "__neg__" "Ratio.__neg__" s_Ratio_neg a_Ratio_neg d_Ratio_neg
  b_Ratio_neg : Binds K d_Ratio_neg ["self"] []
  me_Ratio_neg : Meth K C_Ratio "__neg__" a_Ratio_neg
  a_Ratio_eq : Addr
  d_Ratio_eq : FuncData
  F_Ratio_eq : Fun K "__eq__" "Ratio.__eq__" s_Ratio_eq a_Ratio_eq d_Ratio_eq
  b_Ratio_eq : Binds K d_Ratio_eq ["self", "other"] []
  me_Ratio_eq : Meth K C_Ratio "__eq__" a_Ratio_eq
  a_Ratio_ne : Addr
  d_Ratio_ne : FuncData
  F_Ratio_ne : Fun K "__ne__" "Ratio.__ne__" s_Ratio_ne a_Ratio_ne d_Ratio_ne
  b_Ratio_ne : Binds K d_Ratio_ne ["self", "other"] []
  me_Ratio_ne : Meth K C_Ratio "__ne__" a_Ratio_ne
  a_Ratio_below : Addr
  d_Ratio_below : FuncData
  F_Ratio_below : Fun K "below" "Ratio.below" s_Ratio_below a_Ratio_below d_Ratio_below
  b_Ratio_below : Binds K d_Ratio_below ["self", "other"] []
  me_Ratio_below : Meth K C_Ratio "below" a_Ratio_below
  a_Ratio_at_most : Addr
  d_Ratio_at_most : FuncData
  F_Ratio_at_most : Fun K "at_most" "Ratio.at_most" s_Ratio_at_most a_Ratio_at_most d_Ratio_at_most
  b_Ratio_at_most : Binds K d_Ratio_at_most ["self", "other"] []
  me_Ratio_at_most : Meth K C_Ratio "at_most" a_Ratio_at_most
  a_law_cell : Addr
  d_law_cell : FuncData
  F_law_cell : Fun K "_law_cell" "_law_cell" s_law_cell a_law_cell d_law_cell
  b_law_cell : Binds K d_law_cell ["script", "k"] []
  m_law_cell : mg "_law_cell" = some (.ref a_law_cell)
  a_law_is_integer : Addr
  d_law_is_integer : FuncData
  F_law_is_integer : Fun K "_law_is_integer" "_law_is_integer" s_law_is_integer a_law_is_integer d_law_is_integer
  b_law_is_integer : Binds K d_law_is_integer ["actual"] []
  m_law_is_integer : mg "_law_is_integer" = some (.ref a_law_is_integer)
  a_law_gcd : Addr
  d_law_gcd : FuncData
  F_law_gcd : Fun K "_law_gcd" "_law_gcd" s_law_gcd a_law_gcd d_law_gcd
  b_law_gcd : Binds K d_law_gcd ["a", "b"] []
  m_law_gcd : mg "_law_gcd" = some (.ref a_law_gcd)
  a_law_is_ratio : Addr
  d_law_is_ratio : FuncData
  F_law_is_ratio : Fun K "_law_is_ratio" "_law_is_ratio" s_law_is_ratio a_law_is_ratio d_law_is_ratio
  b_law_is_ratio : Binds K d_law_is_ratio ["actual", "num", "den"] []
  m_law_is_ratio : mg "_law_is_ratio" = some (.ref a_law_is_ratio)
  a_law_number : Addr
  d_law_number : FuncData
  F_law_number : Fun K "_law_number" "_law_number" s_law_number a_law_number d_law_number
  b_law_number : Binds K d_law_number ["cell"] []
  m_law_number : mg "_law_number" = some (.ref a_law_number)
  a_law_positive : Addr
  d_law_positive : FuncData
  F_law_positive : Fun K "_law_positive" "_law_positive" s_law_positive a_law_positive d_law_positive
  b_law_positive : Binds K d_law_positive ["cell"] []
  m_law_positive : mg "_law_positive" = some (.ref a_law_positive)
  a_law_bool : Addr
  d_law_bool : FuncData
  F_law_bool : Fun K "_law_bool" "_law_bool" s_law_bool a_law_bool d_law_bool
  b_law_bool : Binds K d_law_bool ["actual", "due"] []
  m_law_bool : mg "_law_bool" = some (.ref a_law_bool)
  a_law : Addr
  d_law : FuncData
  F_law : Fun K "law" "law" s_law a_law d_law
  b_law : Binds K d_law ["script"] []
  m_law : mg "law" = some (.ref a_law)
  m_Ratio : mg "Ratio" = some (.ref C_Ratio)
  cl_Ratio : Cls K C_Ratio
  n_Ratio_num : NoAttr K C_Ratio "num"
  n_Ratio_den : NoAttr K C_Ratio "den"
  sf_Ratio : PySem.W.selfFirst K C_Ratio = true
  ic_Ratio : C8.InsC K C_Ratio
  g_gcd : mg "gcd" = some (.builtin "math.gcd")
  z_abs : mg "abs" = none
  z_bool : mg "bool" = none
  z_int : mg "int" = none
  z_isinstance : mg "isinstance" = none
  z_len : mg "len" = none
  z_range : mg "range" = none
section
variable {P : Program} {w : World} {K : PySem.W.Frag} {mg : Str → Option Value} {base : Heap}
/-! ### Ratio.__init__ -/
def sp_Ratio_init (T : Txt K mg) : Sp := fun vs H Q _ => ∃ (x dx : Addr) (n d : Int), vs = [.ref x, .int n, .int d] ∧ H x = some (.ins T.C_Ratio dx []) ∧ d ≠ 0 ∧ d.natAbs < 2 ^ 8000 ∧
  ∀ (p q : Int) (H' : Hp), (∀ b o, b ≠ x → H b = some o → H' b = some o) → H' x = some (.ins T.C_Ratio dx (pf p q)) → Rt p q n d → p.natAbs ≤ n.natAbs → q.natAbs ≤ d.natAbs → Q .non H'

theorem ok_Ratio_init (T : Txt K mg) : FnOk P w K mg base CX0 3 T.a_Ratio_init T.d_Ratio_init ["self", "num", "den"] (sp_Ratio_init T) := by
  refine T.F_Ratio_init.ok sc_Ratio_init (fun vs H Q E h => ?_) (fun cdv A outer s H vs Q E hr h => ?_)
  · obtain ⟨x, dx, n, d, rfl, _⟩ := h
    rfl
  obtain ⟨x, dx, n, d, rfl, hx, hd, hb, q⟩ := h
  refine ⟨_, PSs.nox (pss_cons (ps_if (pt_cmpR op_eq (pv 2) pe_int (nomark _)) (pss_one (ps_never)) pss_nil)
      (pss_cons (ps_set (i := 3) sc_Ratio_init.nd rfl (by first | exact Or.inl rfl | exact Or.inr rfl) (pe_callBfun cr_gcd (by rfl) T.g_gcd (pa_cons (pv 1) (pa_cons (pv 2) pa_nil))))
      (C8.pss_cut (ps_if (pt_cmpR op_lt (pv 2) pe_int (nomark _)) (pss_one (ps_set (i := 3) sc_Ratio_init.nd rfl (by first | exact Or.inl rfl | exact Or.inr rfl) (pe_un un_neg (pv 3)))) pss_nil)
      (pss_cons (ps_fld (pv 0) (pe_op op_fdivX (pv 1) (pv 3)) rfl)
      (pss_one (ps_fld (pv 0) (pe_op op_fdivX (pv 2) (pv 3)) rfl)))))), ?_⟩
  refine ⟨_, rfl, rfl, _, rfl, ite2 (fun c => absurd (V.int.inj (of_decide_eq_true c)) hd) (fun _ => ?_)⟩
  refine ⟨_, rfl, _, rfl, n, d, rfl, ?_⟩
  refine ⟨fun σ' H' => σ' = [some (.ref x), some (.int n), some (.int d), some (.int (fac n d))] ∧ H' = H, ?_, ?_⟩
  · refine ⟨_, rfl, _, _, rfl, rfl, _, rfl, ite2 (fun c => ?_) (fun c => ?_)⟩
    · have c' : d < 0 := of_decide_eq_true c
      refine ⟨_, rfl, _, rfl, ?_, rfl⟩
      unfold fac
      rw [if_pos c']
      rfl
    · have c' : ¬ d < 0 := fun z => c (decide_eq_true z)
      refine ⟨?_, rfl⟩
      unfold fac
      rw [if_neg c']
      rfl
  rintro σ1 H1 ⟨rfl, rfl⟩
  have hf := fac_ne (n := n) hd
  have hg : (fac n d).natAbs < 2 ^ 8000 := by
    rw [fac_abs]
    exact Nat.lt_of_le_of_lt (Nat.le_of_dvd (Int.natAbs_pos.mpr hd) (Nat.gcd_dvd_right _ _)) hb
  have hl := log_lt hg (by omega) (by omega)
  obtain ⟨r1, r2, r3⟩ := rt_made (n := n) hd
  refine ⟨_, rfl, _, rfl, _, _, rfl, rfl, ⟨hf, hl⟩, _, rfl, x, T.C_Ratio, dx, [], rfl, hx, T.cl_Ratio, T.n_Ratio_num, by show 0 < 1000; decide, ?_⟩
  refine ⟨_, rfl, _, rfl, _, _, rfl, rfl, ⟨hf, hl⟩, _, rfl, x, T.C_Ratio, dx, _, rfl, upd_same, T.cl_Ratio, T.n_Ratio_den, by show 1 < 1000; decide, ?_⟩
  rw [upd_upd]
  exact q _ _ _ (fun b o n e => by rw [upd_ne n]; exact e) upd_same r1 r2 r3
/-! ### Ratio.__add__ -/
theorem make_ratio (T : Txt K mg) {H : Hp} {R : Addr → Hp → Prop} {E : XK} {n d : Int} (hd : d ≠ 0) (hb : d.natAbs < 2 ^ 8000)
    (k : ∀ (r : Addr) (p q : Int) (H' : Hp), Same H H' → H r = none → RatAt T.C_Ratio H' r p q → Rt p q n d → p.natAbs ≤ n.natAbs → q.natAbs ≤ d.natAbs → R r H') :
    ∀ x dx, H x = none → H dx = none → dx ≠ x → sp_Ratio_init T [.ref x, .int n, .int d] (upd (upd H dx (.own x)) x (.ins T.C_Ratio dx [])) (fun v H2 => v = .non ∧ R x H2) E := by
  intro x dx nx nd ne
  refine ⟨x, dx, n, d, rfl, upd_same, hd, hb, fun p q H' hk hx hr hp hq => ⟨rfl, ?_⟩⟩
  refine k x p q H' (fun b o e => hk b o (ne_of_none e nx) ?_) nx ⟨dx, hx⟩ hr hp hq
  rw [upd_ne (ne_of_none e nx), upd_ne (ne_of_none e nd)]
  exact e
/-- two ratios given, one made of num and den -/
def sp2 (T : Txt K mg) (num den : Int → Int → Int → Int → Int) : Sp := fun vs H Q _ => ∃ (a b : Addr) (p q u v : Int), vs = [.ref a, .ref b] ∧ RatAt T.C_Ratio H a p q ∧ RatAt T.C_Ratio H b u v ∧ 0 < q ∧ 0 < v ∧ p.natAbs < 2 ^ 2000 ∧ q.natAbs < 2 ^ 2000 ∧ u.natAbs < 2 ^ 2000 ∧ v.natAbs < 2 ^ 2000 ∧
  ∀ (r : Addr) (p' q' : Int) (H' : Hp), Same H H' → H r = none → RatAt T.C_Ratio H' r p' q' → Rt p' q' (num p q u v) (den p q u v) → p'.natAbs ≤ (num p q u v).natAbs → q'.natAbs ≤ (den p q u v).natAbs → Q (.ref r) H'
def sp_Ratio_add (T : Txt K mg) : Sp := sp2 T (fun p q u v => p * v + u * q) (fun _ q _ v => q * v)

theorem ok_Ratio_add (T : Txt K mg) : FnOk P w K mg base CX0 5 T.a_Ratio_add T.d_Ratio_add ["self", "other"] (sp_Ratio_add T) := by
  refine T.F_Ratio_add.ok sc_Ratio_add (fun vs H Q E h => ?_) (fun cdv A outer s H vs Q E hr h => ?_)
  · obtain ⟨a, b, p, q, u, v, rfl, _⟩ := h
    rfl
  obtain ⟨a, b, p, q, u, v, rfl, ⟨da, ha⟩, ⟨db, hb⟩, q0, v0, hp, hq, hu, hv, k⟩ := h
  refine ⟨_, (pss_one (ps_ret (pe_make T.mk_Ratio (ok_Ratio_init T) (hr.mono (by decide)) (by rfl) T.m_Ratio T.b_Ratio_init .nil pass0 (pa_cons (pe_op op_add (pe_op op_mulW (pe_fld (pv 0) rfl) (pe_fld (pv 1) rfl)) (pe_op op_mulW (pe_fld (pv 1) rfl) (pe_fld (pv 0) rfl))) (pa_cons (pe_op op_mulW (pe_fld (pv 0) rfl) (pe_fld (pv 1) rfl)) pa_nil))))), ?_⟩
  refine ⟨_, rfl, a, T.C_Ratio, da, _, _, rfl, ha, T.cl_Ratio, T.n_Ratio_num, pf_num _ _, _, rfl, b, T.C_Ratio, db, _, _, rfl, hb, T.cl_Ratio, T.n_Ratio_den, pf_den _ _, _, _, rfl, rfl, wide_mul hp hv (by decide) (by decide) (by decide), ?_⟩
  refine ⟨_, rfl, b, T.C_Ratio, db, _, _, rfl, hb, T.cl_Ratio, T.n_Ratio_num, pf_num _ _, _, rfl, a, T.C_Ratio, da, _, _, rfl, ha, T.cl_Ratio, T.n_Ratio_den, pf_den _ _, _, _, rfl, rfl, wide_mul hu hq (by decide) (by decide) (by decide), _, _, rfl, rfl, ?_⟩
  refine ⟨_, rfl, a, T.C_Ratio, da, _, _, rfl, ha, T.cl_Ratio, T.n_Ratio_den, pf_den _ _, _, rfl, b, T.C_Ratio, db, _, _, rfl, hb, T.cl_Ratio, T.n_Ratio_den, pf_den _ _, _, _, rfl, rfl, wide_mul hq hv (by decide) (by decide) (by decide), ?_⟩
  exact make_ratio T (Int.mul_ne_zero (by omega) (by omega)) (Nat.lt_of_lt_of_le (wide_lt hq hv) (Nat.pow_le_pow_right (by decide) (by decide))) k
/-! ### Ratio.__sub__ -/
def sp_Ratio_sub (T : Txt K mg) : Sp := sp2 T (fun p q u v => p * v - u * q) (fun _ q _ v => q * v)

theorem ok_Ratio_sub (T : Txt K mg) : FnOk P w K mg base CX0 5 T.a_Ratio_sub T.d_Ratio_sub ["self", "other"] (sp_Ratio_sub T) := by
  refine T.F_Ratio_sub.ok sc_Ratio_sub (fun vs H Q E h => ?_) (fun cdv A outer s H vs Q E hr h => ?_)
  · obtain ⟨a, b, p, q, u, v, rfl, _⟩ := h
    rfl
  obtain ⟨a, b, p, q, u, v, rfl, ⟨da, ha⟩, ⟨db, hb⟩, q0, v0, hp, hq, hu, hv, k⟩ := h
  refine ⟨_, (pss_one (ps_ret (pe_make T.mk_Ratio (ok_Ratio_init T) (hr.mono (by decide)) (by rfl) T.m_Ratio T.b_Ratio_init .nil pass0 (pa_cons (pe_op op_sub (pe_op op_mulW (pe_fld (pv 0) rfl) (pe_fld (pv 1) rfl)) (pe_op op_mulW (pe_fld (pv 1) rfl) (pe_fld (pv 0) rfl))) (pa_cons (pe_op op_mulW (pe_fld (pv 0) rfl) (pe_fld (pv 1) rfl)) pa_nil))))), ?_⟩
  refine ⟨_, rfl, a, T.C_Ratio, da, _, _, rfl, ha, T.cl_Ratio, T.n_Ratio_num, pf_num _ _, _, rfl, b, T.C_Ratio, db, _, _, rfl, hb, T.cl_Ratio, T.n_Ratio_den, pf_den _ _, _, _, rfl, rfl, wide_mul hp hv (by decide) (by decide) (by decide), ?_⟩
  refine ⟨_, rfl, b, T.C_Ratio, db, _, _, rfl, hb, T.cl_Ratio, T.n_Ratio_num, pf_num _ _, _, rfl, a, T.C_Ratio, da, _, _, rfl, ha, T.cl_Ratio, T.n_Ratio_den, pf_den _ _, _, _, rfl, rfl, wide_mul hu hq (by decide) (by decide) (by decide), _, _, rfl, rfl, ?_⟩
  refine ⟨_, rfl, a, T.C_Ratio, da, _, _, rfl, ha, T.cl_Ratio, T.n_Ratio_den, pf_den _ _, _, rfl, b, T.C_Ratio, db, _, _, rfl, hb, T.cl_Ratio, T.n_Ratio_den, pf_den _ _, _, _, rfl, rfl, wide_mul hq hv (by decide) (by decide) (by decide), ?_⟩
  exact make_ratio T (Int.mul_ne_zero (by omega) (by omega)) (Nat.lt_of_lt_of_le (wide_lt hq hv) (Nat.pow_le_pow_right (by decide) (by decide))) k
/-! ### Ratio.__mul__ -/
def sp_Ratio_mul (T : Txt K mg) : Sp := sp2 T (fun p _ u _ => p * u) (fun _ q _ v => q * v)

theorem ok_Ratio_mul (T : Txt K mg) : FnOk P w K mg base CX0 5 T.a_Ratio_mul T.d_Ratio_mul ["self", "other"] (sp_Ratio_mul T) := by
  refine T.F_Ratio_mul.ok sc_Ratio_mul (fun vs H Q E h => ?_) (fun cdv A outer s H vs Q E hr h => ?_)
  · obtain ⟨a, b, p, q, u, v, rfl, _⟩ := h
    rfl
  obtain ⟨a, b, p, q, u, v, rfl, ⟨da, ha⟩, ⟨db, hb⟩, q0, v0, hp, hq, hu, hv, k⟩ := h
  refine ⟨_, (pss_one (ps_ret (pe_make T.mk_Ratio (ok_Ratio_init T) (hr.mono (by decide)) (by rfl) T.m_Ratio T.b_Ratio_init .nil pass0 (pa_cons (pe_op op_mulW (pe_fld (pv 0) rfl) (pe_fld (pv 1) rfl)) (pa_cons (pe_op op_mulW (pe_fld (pv 0) rfl) (pe_fld (pv 1) rfl)) pa_nil))))), ?_⟩
  refine ⟨_, rfl, a, T.C_Ratio, da, _, _, rfl, ha, T.cl_Ratio, T.n_Ratio_num, pf_num _ _, _, rfl, b, T.C_Ratio, db, _, _, rfl, hb, T.cl_Ratio, T.n_Ratio_num, pf_num _ _, _, _, rfl, rfl, wide_mul hp hu (by decide) (by decide) (by decide), ?_⟩
  refine ⟨_, rfl, a, T.C_Ratio, da, _, _, rfl, ha, T.cl_Ratio, T.n_Ratio_den, pf_den _ _, _, rfl, b, T.C_Ratio, db, _, _, rfl, hb, T.cl_Ratio, T.n_Ratio_den, pf_den _ _, _, _, rfl, rfl, wide_mul hq hv (by decide) (by decide) (by decide), ?_⟩
  exact make_ratio T (Int.mul_ne_zero (by omega) (by omega)) (Nat.lt_of_lt_of_le (wide_lt hq hv) (Nat.pow_le_pow_right (by decide) (by decide))) k
/-! ### Ratio.__neg__ -/
def sp_Ratio_neg (T : Txt K mg) : Sp := fun vs H Q _ => ∃ (a : Addr) (p q : Int), vs = [.ref a] ∧ RatAt T.C_Ratio H a p q ∧ 0 < q ∧ q.natAbs < 2 ^ 2000 ∧
  ∀ (r : Addr) (p' q' : Int) (H' : Hp), Same H H' → H r = none → RatAt T.C_Ratio H' r p' q' → Rt p' q' (-p) q → Q (.ref r) H'

theorem ok_Ratio_neg (T : Txt K mg) : FnOk P w K mg base CX0 5 T.a_Ratio_neg T.d_Ratio_neg ["self"] (sp_Ratio_neg T) := by
  refine T.F_Ratio_neg.ok sc_Ratio_neg (fun vs H Q E h => ?_) (fun cdv A outer s H vs Q E hr h => ?_)
  · obtain ⟨a, p, q, rfl, _⟩ := h
    rfl
  obtain ⟨a, p, q, rfl, ⟨da, ha⟩, q0, hq, k⟩ := h
  refine ⟨_, (pss_one (ps_ret (pe_make T.mk_Ratio (ok_Ratio_init T) (hr.mono (by decide)) (by rfl) T.m_Ratio T.b_Ratio_init .nil pass0 (pa_cons (pe_un un_neg (pe_fld (pv 0) rfl)) (pa_cons (pe_fld (pv 0) rfl) pa_nil))))), ?_⟩
  refine ⟨_, rfl, a, T.C_Ratio, da, _, _, rfl, ha, T.cl_Ratio, T.n_Ratio_num, pf_num _ _, _, rfl, _, rfl, a, T.C_Ratio, da, _, _, rfl, ha, T.cl_Ratio, T.n_Ratio_den, pf_den _ _, ?_⟩
  exact make_ratio T (by omega) (Nat.lt_of_lt_of_le hq (Nat.pow_le_pow_right (by decide) (by decide))) fun r p' q' H' s' nr hr' rt _ _ => k r p' q' H' s' nr hr' rt
/-! ### Ratio.__eq__ -/
def sp_Ratio_eq (T : Txt K mg) : Sp := fun vs H Q _ => ∃ (a b : Addr) (p q u v : Int), vs = [.ref a, .ref b] ∧ RatAt T.C_Ratio H a p q ∧ RatAt T.C_Ratio H b u v ∧ ∀ c : Bool, (c = true ↔ (p = u ∧ q = v)) → Q (.bl c) H

theorem ok_Ratio_eq (T : Txt K mg) : FnOk P w K mg base CX0 1 T.a_Ratio_eq T.d_Ratio_eq ["self", "other"] (sp_Ratio_eq T) := by
  refine T.F_Ratio_eq.ok sc_Ratio_eq (fun vs H Q E h => ?_) (fun cdv A outer s H vs Q E hr h => ?_)
  · obtain ⟨a, b, p, q, u, v, rfl, _⟩ := h
    rfl
  obtain ⟨a, b, p, q, u, v, rfl, ⟨da, ha⟩, ⟨db, hb⟩, k⟩ := h
  refine ⟨_, (pss_one (ps_ret (pe_and (pe_callB (C8.call_isC T.ic_Ratio) (by rfl) T.z_isinstance (by first | exact PySem.boot_isinstance | decide +kernel) (pa_cons (pv 1) (pa_cons (pe_glob (v := .ref T.C_Ratio) (by rfl) T.m_Ratio rfl) pa_nil))) (pe_and (pe_cmpR op_eq (pe_fld (pv 0) rfl) (pe_fld (pv 1) rfl) (nomark _)) (pe_one (pe_cmpR op_eq (pe_fld (pv 0) rfl) (pe_fld (pv 1) rfl) (nomark _))))))), ?_⟩
  refine ⟨_, rfl, b, db, _, rfl, hb, _, rfl, ?_⟩
  refine ⟨_, rfl, a, T.C_Ratio, da, _, _, rfl, ha, T.cl_Ratio, T.n_Ratio_num, pf_num _ _, _, rfl, b, T.C_Ratio, db, _, _, rfl, hb, T.cl_Ratio, T.n_Ratio_num, pf_num _ _, rfl, _, rfl, ite2 (fun e => ?_) (fun e => ?_)⟩
  · have e' : p = u := V.int.inj (of_decide_eq_true e)
    refine ⟨_, rfl, a, T.C_Ratio, da, _, _, rfl, ha, T.cl_Ratio, T.n_Ratio_den, pf_den _ _, _, rfl, b, T.C_Ratio, db, _, _, rfl, hb, T.cl_Ratio, T.n_Ratio_den, pf_den _ _, rfl, k _ ?_⟩
    rw [decide_eq_true_iff]
    exact ⟨fun z => ⟨e', V.int.inj z⟩, fun z => congrArg V.int z.2⟩
  · have e' : ¬ p = u := fun z => e (decide_eq_true (congrArg V.int z))
    exact k _ ⟨(fun z => by cases z), fun z => absurd z.1 e'⟩
/-! ### Ratio.__ne__ -/
def sp_Ratio_ne (T : Txt K mg) : Sp := fun vs H Q _ => ∃ (a b : Addr) (p q u v : Int), vs = [.ref a, .ref b] ∧ RatAt T.C_Ratio H a p q ∧ RatAt T.C_Ratio H b u v ∧ ∀ c : Bool, (c = true ↔ ¬ (p = u ∧ q = v)) → Q (.bl c) H

theorem ok_Ratio_ne (T : Txt K mg) : FnOk P w K mg base CX0 3 T.a_Ratio_ne T.d_Ratio_ne ["self", "other"] (sp_Ratio_ne T) := by
  refine T.F_Ratio_ne.ok sc_Ratio_ne (fun vs H Q E h => ?_) (fun cdv A outer s H vs Q E hr h => ?_)
  · obtain ⟨a, b, p, q, u, v, rfl, _⟩ := h
    rfl
  obtain ⟨a, b, p, q, u, v, rfl, ⟨da, ha⟩, ⟨db, hb⟩, k⟩ := h
  refine ⟨_, (pss_one (ps_ret (pe_not (pe_cmpR (op_cmp (fun _ _ => rfl) T.me_Ratio_eq (ok_Ratio_eq T) (hr.mono (by decide)) T.b_Ratio_eq pass0) (pv 0) (pv 1) (nomark _))))), ?_⟩
  refine ⟨_, rfl, _, rfl, a, da, _, b, db, _, rfl, rfl, ha, hb, a, b, p, q, u, v, rfl, ⟨da, ha⟩, ⟨db, hb⟩, fun c hc => ⟨c, rfl, k _ ?_⟩⟩
  rw [← hc]
  cases c <;> simp
/-! ### Ratio.below -/
def sp_Ratio_below (T : Txt K mg) : Sp := fun vs H Q _ => ∃ (a b : Addr) (p q u v : Int), vs = [.ref a, .ref b] ∧ RatAt T.C_Ratio H a p q ∧ RatAt T.C_Ratio H b u v ∧ p.natAbs < 2 ^ 2000 ∧ q.natAbs < 2 ^ 2000 ∧ u.natAbs < 2 ^ 2000 ∧ v.natAbs < 2 ^ 2000 ∧ Q (.bl (decide (p * v < u * q))) H

theorem ok_Ratio_below (T : Txt K mg) : FnOk P w K mg base CX0 1 T.a_Ratio_below T.d_Ratio_below ["self", "other"] (sp_Ratio_below T) := by
  refine T.F_Ratio_below.ok sc_Ratio_below (fun vs H Q E h => ?_) (fun cdv A outer s H vs Q E hr h => ?_)
  · obtain ⟨a, b, p, q, u, v, rfl, _⟩ := h
    rfl
  obtain ⟨a, b, p, q, u, v, rfl, ⟨da, ha⟩, ⟨db, hb⟩, hp, hq, hu, hv, k⟩ := h
  refine ⟨_, (pss_one (ps_ret (pe_cmpR op_lt (pe_op op_mulW (pe_fld (pv 0) rfl) (pe_fld (pv 1) rfl)) (pe_op op_mulW (pe_fld (pv 1) rfl) (pe_fld (pv 0) rfl)) (nomark _)))), ?_⟩
  refine ⟨_, rfl, a, T.C_Ratio, da, _, _, rfl, ha, T.cl_Ratio, T.n_Ratio_num, pf_num _ _, _, rfl, b, T.C_Ratio, db, _, _, rfl, hb, T.cl_Ratio, T.n_Ratio_den, pf_den _ _, _, _, rfl, rfl, wide_mul hp hv (by decide) (by decide) (by decide), ?_⟩
  exact ⟨_, rfl, b, T.C_Ratio, db, _, _, rfl, hb, T.cl_Ratio, T.n_Ratio_num, pf_num _ _, _, rfl, a, T.C_Ratio, da, _, _, rfl, ha, T.cl_Ratio, T.n_Ratio_den, pf_den _ _, _, _, rfl, rfl, wide_mul hu hq (by decide) (by decide) (by decide), _, _, rfl, rfl, k⟩
/-! ### Ratio.at_most -/
def sp_Ratio_at_most (T : Txt K mg) : Sp := fun vs H Q _ => ∃ (a b : Addr) (p q u v : Int), vs = [.ref a, .ref b] ∧ RatAt T.C_Ratio H a p q ∧ RatAt T.C_Ratio H b u v ∧ p.natAbs < 2 ^ 2000 ∧ q.natAbs < 2 ^ 2000 ∧ u.natAbs < 2 ^ 2000 ∧ v.natAbs < 2 ^ 2000 ∧ Q (.bl (decide (p * v ≤ u * q))) H

theorem ok_Ratio_at_most (T : Txt K mg) : FnOk P w K mg base CX0 1 T.a_Ratio_at_most T.d_Ratio_at_most ["self", "other"] (sp_Ratio_at_most T) := by
  refine T.F_Ratio_at_most.ok sc_Ratio_at_most (fun vs H Q E h => ?_) (fun cdv A outer s H vs Q E hr h => ?_)
  · obtain ⟨a, b, p, q, u, v, rfl, _⟩ := h
    rfl
  obtain ⟨a, b, p, q, u, v, rfl, ⟨da, ha⟩, ⟨db, hb⟩, hp, hq, hu, hv, k⟩ := h
  refine ⟨_, (pss_one (ps_ret (pe_cmpR op_le (pe_op op_mulW (pe_fld (pv 0) rfl) (pe_fld (pv 1) rfl)) (pe_op op_mulW (pe_fld (pv 1) rfl) (pe_fld (pv 0) rfl)) (nomark _)))), ?_⟩
  refine ⟨_, rfl, a, T.C_Ratio, da, _, _, rfl, ha, T.cl_Ratio, T.n_Ratio_num, pf_num _ _, _, rfl, b, T.C_Ratio, db, _, _, rfl, hb, T.cl_Ratio, T.n_Ratio_den, pf_den _ _, _, _, rfl, rfl, wide_mul hp hv (by decide) (by decide) (by decide), ?_⟩
  exact ⟨_, rfl, b, T.C_Ratio, db, _, _, rfl, hb, T.cl_Ratio, T.n_Ratio_num, pf_num _ _, _, rfl, a, T.C_Ratio, da, _, _, rfl, ha, T.cl_Ratio, T.n_Ratio_den, pf_den _ _, _, _, rfl, rfl, wide_mul hu hq (by decide) (by decide) (by decide), _, _, rfl, rfl, k⟩
/-! ### _law_cell -/
def sp_law_cell (T : Txt K mg) : Sp := fun vs H Q _ => ∃ (a : Addr) (ns : List Int) (k : Int), vs = [.ref a, .int k] ∧ SqL K H a (ns.map V.int) ∧ 0 ≤ k ∧ Q (.int (cell ns k)) H

theorem ok_law_cell (T : Txt K mg) : FnOk P w K mg base CX0 1 T.a_law_cell T.d_law_cell ["script", "k"] (sp_law_cell T) := by
  refine T.F_law_cell.ok sc_law_cell (fun vs H Q E h => ?_) (fun cdv A outer s H vs Q E hr h => ?_)
  · obtain ⟨a, ns, k, rfl, _⟩ := h
    rfl
  obtain ⟨a, ns, k, rfl, hS, hk, q⟩ := h
  refine ⟨_, (pss_cons (ps_if (pt_cmpR op_lt (pv 1) (pe_callB call_len_seq (by rfl) T.z_len (by first | exact PySem.boot_len | decide +kernel) (pa_cons (pv 0) pa_nil)) (nomark _)) (pss_one (ps_ret (pe_ix ix_list (pv 0) (pv 1) (fun _ _ => rfl)))) pss_nil)
      (pss_one (ps_ret pe_int))), ?_⟩
  refine ⟨_, rfl, _, rfl, a, _, rfl, .inl hS, _, _, rfl, rfl, _, rfl, ite2 (fun c => ?_) (fun c => ?_)⟩
  · have c' : k < (((ns.map V.int).length : Nat) : Int) := of_decide_eq_true c
    rw [List.length_map] at c'
    have hlt : k.toNat < ns.length := by omega
    refine ⟨_, rfl, _, rfl, a, _, k, .int (cell ns k), rfl, rfl, hS, at_of (j := k.toNat) (by omega) ?_, q⟩
    rw [List.getElem?_map, List.getElem?_eq_getElem hlt]
    unfold cell
    rw [List.getD_eq_getElem?_getD, List.getElem?_eq_getElem hlt]
    rfl
  · have c' : ¬ k < (((ns.map V.int).length : Nat) : Int) := fun z => c (decide_eq_true z)
    rw [List.length_map] at c'
    have e : cell ns k = 0 := by
      unfold cell
      rw [List.getD_eq_getElem?_getD, List.getElem?_eq_none (by omega)]
      rfl
    rw [e] at q
    exact q
/-! ### _law_is_integer -/
def sp_law_is_integer (T : Txt K mg) : Sp := fun vs H Q _ => ∃ (k : Int), vs = [.int k] ∧ Q (.bl true) H

theorem ok_law_is_integer (T : Txt K mg) : FnOk P w K mg base CX0 1 T.a_law_is_integer T.d_law_is_integer ["actual"] (sp_law_is_integer T) := by
  refine T.F_law_is_integer.ok sc_law_is_integer (fun vs H Q E h => ?_) (fun cdv A outer s H vs Q E hr h => ?_)
  · obtain ⟨k, rfl, _⟩ := h
    rfl
  obtain ⟨k, rfl, q⟩ := h
  refine ⟨_, (pss_one (ps_ret (pe_and (pe_callB call_isi (by rfl) T.z_isinstance (by first | exact PySem.boot_isinstance | decide +kernel) (pa_cons (pv 0) (pa_cons (pe_bltn (v := .ty "int") (by rfl) T.z_int (by decide +kernel) rfl) pa_nil))) (pe_one (pe_not (pe_callB call_isi (by rfl) T.z_isinstance (by first | exact PySem.boot_isinstance | decide +kernel) (pa_cons (pv 0) (pa_cons (pe_bltn (v := .ty "bool") (by rfl) T.z_bool (by decide +kernel) rfl) pa_nil)))))))), ?_⟩
  refine ⟨_, rfl, .int k, .ty "int", .type "int", .type "int", true, rfl, .ty _, .base (.int _), kit_ty (by decide +kernel), true, rfl, ?_⟩
  refine iteT ?_
  refine ⟨_, rfl, .int k, .ty "bool", .type "int", .type "bool", false, rfl, .ty _, .base (.int _), kit_ty (by decide +kernel), false, rfl, ?_⟩
  exact q
/-! ### _law_gcd -/
theorem gcd_pow {i N m : Nat} (h : 2 ^ i * m < 2 ^ N) (hi : N ≤ i) : m = 0 := by
  refine Nat.eq_zero_of_not_pos fun z => ?_
  have h1 : 2 ^ N ≤ 2 ^ i := Nat.pow_le_pow_right (by decide) hi
  have h2 : 2 ^ i * 1 ≤ 2 ^ i * m := Nat.mul_le_mul_left _ z
  omega
theorem gcd_half {x y j M : Nat} (hy : 0 < y) (hx : y < x) (h : 2 ^ j * (x * y) < M) : x % y = 0 ∨ 2 ^ (j + 1) * (y * (x % y)) < M := by
  refine .inr (Nat.lt_of_le_of_lt ?_ h)
  have h1 : 2 * (x % y) ≤ x := by
    have h2 := Nat.mod_lt x hy
    have h3 := Nat.div_add_mod x y
    have h4 : 1 ≤ x / y := (Nat.le_div_iff_mul_le hy).mpr (by omega)
    have h5 : y * 1 ≤ y * (x / y) := Nat.mul_le_mul_left _ h4
    omega
  have h6 : 2 ^ (j + 1) * (y * (x % y)) = 2 ^ j * (y * (2 * (x % y))) := by
    rw [Nat.pow_succ]
    simp only [Nat.mul_assoc, Nat.mul_left_comm]
  rw [h6, Nat.mul_comm x y]
  exact Nat.mul_le_mul_left _ (Nat.mul_le_mul_left _ h1)
def sp_law_gcd (T : Txt K mg) : Sp := fun vs H Q _ => ∃ (a b : Int), vs = [.int a, .int b] ∧ a.natAbs < 2 ^ 1900 ∧ b.natAbs < 2 ^ 1900 ∧ Q (.int ((Nat.gcd a.natAbs b.natAbs : Nat) : Int)) H

theorem ok_law_gcd (T : Txt K mg) : FnOk P w K mg base CX0 1 T.a_law_gcd T.d_law_gcd ["a", "b"] (sp_law_gcd T) := by
  refine T.F_law_gcd.ok sc_law_gcd (fun vs H Q E h => ?_) (fun cdv A outer s H vs Q E hr h => ?_)
  · obtain ⟨a, b, rfl, _⟩ := h
    rfl
  obtain ⟨a, b, rfl, ha, hb, q⟩ := h
  refine ⟨_, (pss_cons (ps_set (i := 0) sc_law_gcd.nd rfl (by first | exact Or.inl rfl | exact Or.inr rfl) (pe_callB call_abs (by rfl) T.z_abs (by first | exact PySem.boot_abs | decide +kernel) (pa_cons (pv 0) pa_nil)))
      (pss_cons (ps_set (i := 1) sc_law_gcd.nd rfl (by first | exact Or.inl rfl | exact Or.inr rfl) (pe_callB call_abs (by rfl) T.z_abs (by first | exact PySem.boot_abs | decide +kernel) (pa_cons (pv 1) pa_nil)))
      (pss_cons (ps_for PassesOwn.never rfl (pi_range1 (by rfl) T.z_range (pa_cons pe_int pa_nil)) (pg_name (i := 2) sc_law_gcd.nd rfl (by first | exact Or.inl rfl | exact Or.inr rfl)) (pss_cons (ps_if (pt_cmpR op_eq (pv 1) pe_int (nomark _)) (pss_one (ps_ret (pv 0))) pss_nil)
      (pss_cons (ps_set (i := 3) sc_law_gcd.nd rfl (by first | exact Or.inl rfl | exact Or.inr rfl) (pe_op op_mod (pe_callTy call_int1 (by rfl) T.z_int (by first | exact PySem.boot_int | decide +kernel) (pa_cons (pv 0) pa_nil)) (pv 1)))
      (pss_cons (ps_set (i := 0) sc_law_gcd.nd rfl (by first | exact Or.inl rfl | exact Or.inr rfl) (pv 1))
      (pss_one (ps_set (i := 1) sc_law_gcd.nd rfl (by first | exact Or.inl rfl | exact Or.inr rfl) (pv 3)))))))
      (pss_one (ps_ret (pv 0)))))), ?_⟩
  have absn : ∀ z : Int, (if z < 0 then -z else z) = ((z.natAbs : Nat) : Int) := fun z => by split <;> omega
  refine ⟨_, rfl, a, rfl, _, rfl, b, rfl, ?_⟩
  rw [absn, absn]
  have hab : a.natAbs * b.natAbs < 2 ^ 3800 := by
    have e : (2 : Nat) ^ 3800 = 2 ^ 1900 * 2 ^ 1900 := by rw [← Nat.pow_add]
    rw [e]
    exact Nat.mul_lt_mul'' ha hb
  obtain ⟨N, hN, hab⟩ : ∃ N, N ≤ 3800 ∧ a.natAbs * b.natAbs < 2 ^ N := ⟨3800, Nat.le_refl _, hab⟩
  clear ha hb
  generalize eg : Nat.gcd a.natAbs b.natAbs = g at q
  refine ⟨4000, rfl, by decide, by decide, for_range (n := 4000) (fun i σ' H' => ∃ (x y : Nat) (yk yc : Option V), σ' = [some (.int (x : Int)), some (.int (y : Int)), yk, yc] ∧ H' = H ∧ Nat.gcd x y = g ∧ ((i = 0 ∧ x * y < 2 ^ N) ∨ ∃ j, i = j + 1 ∧ (y = 0 ∨ (y < x ∧ 2 ^ j * (x * y) < 2 ^ N))))
    ⟨a.natAbs, b.natAbs, none, none, rfl, rfl, eg, .inl ⟨rfl, hab⟩⟩ ?_ ?_⟩
  · rintro i σ1 H1 hi ⟨x, y, yk, yc, rfl, rfl, hg, hv⟩
    refine ⟨_, rfl, rfl, _, rfl, ite2 (fun c => ?_) (fun c => ?_)⟩
    · have c' : (y : Int) = 0 := V.int.inj (of_decide_eq_true c)
      have y0 : y = 0 := by omega
      subst y0
      rw [Nat.gcd_zero_right] at hg
      subst hg
      exact ⟨_, rfl, q⟩
    · have y0 : y ≠ 0 := fun z => c (by rw [z]; exact decide_eq_true rfl)
      have yp : 0 < y := Nat.pos_of_ne_zero y0
      refine ⟨_, rfl, .inl ⟨_, rfl, _, rfl, _, _, rfl, rfl, by show (0 : Int) < (y : Int); omega, _, rfl, _, rfl, ?_⟩⟩
      refine ⟨y, x % y, _, _, rfl, rfl, ?_, .inr ⟨i, rfl, ?_⟩⟩
      · rw [Nat.gcd_comm y, ← Nat.gcd_rec, Nat.gcd_comm]
        exact hg
      · rcases hv with ⟨rfl, h1⟩ | ⟨j, rfl, h1 | ⟨h1, h2⟩⟩
        · refine .inr ⟨Nat.mod_lt _ yp, Nat.lt_of_le_of_lt ?_ h1⟩
          rw [Nat.pow_zero, Nat.one_mul, Nat.mul_comm x y]
          exact Nat.mul_le_mul_left _ (Nat.mod_le _ _)
        · exact absurd h1 y0
        · rcases gcd_half yp h1 h2 with h3 | h3
          · exact .inl h3
          · exact .inr ⟨Nat.mod_lt _ yp, h3⟩
  · rintro σ1 H1 ⟨x, y, yk, yc, rfl, rfl, hg, hv⟩
    have y0 : y = 0 := by
      rcases hv with ⟨h, _⟩ | ⟨j, hj, h1 | ⟨h1, h2⟩⟩
      · cases h
      · exact h1
      · have h3 := gcd_pow h2 (by omega)
        rcases Nat.mul_eq_zero.mp h3 with h4 | h4
        · omega
        · exact h4
    subst y0
    rw [Nat.gcd_zero_right] at hg
    subst hg
    exact ⟨_, rfl, q⟩
/-! ### _law_is_ratio -/
def sp_law_is_ratio (T : Txt K mg) : Sp := fun vs H Q _ => ∃ (r : Addr) (p q n d : Int), vs = [.ref r, .int n, .int d] ∧ RatAt T.C_Ratio H r p q ∧ Rt p q n d ∧ d ≠ 0 ∧ n.natAbs < 2 ^ 1900 ∧ d.natAbs < 2 ^ 1900 ∧ Q (.bl true) H

theorem ok_law_is_ratio (T : Txt K mg) : FnOk P w K mg base CX0 2 T.a_law_is_ratio T.d_law_is_ratio ["actual", "num", "den"] (sp_law_is_ratio T) := by
  refine T.F_law_is_ratio.ok sc_law_is_ratio (fun vs H Q E h => ?_) (fun cdv A outer s H vs Q E hr h => ?_)
  · obtain ⟨r, p, q, n, d, rfl, _⟩ := h
    rfl
  obtain ⟨r, p, q, n, d, rfl, ⟨dx, er⟩, hR, hd, hn, hdb, k⟩ := h
  refine ⟨_, (pss_cons (ps_if (pt_not (pt_truth (pe_callB (C8.call_isC T.ic_Ratio) (by rfl) T.z_isinstance (by first | exact PySem.boot_isinstance | decide +kernel) (pa_cons (pv 0) (pa_cons (pe_glob (v := .ref T.C_Ratio) (by rfl) T.m_Ratio rfl) pa_nil))) (fun _ => rfl))) (pss_one (ps_ret pe_bl)) pss_nil)
      (pss_cons (ps_if (PW.pt (pw_or (pt_not (pt_truth (pe_call (ok_law_is_integer T) (hr.mono (by decide)) (by rfl) T.m_law_is_integer T.F_law_is_integer.kp T.b_law_is_integer .nil pass0 (pa_cons (pe_fld (pv 0) rfl) pa_nil)) (fun _ => rfl))) (pw_or1 (pt_not (pt_truth (pe_call (ok_law_is_integer T) (hr.mono (by decide)) (by rfl) T.m_law_is_integer T.F_law_is_integer.kp T.b_law_is_integer .nil pass0 (pa_cons (pe_fld (pv 0) rfl) pa_nil)) (fun _ => rfl)))))) (pss_one (ps_ret pe_bl)) pss_nil)
      (pss_cons (ps_set (i := 3) sc_law_is_ratio.nd rfl (by first | exact Or.inl rfl | exact Or.inr rfl) (pe_call (ok_law_gcd T) (hr.mono (by decide)) (by rfl) T.m_law_gcd T.F_law_gcd.kp T.b_law_gcd .nil pass0 (pa_cons (pv 1) (pa_cons (pv 2) pa_nil))))
      (C8.pss_cut (ps_if (pt_cmpR op_lt (pv 2) pe_int (nomark _)) (pss_one (ps_set (i := 3) sc_law_is_ratio.nd rfl (by first | exact Or.inl rfl | exact Or.inr rfl) (pe_un un_neg (pv 3)))) pss_nil)
      (pss_one (ps_ret (pe_and (pe_cmpR op_eq (pe_fld (pv 0) rfl) (pe_op op_fdivX (pv 1) (pv 3)) (nomark _)) (pe_one (pe_cmpR op_eq (pe_fld (pv 0) rfl) (pe_op op_fdivX (pv 2) (pv 3)) (nomark _)))))))))), ?_⟩
  obtain ⟨m1, _, _⟩ := rt_made (n := n) hd
  obtain ⟨ep, eq⟩ := rt_uniq hR m1 hd hd rfl
  have hf := fac_ne (n := n) hd
  have hg : (fac n d).natAbs < 2 ^ 1900 := by
    rw [fac_abs]
    exact Nat.lt_of_le_of_lt (Nat.le_of_dvd (Int.natAbs_pos.mpr hd) (Nat.gcd_dvd_right _ _)) hdb
  have hl := log_lt hg (by decide) (by decide)
  refine ⟨_, rfl, r, dx, _, rfl, er, true, rfl, ?_⟩
  refine ⟨_, rfl, r, T.C_Ratio, dx, _, _, rfl, er, T.cl_Ratio, T.n_Ratio_num, pf_num _ _, p, rfl, true, rfl, ?_⟩
  refine ⟨_, rfl, r, T.C_Ratio, dx, _, _, rfl, er, T.cl_Ratio, T.n_Ratio_den, pf_den _ _, q, rfl, true, rfl, ?_⟩
  refine ⟨_, rfl, _, rfl, n, d, rfl, hn, hdb, ?_⟩
  refine ⟨fun σ' H' => σ' = [some (.ref r), some (.int n), some (.int d), some (.int (fac n d))] ∧ H' = H, ?_, ?_⟩
  · refine ⟨_, rfl, _, _, rfl, rfl, _, rfl, ite2 (fun c => ?_) (fun c => ?_)⟩
    · have c' : d < 0 := of_decide_eq_true c
      refine ⟨_, rfl, _, rfl, ?_, rfl⟩
      unfold fac
      rw [if_pos c']
      rfl
    · have c' : ¬ d < 0 := fun z => c (decide_eq_true z)
      refine ⟨?_, rfl⟩
      unfold fac
      rw [if_neg c']
      rfl
  rintro σ1 H1 ⟨rfl, rfl⟩
  refine ⟨_, rfl, r, T.C_Ratio, dx, _, _, rfl, er, T.cl_Ratio, T.n_Ratio_num, pf_num _ _, _, rfl, _, rfl, _, _, rfl, rfl, ⟨hf, hl⟩, rfl, _, rfl, ?_⟩
  show if decide (V.int p = V.int (n.fdiv (fac n d))) = true then _ else _
  rw [← ep, decide_eq_true rfl]
  refine ⟨_, rfl, r, T.C_Ratio, dx, _, _, rfl, er, T.cl_Ratio, T.n_Ratio_den, pf_den _ _, _, rfl, _, rfl, _, _, rfl, rfl, ⟨hf, hl⟩, rfl, ?_⟩
  show Q (.bl (decide (V.int q = V.int (d.fdiv (fac n d))))) _
  rw [← eq, decide_eq_true rfl]
  exact k
/-! ### _law_number -/
def lawNum (c : Int) : Int := if c % 3 = 0 then c / 3 % 9 - 4 else if c % 3 = 1 then c / 3 % 2001 - 1000 else c % (2 * 10 ^ 30) - 10 ^ 30
theorem lawNum_lt (c : Int) : (lawNum c).natAbs < 2 ^ 100 := by
  unfold lawNum
  have h1 : 0 ≤ c / 3 % 9 := Int.emod_nonneg _ (by decide)
  have h2 : c / 3 % 9 < 9 := Int.emod_lt_of_pos _ (by decide)
  have h3 : 0 ≤ c / 3 % 2001 := Int.emod_nonneg _ (by decide)
  have h4 : c / 3 % 2001 < 2001 := Int.emod_lt_of_pos _ (by decide)
  have h5 : 0 ≤ c % (2 * 10 ^ 30) := Int.emod_nonneg _ (by decide)
  have h6 : c % (2 * 10 ^ 30) < 2 * 10 ^ 30 := Int.emod_lt_of_pos _ (by decide)
  have h7 : (2 : Nat) ^ 100 = 1267650600228229401496703205376 := by decide
  rw [h7]
  split
  · omega
  · split <;> omega
def sp_law_number (T : Txt K mg) : Sp := fun vs H Q _ => ∃ (c : Int), vs = [.int c] ∧ Q (.int (lawNum c)) H

theorem ok_law_number (T : Txt K mg) : FnOk P w K mg base CX0 1 T.a_law_number T.d_law_number ["cell"] (sp_law_number T) := by
  refine T.F_law_number.ok sc_law_number (fun vs H Q E h => ?_) (fun cdv A outer s H vs Q E hr h => ?_)
  · obtain ⟨c, rfl, _⟩ := h
    rfl
  obtain ⟨c, rfl, q⟩ := h
  refine ⟨_, (pss_cons (ps_if (pt_cmpR op_eq (pe_op op_mod (pe_callTy call_int1 (by rfl) T.z_int (by first | exact PySem.boot_int | decide +kernel) (pa_cons (pv 0) pa_nil)) pe_int) pe_int (nomark _)) (pss_one (ps_ret (pe_op op_sub (pe_op op_mod (pe_op op_fdiv (pv 0) pe_int) pe_int) pe_int))) pss_nil)
      (pss_cons (ps_if (pt_cmpR op_eq (pe_op op_mod (pe_callTy call_int1 (by rfl) T.z_int (by first | exact PySem.boot_int | decide +kernel) (pa_cons (pv 0) pa_nil)) pe_int) pe_int (nomark _)) (pss_one (ps_ret (pe_op op_sub (pe_op op_mod (pe_op op_fdiv (pv 0) pe_int) pe_int) pe_int))) pss_nil)
      (pss_one (ps_ret (pe_op op_sub (pe_op op_mod (pe_callTy call_int1 (by rfl) T.z_int (by first | exact PySem.boot_int | decide +kernel) (pa_cons (pv 0) pa_nil)) (pe_op op_mul pe_int (pe_op op_pow pe_int pe_int))) (pe_op op_pow pe_int pe_int)))))), ?_⟩
  unfold lawNum at q
  refine ⟨_, rfl, .inl ⟨_, rfl, _, _, rfl, rfl, by show (0 : Int) < 3; decide, rfl, _, rfl, ite2 (fun e => ?_) (fun e => ?_)⟩⟩
  · have e' : c % 3 = 0 := V.int.inj (of_decide_eq_true e)
    rw [if_pos e'] at q
    exact ⟨_, rfl, _, _, rfl, rfl, ⟨by decide, by decide⟩, _, _, rfl, rfl, by show (0 : Int) < 9; decide, _, _, rfl, rfl, q⟩
  have e' : ¬ c % 3 = 0 := fun z => e (decide_eq_true (congrArg V.int z))
  rw [if_neg e'] at q
  refine ⟨_, rfl, .inl ⟨_, rfl, _, _, rfl, rfl, by show (0 : Int) < 3; decide, rfl, _, rfl, ite2 (fun e => ?_) (fun e => ?_)⟩⟩
  · have e' : c % 3 = 1 := V.int.inj (of_decide_eq_true e)
    rw [if_pos e'] at q
    exact ⟨_, rfl, _, _, rfl, rfl, ⟨by decide, by decide⟩, _, _, rfl, rfl, by show (0 : Int) < 2001; decide, _, _, rfl, rfl, q⟩
  have e' : ¬ c % 3 = 1 := fun z => e (decide_eq_true (congrArg V.int z))
  rw [if_neg e'] at q
  exact ⟨_, rfl, .inl ⟨_, rfl, _, _, rfl, rfl, ⟨by decide, by decide, by decide⟩, _, _, rfl, rfl, .inl ⟨by decide, by decide⟩, _, _, rfl, rfl, by show (0 : Int) < 2 * 10 ^ 30; decide, _, _, rfl, rfl, ⟨by decide, by decide, by decide⟩, _, _, rfl, rfl, q⟩⟩
/-! ### _law_positive -/
def lawPos (c : Int) : Int := 1 + ((lawNum c).natAbs : Int)
theorem lawPos_lt (c : Int) : 0 < lawPos c ∧ (lawPos c).natAbs < 2 ^ 101 := by
  have h := lawNum_lt c
  have h7 : (2 : Nat) ^ 101 = 2 ^ 100 + 2 ^ 100 := by decide
  unfold lawPos
  rw [h7]
  constructor
  · omega
  · omega
def sp_law_positive (T : Txt K mg) : Sp := fun vs H Q _ => ∃ (c : Int), vs = [.int c] ∧ Q (.int (lawPos c)) H

theorem ok_law_positive (T : Txt K mg) : FnOk P w K mg base CX0 2 T.a_law_positive T.d_law_positive ["cell"] (sp_law_positive T) := by
  refine T.F_law_positive.ok sc_law_positive (fun vs H Q E h => ?_) (fun cdv A outer s H vs Q E hr h => ?_)
  · obtain ⟨c, rfl, _⟩ := h
    rfl
  obtain ⟨c, rfl, q⟩ := h
  refine ⟨_, (pss_one (ps_ret (pe_op op_add pe_int (pe_callB call_abs (by rfl) T.z_abs (by first | exact PySem.boot_abs | decide +kernel) (pa_cons (pe_call (ok_law_number T) (hr.mono (by decide)) (by rfl) T.m_law_number T.F_law_number.kp T.b_law_number .nil pass0 (pa_cons (pv 0) pa_nil)) pa_nil))))), ?_⟩
  refine ⟨_, rfl, c, rfl, _, rfl, _, _, rfl, rfl, ?_⟩
  have absn : (if lawNum c < 0 then -(lawNum c) else lawNum c) = (((lawNum c).natAbs : Nat) : Int) := by split <;> omega
  rw [absn]
  exact q
/-! ### _law_bool -/
def sp_law_bool (T : Txt K mg) : Sp := fun vs H Q _ => ∃ (b : Bool), vs = [.bl b, .bl b] ∧ Q (.bl true) H

theorem ok_law_bool (T : Txt K mg) : FnOk P w K mg base CX0 1 T.a_law_bool T.d_law_bool ["actual", "due"] (sp_law_bool T) := by
  refine T.F_law_bool.ok sc_law_bool (fun vs H Q E h => ?_) (fun cdv A outer s H vs Q E hr h => ?_)
  · obtain ⟨b, rfl, _⟩ := h
    rfl
  obtain ⟨b, rfl, q⟩ := h
  refine ⟨_, (pss_one (ps_ret (pe_and (pe_callB call_isi (by rfl) T.z_isinstance (by first | exact PySem.boot_isinstance | decide +kernel) (pa_cons (pv 0) (pa_cons (pe_bltn (v := .ty "bool") (by rfl) T.z_bool (by decide +kernel) rfl) pa_nil))) (pe_one (pe_cmpR op_eq (pv 0) (pv 1) (nomark _)))))), ?_⟩
  refine ⟨_, rfl, .bl b, .ty "bool", .type "bool", .type "bool", true, rfl, .ty _, .base (.bl _), kit_ty (by decide +kernel), true, rfl, ?_⟩
  refine ⟨_, rfl, _, rfl, rfl, ?_⟩
  show Q (.bl (decide (V.bl b = V.bl b))) _
  rw [decide_eq_true rfl]
  exact q
/-! ### law -/
def sp_law (T : Txt K mg) : Sp := spLaw K

theorem ok_law (T : Txt K mg) : FnOk P w K mg base CX0 8 T.a_law T.d_law ["script"] (sp_law T) := by
  refine T.F_law.ok sc_law (fun vs H Q E h => ?_) (fun cdv A outer s H vs Q E hr h => ?_)
  · obtain ⟨a, ns, rfl, _⟩ := h
    rfl
  obtain ⟨s0, ns, rfl, hS, h63, q⟩ := h
  refine ⟨_, (pss_cons (ps_for PassesOwn.never rfl (pi_range1 (by rfl) T.z_range (pa_cons (pe_op op_add pe_int (pe_op op_fdiv (pe_callB call_len_seq (by rfl) T.z_len (by first | exact PySem.boot_len | decide +kernel) (pa_cons (pv 0) pa_nil)) pe_int)) pa_nil)) (pg_name (i := 1) sc_law.nd rfl (by first | exact Or.inl rfl | exact Or.inr rfl)) (pss_cons (ps_set (i := 2) sc_law.nd rfl (by first | exact Or.inl rfl | exact Or.inr rfl) (pe_call (ok_law_number T) (hr.mono (by decide)) (by rfl) T.m_law_number T.F_law_number.kp T.b_law_number .nil pass0 (pa_cons (pe_call (ok_law_cell T) (hr.mono (by decide)) (by rfl) T.m_law_cell T.F_law_cell.kp T.b_law_cell .nil pass0 (pa_cons (pv 0) (pa_cons (pe_op op_mul pe_int (pv 1)) pa_nil))) pa_nil)))
      (pss_cons (ps_set (i := 3) sc_law.nd rfl (by first | exact Or.inl rfl | exact Or.inr rfl) (pe_call (ok_law_positive T) (hr.mono (by decide)) (by rfl) T.m_law_positive T.F_law_positive.kp T.b_law_positive .nil pass0 (pa_cons (pe_call (ok_law_cell T) (hr.mono (by decide)) (by rfl) T.m_law_cell T.F_law_cell.kp T.b_law_cell .nil pass0 (pa_cons (pv 0) (pa_cons (pe_op op_add (pe_op op_mul pe_int (pv 1)) pe_int) pa_nil))) pa_nil)))
      (pss_cons (ps_set (i := 4) sc_law.nd rfl (by first | exact Or.inl rfl | exact Or.inr rfl) (pe_call (ok_law_number T) (hr.mono (by decide)) (by rfl) T.m_law_number T.F_law_number.kp T.b_law_number .nil pass0 (pa_cons (pe_call (ok_law_cell T) (hr.mono (by decide)) (by rfl) T.m_law_cell T.F_law_cell.kp T.b_law_cell .nil pass0 (pa_cons (pv 0) (pa_cons (pe_op op_add (pe_op op_mul pe_int (pv 1)) pe_int) pa_nil))) pa_nil)))
      (pss_cons (ps_set (i := 5) sc_law.nd rfl (by first | exact Or.inl rfl | exact Or.inr rfl) (pe_call (ok_law_positive T) (hr.mono (by decide)) (by rfl) T.m_law_positive T.F_law_positive.kp T.b_law_positive .nil pass0 (pa_cons (pe_call (ok_law_cell T) (hr.mono (by decide)) (by rfl) T.m_law_cell T.F_law_cell.kp T.b_law_cell .nil pass0 (pa_cons (pv 0) (pa_cons (pe_op op_add (pe_op op_mul pe_int (pv 1)) pe_int) pa_nil))) pa_nil)))
      (pss_cons (ps_set (i := 6) sc_law.nd rfl (by first | exact Or.inl rfl | exact Or.inr rfl) (pe_call (ok_law_cell T) (hr.mono (by decide)) (by rfl) T.m_law_cell T.F_law_cell.kp T.b_law_cell .nil pass0 (pa_cons (pv 0) (pa_cons (pe_op op_add (pe_op op_mul pe_int (pv 1)) pe_int) pa_nil))))
      (C8.pss_cut (ps_if (pt_cmpR op_eq (pe_op op_mod (pe_callTy call_int1 (by rfl) T.z_int (by first | exact PySem.boot_int | decide +kernel) (pa_cons (pv 6) pa_nil)) pe_int) pe_int (nomark _)) (pss_cons (ps_set (i := 4) sc_law.nd rfl (by first | exact Or.inl rfl | exact Or.inr rfl) (pe_op op_mulW (pv 2) (pe_op op_add pe_int (pe_op op_mod (pe_op op_fdiv (pv 6) pe_int) pe_int))))
      (pss_one (ps_set (i := 5) sc_law.nd rfl (by first | exact Or.inl rfl | exact Or.inr rfl) (pe_op op_mulW (pv 3) (pe_op op_add pe_int (pe_op op_mod (pe_op op_fdiv (pv 6) pe_int) pe_int)))))) pss_nil)
      (C8.pss_cut (ps_if (pt_cmpR op_eq (pe_op op_mod (pe_callTy call_int1 (by rfl) T.z_int (by first | exact PySem.boot_int | decide +kernel) (pa_cons (pv 6) pa_nil)) pe_int) pe_int (nomark _)) (pss_cons (ps_set (i := 4) sc_law.nd rfl (by first | exact Or.inl rfl | exact Or.inr rfl) (pe_op op_add (pe_op op_mulW (pv 2) (pe_op op_add pe_int (pe_op op_mod (pe_op op_fdiv (pv 6) pe_int) pe_int))) pe_int))
      (pss_one (ps_set (i := 5) sc_law.nd rfl (by first | exact Or.inl rfl | exact Or.inr rfl) (pe_op op_mulW (pv 3) (pe_op op_add pe_int (pe_op op_mod (pe_op op_fdiv (pv 6) pe_int) pe_int)))))) pss_nil)
      (pss_cons (ps_set (i := 7) sc_law.nd rfl (by first | exact Or.inl rfl | exact Or.inr rfl) (pe_make T.mk_Ratio (ok_Ratio_init T) (hr.mono (by decide)) (by rfl) T.m_Ratio T.b_Ratio_init .nil pass0 (pa_cons (pv 2) (pa_cons (pv 3) pa_nil))))
      (pss_cons (ps_set (i := 8) sc_law.nd rfl (by first | exact Or.inl rfl | exact Or.inr rfl) (pe_make T.mk_Ratio (ok_Ratio_init T) (hr.mono (by decide)) (by rfl) T.m_Ratio T.b_Ratio_init .nil pass0 (pa_cons (pv 4) (pa_cons (pv 5) pa_nil))))
      (pss_cons (ps_if (pt_not (pt_truth (pe_call (ok_law_bool T) (hr.mono (by decide)) (by rfl) T.m_law_bool T.F_law_bool.kp T.b_law_bool .nil pass0 (pa_cons (pe_cmpR (op_cmp (fun _ _ => rfl) T.me_Ratio_eq (ok_Ratio_eq T) (hr.mono (by decide)) T.b_Ratio_eq pass0) (pv 7) (pv 8) (nomark _)) (pa_cons (pe_cmpR op_eq (pe_op op_mulW (pv 2) (pv 5)) (pe_op op_mulW (pv 4) (pv 3)) (nomark _)) pa_nil))) (fun _ => rfl))) (pss_one (ps_ret pe_bl)) pss_nil)
      (pss_cons (ps_if (pt_not (pt_truth (pe_call (ok_law_bool T) (hr.mono (by decide)) (by rfl) T.m_law_bool T.F_law_bool.kp T.b_law_bool .nil pass0 (pa_cons (pe_cmpR (op_cmp (fun _ _ => rfl) T.me_Ratio_ne (ok_Ratio_ne T) (hr.mono (by decide)) T.b_Ratio_ne pass0) (pv 7) (pv 8) (nomark _)) (pa_cons (pe_cmpR op_ne (pe_op op_mulW (pv 2) (pv 5)) (pe_op op_mulW (pv 4) (pv 3)) (nomark _)) pa_nil))) (fun _ => rfl))) (pss_one (ps_ret pe_bl)) pss_nil)
      (pss_cons (ps_if (PW.pt (pw_or (pt_not (pt_truth (pe_call (ok_law_bool T) (hr.mono (by decide)) (by rfl) T.m_law_bool T.F_law_bool.kp T.b_law_bool .nil pass0 (pa_cons (pe_meth (pv 7) T.cl_Ratio T.me_Ratio_below (ok_Ratio_below T) (hr.mono (by decide)) T.b_Ratio_below .nil pass0 (pa_cons (pv 8) pa_nil)) (pa_cons (pe_cmpR op_lt (pe_op op_mulW (pv 2) (pv 5)) (pe_op op_mulW (pv 4) (pv 3)) (nomark _)) pa_nil))) (fun _ => rfl))) (pw_or1 (pt_not (pt_truth (pe_call (ok_law_bool T) (hr.mono (by decide)) (by rfl) T.m_law_bool T.F_law_bool.kp T.b_law_bool .nil pass0 (pa_cons (pe_meth (pv 8) T.cl_Ratio T.me_Ratio_below (ok_Ratio_below T) (hr.mono (by decide)) T.b_Ratio_below .nil pass0 (pa_cons (pv 7) pa_nil)) (pa_cons (pe_cmpR op_lt (pe_op op_mulW (pv 4) (pv 3)) (pe_op op_mulW (pv 2) (pv 5)) (nomark _)) pa_nil))) (fun _ => rfl)))))) (pss_one (ps_ret pe_bl)) pss_nil)
      (pss_cons (ps_if (PW.pt (pw_or (pt_not (pt_truth (pe_call (ok_law_bool T) (hr.mono (by decide)) (by rfl) T.m_law_bool T.F_law_bool.kp T.b_law_bool .nil pass0 (pa_cons (pe_meth (pv 7) T.cl_Ratio T.me_Ratio_at_most (ok_Ratio_at_most T) (hr.mono (by decide)) T.b_Ratio_at_most .nil pass0 (pa_cons (pv 8) pa_nil)) (pa_cons (pe_cmpR op_le (pe_op op_mulW (pv 2) (pv 5)) (pe_op op_mulW (pv 4) (pv 3)) (nomark _)) pa_nil))) (fun _ => rfl))) (pw_or1 (pt_not (pt_truth (pe_call (ok_law_bool T) (hr.mono (by decide)) (by rfl) T.m_law_bool T.F_law_bool.kp T.b_law_bool .nil pass0 (pa_cons (pe_meth (pv 8) T.cl_Ratio T.me_Ratio_at_most (ok_Ratio_at_most T) (hr.mono (by decide)) T.b_Ratio_at_most .nil pass0 (pa_cons (pv 7) pa_nil)) (pa_cons (pe_cmpR op_le (pe_op op_mulW (pv 4) (pv 3)) (pe_op op_mulW (pv 2) (pv 5)) (nomark _)) pa_nil))) (fun _ => rfl)))))) (pss_one (ps_ret pe_bl)) pss_nil)
      (pss_cons (ps_if (PW.pt (pw_or (pt_not (pt_truth (pe_call (ok_law_bool T) (hr.mono (by decide)) (by rfl) T.m_law_bool T.F_law_bool.kp T.b_law_bool .nil pass0 (pa_cons (pe_cmpR (op_cmp (fun _ _ => rfl) T.me_Ratio_eq (ok_Ratio_eq T) (hr.mono (by decide)) T.b_Ratio_eq pass0) (pv 7) (pv 7) (nomark _)) (pa_cons pe_bl pa_nil))) (fun _ => rfl))) (pw_or1 (pt_not (pt_truth (pe_call (ok_law_bool T) (hr.mono (by decide)) (by rfl) T.m_law_bool T.F_law_bool.kp T.b_law_bool .nil pass0 (pa_cons (pe_cmpR (op_cmp (fun _ _ => rfl) T.me_Ratio_ne (ok_Ratio_ne T) (hr.mono (by decide)) T.b_Ratio_ne pass0) (pv 7) (pv 7) (nomark _)) (pa_cons pe_bl pa_nil))) (fun _ => rfl)))))) (pss_one (ps_ret pe_bl)) pss_nil)
      (pss_cons (ps_if (PW.pt (pw_or (pt_not (pt_truth (pe_call (ok_law_bool T) (hr.mono (by decide)) (by rfl) T.m_law_bool T.F_law_bool.kp T.b_law_bool .nil pass0 (pa_cons (pe_meth (pv 7) T.cl_Ratio T.me_Ratio_below (ok_Ratio_below T) (hr.mono (by decide)) T.b_Ratio_below .nil pass0 (pa_cons (pv 7) pa_nil)) (pa_cons pe_bl pa_nil))) (fun _ => rfl))) (pw_or1 (pt_not (pt_truth (pe_call (ok_law_bool T) (hr.mono (by decide)) (by rfl) T.m_law_bool T.F_law_bool.kp T.b_law_bool .nil pass0 (pa_cons (pe_meth (pv 7) T.cl_Ratio T.me_Ratio_at_most (ok_Ratio_at_most T) (hr.mono (by decide)) T.b_Ratio_at_most .nil pass0 (pa_cons (pv 7) pa_nil)) (pa_cons pe_bl pa_nil))) (fun _ => rfl)))))) (pss_one (ps_ret pe_bl)) pss_nil)
      (pss_one (ps_if (PW.pt (pw_or (pt_not (pt_truth (pe_call (ok_law_is_ratio T) (hr.mono (by decide)) (by rfl) T.m_law_is_ratio T.F_law_is_ratio.kp T.b_law_is_ratio .nil pass0 (pa_cons (pv 7) (pa_cons (pv 2) (pa_cons (pv 3) pa_nil)))) (fun _ => rfl))) (pw_or1 (pt_not (pt_truth (pe_call (ok_law_is_ratio T) (hr.mono (by decide)) (by rfl) T.m_law_is_ratio T.F_law_is_ratio.kp T.b_law_is_ratio .nil pass0 (pa_cons (pv 8) (pa_cons (pv 4) (pa_cons (pv 5) pa_nil)))) (fun _ => rfl)))))) (pss_one (ps_ret pe_bl)) pss_nil))))))))))))))))))
      (pss_one (ps_ret pe_bl))), ?_⟩
  refine ⟨_, rfl, s0, _, rfl, .inl hS, _, _, rfl, rfl, ⟨by decide, by decide⟩, _, _, rfl, rfl, _, rfl, ?_, ?_, ?_⟩
  · rw [List.length_map]
    omega
  · rw [List.length_map]
    omega
  refine for_range (fun i σ' H' => ∃ y1 y2 y3 y4 y5 y6 y7 y8, σ' = [some (.ref s0), y1, y2, y3, y4, y5, y6, y7, y8] ∧ Same H H') ⟨_, _, _, _, _, _, _, _, rfl, Same.refl _⟩ ?_ (fun σ1 H1 _ => q _)
  rintro i σ1 H1 hi ⟨y1, y2, y3, y4, y5, y6, y7, y8, rfl, s1⟩
  have hA := s1.seq (K := K) hS
  have ik : (0 : Int) + (i : Int) = (i : Int) := Int.zero_add _
  rw [ik]
  refine ⟨_, rfl, _, rfl, _, _, rfl, rfl, .inl ⟨by decide, by decide⟩, s0, ns, 5 * (i : Int), rfl, hA, by omega, _, rfl, ?_⟩
  refine ⟨_, rfl, _, rfl, _, _, rfl, rfl, .inl ⟨by decide, by decide⟩, _, _, rfl, rfl, s0, ns, 5 * (i : Int) + 1, rfl, hA, by omega, _, rfl, ?_⟩
  refine ⟨_, rfl, _, rfl, _, _, rfl, rfl, .inl ⟨by decide, by decide⟩, _, _, rfl, rfl, s0, ns, 5 * (i : Int) + 2, rfl, hA, by omega, _, rfl, ?_⟩
  refine ⟨_, rfl, _, rfl, _, _, rfl, rfl, .inl ⟨by decide, by decide⟩, _, _, rfl, rfl, s0, ns, 5 * (i : Int) + 3, rfl, hA, by omega, _, rfl, ?_⟩
  refine ⟨_, rfl, _, rfl, _, _, rfl, rfl, .inl ⟨by decide, by decide⟩, _, _, rfl, rfl, s0, ns, 5 * (i : Int) + 4, rfl, hA, by omega, ?_⟩
  have ha := lawNum_lt (cell ns (5 * (i : Int)))
  have hb := lawPos_lt (cell ns (5 * (i : Int) + 1))
  have hc := lawNum_lt (cell ns (5 * (i : Int) + 2))
  have hd := lawPos_lt (cell ns (5 * (i : Int) + 3))
  generalize lawNum (cell ns (5 * (i : Int))) = a at ha ⊢
  generalize lawPos (cell ns (5 * (i : Int) + 1)) = b at hb ⊢
  generalize lawNum (cell ns (5 * (i : Int) + 2)) = c at hc ⊢
  generalize lawPos (cell ns (5 * (i : Int) + 3)) = d at hd ⊢
  generalize cell ns (5 * (i : Int) + 4) = z
  obtain ⟨hb0, hb⟩ := hb
  obtain ⟨hd0, hd⟩ := hd
  -- c and d may be made of a and b
  have hz0 : 0 ≤ z / 3 % 50 := Int.emod_nonneg _ (by decide)
  have hz1 : z / 3 % 50 < 50 := Int.emod_lt_of_pos _ (by decide)
  have hz : (1 + z / 3 % 50).natAbs < 2 ^ 6 := by
    show _ < 64
    omega
  let Mid : L2.St → Hp → Prop := fun σ' H' => ∃ c d, σ' = [some (.ref s0), some (.int (i : Int)), some (.int a), some (.int b), some (.int c), some (.int d), some (.int z), y7, y8] ∧ H' = H1 ∧ c.natAbs < 2 ^ 120 ∧ 0 < d ∧ d.natAbs < 2 ^ 120
  refine ⟨Mid, ?_, ?_⟩
  · refine ⟨_, rfl, .inl ⟨_, rfl, _, _, rfl, rfl, by show (0 : Int) < 3; decide, rfl, _, rfl, ite2 (fun _ => ?_) (fun _ => ?_)⟩⟩
    · refine ⟨_, rfl, _, rfl, _, _, rfl, rfl, ⟨by decide, by decide⟩, _, _, rfl, rfl, by show (0 : Int) < 50; decide, _, _, rfl, rfl, _, _, rfl, rfl, wide_mul ha hz (by decide) (by decide) (by decide), ?_⟩
      refine ⟨_, rfl, _, rfl, _, _, rfl, rfl, ⟨by decide, by decide⟩, _, _, rfl, rfl, by show (0 : Int) < 50; decide, _, _, rfl, rfl, _, _, rfl, rfl, wide_mul hb hz (by decide) (by decide) (by decide), ?_⟩
      exact ⟨_, _, rfl, rfl, lt_of (wide_lt ha hz) (by decide), Int.mul_pos hb0 (by omega), lt_of (wide_lt hb hz) (by decide)⟩
    · exact ⟨c, d, rfl, rfl, lt_of hc (by decide), hd0, lt_of hd (by decide)⟩
  clear hc hd hd0
  rintro σ2 H2 ⟨c, d, rfl, rfl, hc, hd0, hd⟩
  refine ⟨Mid, ?_, ?_⟩
  · refine ⟨_, rfl, .inl ⟨_, rfl, _, _, rfl, rfl, by show (0 : Int) < 3; decide, rfl, _, rfl, ite2 (fun _ => ?_) (fun _ => ?_)⟩⟩
    · refine ⟨_, rfl, _, rfl, _, _, rfl, rfl, ⟨by decide, by decide⟩, _, _, rfl, rfl, by show (0 : Int) < 50; decide, _, _, rfl, rfl, _, _, rfl, rfl, wide_mul ha hz (by decide) (by decide) (by decide), _, _, rfl, rfl, ?_⟩
      refine ⟨_, rfl, _, rfl, _, _, rfl, rfl, ⟨by decide, by decide⟩, _, _, rfl, rfl, by show (0 : Int) < 50; decide, _, _, rfl, rfl, _, _, rfl, rfl, wide_mul hb hz (by decide) (by decide) (by decide), ?_⟩
      exact ⟨_, _, rfl, rfl, lt_of (add_lt (a := 106) (wide_lt ha hz) (by decide)) (by decide), Int.mul_pos hb0 (by omega), lt_of (wide_lt hb hz) (by decide)⟩
    · exact ⟨c, d, rfl, rfl, hc, hd0, hd⟩
  clear hc hd hd0
  rintro σ2 H2 ⟨c, d, rfl, rfl, hc, hd0, hd⟩
  -- the two ratios
  refine ⟨_, rfl, _, rfl, ?_⟩
  refine make_ratio T (by omega) (lt_of hb (by decide)) fun l p q' H3 s2 _ L2 rL bp bq => ?_
  refine ⟨_, rfl, _, rfl, ?_⟩
  refine make_ratio T (by omega) (lt_of hd (by decide)) fun r u v H4 s3 _ R3 rR bu bv => ?_
  have L3 := L2.same s3
  have hp := lt_of (Nat.lt_of_le_of_lt bp ha) (show 100 ≤ 2000 by decide)
  have hq := lt_of (Nat.lt_of_le_of_lt bq hb) (show 101 ≤ 2000 by decide)
  have hu := lt_of (Nat.lt_of_le_of_lt bu hc) (show 120 ≤ 2000 by decide)
  have hv := lt_of (Nat.lt_of_le_of_lt bv hd) (show 120 ≤ 2000 by decide)
  have S3 := s1.trans (s2.trans s3)
  clear L2 bp bq bu bv s2 s3 hA s1
  obtain ⟨o1, o2, o3⟩ := rt_lt rL rR hb0 hd0
  obtain ⟨w1, w2, w3⟩ := rt_lt rR rL hd0 hb0
  obtain ⟨dL, l3⟩ := id L3
  obtain ⟨dR, r3⟩ := id R3
  have mad := wide_mul ha hd (by decide) (by decide) (by decide)
  have mcb := wide_mul hc hb (by decide) (by decide) (by decide)
  -- == and !=
  refine ⟨_, rfl, _, rfl, l, dL, _, r, dR, _, rfl, rfl, l3, r3, l, r, p, q', u, v, rfl, L3, R3, fun e he => ?_⟩
  have ee : e = decide (V.int (a * d) = V.int (c * b)) := by
    rw [o3] at he
    cases e with
    | true => rw [he.mp rfl, decide_eq_true rfl]
    | false => exact (decide_eq_false fun z => Bool.noConfusion (he.mpr (V.int.inj z))).symm
  refine ⟨_, rfl, _, rfl, _, _, rfl, rfl, mad, _, rfl, _, rfl, _, _, rfl, rfl, mcb, rfl, e, by rw [ee]; rfl, true, rfl, ?_⟩
  refine ⟨_, rfl, _, rfl, l, dL, _, r, dR, _, rfl, rfl, l3, r3, l, r, p, q', u, v, rfl, L3, R3, fun e2 he2 => ?_⟩
  have ee2 : e2 = !decide (V.int (a * d) = V.int (c * b)) := by
    rw [o3] at he2
    cases e2 with
    | true => rw [decide_eq_false fun z => (he2.mp rfl) (V.int.inj z)]; rfl
    | false => rw [decide_eq_true (congrArg V.int (Classical.byContradiction fun z => Bool.noConfusion (he2.mpr z)))]; rfl
  refine ⟨_, rfl, _, rfl, _, _, rfl, rfl, mad, _, rfl, _, rfl, _, _, rfl, rfl, mcb, rfl, e2, by rw [ee2]; rfl, true, rfl, ?_⟩
  -- below
  have dec : ∀ {A B : Prop} [Decidable A] [Decidable B], (A ↔ B) → [V.bl (decide A), V.bl (decide B)] = [V.bl (decide B), V.bl (decide B)] := fun h => by
    rw [decide_eq_decide.mpr h]
  refine ⟨_, rfl, l, dL, _, rfl, l3, no_below _ _, _, rfl, l, r, p, q', u, v, rfl, L3, R3, hp, hq, hu, hv, ?_⟩
  refine ⟨_, rfl, _, rfl, _, _, rfl, rfl, mad, _, rfl, _, rfl, _, _, rfl, rfl, mcb, _, _, rfl, rfl, decide (a * d < c * b), dec o1, true, rfl, ?_⟩
  refine ⟨_, rfl, r, dR, _, rfl, r3, no_below _ _, _, rfl, r, l, u, v, p, q', rfl, R3, L3, hu, hv, hp, hq, ?_⟩
  refine ⟨_, rfl, _, rfl, _, _, rfl, rfl, mcb, _, rfl, _, rfl, _, _, rfl, rfl, mad, _, _, rfl, rfl, decide (c * b < a * d), dec w1, true, rfl, ?_⟩
  -- at_most
  refine ⟨_, rfl, l, dL, _, rfl, l3, no_at_most _ _, _, rfl, l, r, p, q', u, v, rfl, L3, R3, hp, hq, hu, hv, ?_⟩
  refine ⟨_, rfl, _, rfl, _, _, rfl, rfl, mad, _, rfl, _, rfl, _, _, rfl, rfl, mcb, _, _, rfl, rfl, decide (a * d ≤ c * b), dec o2, true, rfl, ?_⟩
  refine ⟨_, rfl, r, dR, _, rfl, r3, no_at_most _ _, _, rfl, r, l, u, v, p, q', rfl, R3, L3, hu, hv, hp, hq, ?_⟩
  refine ⟨_, rfl, _, rfl, _, _, rfl, rfl, mcb, _, rfl, _, rfl, _, _, rfl, rfl, mad, _, _, rfl, rfl, decide (c * b ≤ a * d), dec w2, true, rfl, ?_⟩
  -- of a ratio with itself
  refine ⟨_, rfl, _, rfl, l, dL, _, l, dL, _, rfl, rfl, l3, l3, l, l, p, q', p, q', rfl, L3, L3, fun e he => ?_⟩
  have e1 : e = true := he.mpr ⟨rfl, rfl⟩
  subst e1
  refine ⟨true, rfl, true, rfl, ?_⟩
  refine ⟨_, rfl, _, rfl, l, dL, _, l, dL, _, rfl, rfl, l3, l3, l, l, p, q', p, q', rfl, L3, L3, fun e2 he2 => ?_⟩
  have e3 : e2 = false := by
    cases e2 with
    | true => exact absurd ⟨rfl, rfl⟩ (he2.mp rfl)
    | false => rfl
  subst e3
  refine ⟨false, rfl, true, rfl, ?_⟩
  refine ⟨_, rfl, l, dL, _, rfl, l3, no_below _ _, _, rfl, l, l, p, q', p, q', rfl, L3, L3, hp, hq, hp, hq, ?_⟩
  refine ⟨false, ?_, true, rfl, ?_⟩
  · show [V.bl (decide (p * q' < p * q')), V.bl false] = _
    rw [decide_eq_false (by omega)]
  refine ⟨_, rfl, l, dL, _, rfl, l3, no_at_most _ _, _, rfl, l, l, p, q', p, q', rfl, L3, L3, hp, hq, hp, hq, ?_⟩
  refine ⟨true, ?_, true, rfl, ?_⟩
  · show [V.bl (decide (p * q' ≤ p * q')), V.bl true] = _
    rw [decide_eq_true (Int.le_refl _)]
  -- they are as they were
  refine ⟨_, rfl, _, rfl, _, rfl, l, p, q', a, b, rfl, L3, rL, by omega, lt_of ha (by decide), lt_of hb (by decide), true, rfl, ?_⟩
  refine ⟨_, rfl, _, rfl, _, rfl, r, u, v, c, d, rfl, R3, rR, by omega, lt_of hc (by decide), lt_of hd (by decide), true, rfl, ?_⟩
  exact ⟨_, _, _, _, _, _, _, _, rfl, S3⟩
end
/-! ### what the top has written -/
theorem all_mk {l : PySem.W.OpenLaw} {w : World} {K : PySem.W.Frag} {h : Heap} {mg : Str → Option Value} {fa : Addr} (X : K.In h) (G : h.Ns mainGlobals mg) (hfa : mg "law" = some (.ref fa))
    {C_Ratio : Addr}
    {f1 : Addr} {od1 an1 : Option Addr} {sl1 : Array (Option Value)} {oc1 kV1 dc1 pm1 cd1 ct1 : Value}
    {Tt1 : Addr} {tc1 : Value} {td1 : Option Addr} {tn1 : Nat} {tl1 : Array (Option Value)} {tk1 : Tok}
    {f2 : Addr} {od2 an2 : Option Addr} {sl2 : Array (Option Value)} {oc2 kV2 dc2 pm2 cd2 ct2 : Value}
    {f3 : Addr} {od3 an3 : Option Addr} {sl3 : Array (Option Value)} {oc3 kV3 dc3 pm3 cd3 ct3 : Value}
    {f4 : Addr} {od4 an4 : Option Addr} {sl4 : Array (Option Value)} {oc4 kV4 dc4 pm4 cd4 ct4 : Value}
    {f5 : Addr} {od5 an5 : Option Addr} {sl5 : Array (Option Value)} {oc5 kV5 dc5 pm5 cd5 ct5 : Value}
    {f6 : Addr} {od6 an6 : Option Addr} {sl6 : Array (Option Value)} {oc6 kV6 dc6 pm6 cd6 ct6 : Value}
    {f7 : Addr} {od7 an7 : Option Addr} {sl7 : Array (Option Value)} {oc7 kV7 dc7 pm7 cd7 ct7 : Value}
    {f8 : Addr} {od8 an8 : Option Addr} {sl8 : Array (Option Value)} {oc8 kV8 dc8 pm8 cd8 ct8 : Value}
    {f9 : Addr} {od9 an9 : Option Addr} {sl9 : Array (Option Value)} {oc9 kV9 dc9 pm9 cd9 ct9 : Value}
    {f10 : Addr} {od10 an10 : Option Addr} {sl10 : Array (Option Value)} {oc10 kV10 dc10 pm10 cd10 ct10 : Value}
    {f11 : Addr} {od11 an11 : Option Addr} {sl11 : Array (Option Value)} {oc11 kV11 dc11 pm11 cd11 ct11 : Value}
    {f12 : Addr} {od12 an12 : Option Addr} {sl12 : Array (Option Value)} {oc12 kV12 dc12 pm12 cd12 ct12 : Value}
    {f13 : Addr} {od13 an13 : Option Addr} {sl13 : Array (Option Value)} {oc13 kV13 dc13 pm13 cd13 ct13 : Value}
    {f14 : Addr} {od14 an14 : Option Addr} {sl14 : Array (Option Value)} {oc14 kV14 dc14 pm14 cd14 ct14 : Value}
    {f15 : Addr} {od15 an15 : Option Addr} {sl15 : Array (Option Value)} {oc15 kV15 dc15 pm15 cd15 ct15 : Value}
    {f16 : Addr} {od16 an16 : Option Addr} {sl16 : Array (Option Value)} {oc16 kV16 dc16 pm16 cd16 ct16 : Value}
    {f17 : Addr} {od17 an17 : Option Addr} {sl17 : Array (Option Value)} {oc17 kV17 dc17 pm17 cd17 ct17 : Value}
    (ac_Ratio : PySem.W.nsIn K mainGlobals "Ratio" = some (some (.ref C_Ratio)))
    (pg_Ratio : PySem.W.plainGet K C_Ratio Str.empty = true)
    (hd_Ratio : PySem.W.hasDictIn K C_Ratio = true)
    (po_Ratio : PySem.W.plainOver K C_Ratio = true)
    (sa_Ratio : PySem.W.findIn K (.ref C_Ratio) "__setattr__" = some (some (.builtin "object.__setattr__")))
    (mkc_Ratio : PySem.W.makesIn K C_Ratio = true)
    (kpc_Ratio : PySem.W.keepIn K (.ref C_Ratio) = true)
    (na_Ratio_num : PySem.W.findIn K (.ref C_Ratio) "num" = some none)
    (na_Ratio_den : PySem.W.findIn K (.ref C_Ratio) "den" = some none)
    (sf_Ratio : PySem.W.selfFirst K C_Ratio = true)
    (xa_Ratio : PySem.W.findIn K (.ref C_Ratio) "__class__" = some (some (.builtin "object.__class__")))
    (xn_Ratio : PySem.W.specialIn K (.builtin "object.__class__") "__get__" = some (some (.builtin "getset_descriptor.__get__")))
    (xt_Ratio : PySem.W.takesIn K (.builtin "object.__class__") = some true)
    (xm_Ratio : PySem.W.mroIn K C_Ratio (.type "object") = some true)
    (a1 : PySem.W.findIn K (.ref C_Ratio) "__init__" = some (some (.ref f1)))
    (i1 : PySem.W.isFn K (.ref f1) = true)
    (l1 : K.lookup f1 = some ⟨oc1, od1, .func (PySem.W.fnOf "__init__" "Ratio.__init__" (defArgs s_Ratio_init) (defBody s_Ratio_init) (defScope s_Ratio_init) (.ref Tt1) kV1 dc1 pm1 an1 cd1 ct1), sl1⟩)
    (c1 : PySem.W.codeIn K cd1 "Ratio.__init__" = true)
    (k1 : PySem.W.keepIn K (.ref f1) = true)
    (t1 : K.lookup Tt1 = some ⟨tc1, td1, .seq #[.int 1 tk1] tn1, tl1⟩)
    (a2 : PySem.W.findIn K (.ref C_Ratio) "__add__" = some (some (.ref f2)))
    (i2 : PySem.W.isFn K (.ref f2) = true)
    (l2 : K.lookup f2 = some ⟨oc2, od2, .func (PySem.W.fnOf "__add__" "Ratio.__add__" (defArgs s_Ratio_add) (defBody s_Ratio_add) (defScope s_Ratio_add) .none kV2 dc2 pm2 an2 cd2 ct2), sl2⟩)
    (c2 : PySem.W.codeIn K cd2 "Ratio.__add__" = true)
    (k2 : PySem.W.keepIn K (.ref f2) = true)
    (a3 : PySem.W.findIn K (.ref C_Ratio) "__sub__" = some (some (.ref f3)))
    (i3 : PySem.W.isFn K (.ref f3) = true)
    (l3 : K.lookup f3 = some ⟨oc3, od3, .func (PySem.W.fnOf "__sub__" "Ratio.__sub__" (defArgs s_Ratio_sub) (defBody s_Ratio_sub) (defScope s_Ratio_sub) .none kV3 dc3 pm3 an3 cd3 ct3), sl3⟩)
    (c3 : PySem.W.codeIn K cd3 "Ratio.__sub__" = true)
    (k3 : PySem.W.keepIn K (.ref f3) = true)
    (a4 : PySem.W.findIn K (.ref C_Ratio) "__mul__" = some (some (.ref f4)))
    (i4 : PySem.W.isFn K (.ref f4) = true)
    (l4 : K.lookup f4 = some ⟨oc4, od4, .func (PySem.W.fnOf "__mul__" "Ratio.__mul__" (defArgs s_Ratio_mul) (defBody s_Ratio_mul) (defScope s_Ratio_mul) .none kV4 dc4 pm4 an4 cd4 ct4), sl4⟩)
    (c4 : PySem.W.codeIn K cd4 "Ratio.__mul__" = true)
    (k4 : PySem.W.keepIn K (.ref f4) = true)
    (a5 : PySem.W.findIn K (.ref C_Ratio) "__neg__" = some (some (.ref f5)))
    (i5 : PySem.W.isFn K (.ref f5) = true)
    (l5 : K.lookup f5 = some ⟨oc5, od5, .func (PySem.W.fnOf "__neg__" "Ratio.__neg__" (defArgs s_Ratio_neg) (defBody s_Ratio_neg) (defScope s_Ratio_neg) .none kV5 dc5 pm5 an5 cd5 ct5), sl5⟩)
    (c5 : PySem.W.codeIn K cd5 "Ratio.__neg__" = true)
    (k5 : PySem.W.keepIn K (.ref f5) = true)
    (a6 : PySem.W.findIn K (.ref C_Ratio) "__eq__" = some (some (.ref f6)))
    (i6 : PySem.W.isFn K (.ref f6) = true)
    (l6 : K.lookup f6 = some ⟨oc6, od6, .func (PySem.W.fnOf "__eq__" "Ratio.__eq__" (defArgs s_Ratio_eq) (defBody s_Ratio_eq) (defScope s_Ratio_eq) .none kV6 dc6 pm6 an6 cd6 ct6), sl6⟩)
    (c6 : PySem.W.codeIn K cd6 "Ratio.__eq__" = true)
    (k6 : PySem.W.keepIn K (.ref f6) = true)
    (a7 : PySem.W.findIn K (.ref C_Ratio) "__ne__" = some (some (.ref f7)))
    (i7 : PySem.W.isFn K (.ref f7) = true)
    (l7 : K.lookup f7 = some ⟨oc7, od7, .func (PySem.W.fnOf "__ne__" "Ratio.__ne__" (defArgs s_Ratio_ne) (defBody s_Ratio_ne) (defScope s_Ratio_ne) .none kV7 dc7 pm7 an7 cd7 ct7), sl7⟩)
    (c7 : PySem.W.codeIn K cd7 "Ratio.__ne__" = true)
    (k7 : PySem.W.keepIn K (.ref f7) = true)
    (a8 : PySem.W.findIn K (.ref C_Ratio) "below" = some (some (.ref f8)))
    (i8 : PySem.W.isFn K (.ref f8) = true)
    (l8 : K.lookup f8 = some ⟨oc8, od8, .func (PySem.W.fnOf "below" "Ratio.below" (defArgs s_Ratio_below) (defBody s_Ratio_below) (defScope s_Ratio_below) .none kV8 dc8 pm8 an8 cd8 ct8), sl8⟩)
    (c8 : PySem.W.codeIn K cd8 "Ratio.below" = true)
    (k8 : PySem.W.keepIn K (.ref f8) = true)
    (a9 : PySem.W.findIn K (.ref C_Ratio) "at_most" = some (some (.ref f9)))
    (i9 : PySem.W.isFn K (.ref f9) = true)
    (l9 : K.lookup f9 = some ⟨oc9, od9, .func (PySem.W.fnOf "at_most" "Ratio.at_most" (defArgs s_Ratio_at_most) (defBody s_Ratio_at_most) (defScope s_Ratio_at_most) .none kV9 dc9 pm9 an9 cd9 ct9), sl9⟩)
    (c9 : PySem.W.codeIn K cd9 "Ratio.at_most" = true)
    (k9 : PySem.W.keepIn K (.ref f9) = true)
    (a10 : PySem.W.nsIn K mainGlobals "_law_cell" = some (some (.ref f10)))
    (l10 : K.lookup f10 = some ⟨oc10, od10, .func (PySem.W.fnOf "_law_cell" "_law_cell" (defArgs s_law_cell) (defBody s_law_cell) (defScope s_law_cell) .none kV10 dc10 pm10 an10 cd10 ct10), sl10⟩)
    (c10 : PySem.W.codeIn K cd10 "_law_cell" = true)
    (k10 : PySem.W.keepIn K (.ref f10) = true)
    (a11 : PySem.W.nsIn K mainGlobals "_law_is_integer" = some (some (.ref f11)))
    (l11 : K.lookup f11 = some ⟨oc11, od11, .func (PySem.W.fnOf "_law_is_integer" "_law_is_integer" (defArgs s_law_is_integer) (defBody s_law_is_integer) (defScope s_law_is_integer) .none kV11 dc11 pm11 an11 cd11 ct11), sl11⟩)
    (c11 : PySem.W.codeIn K cd11 "_law_is_integer" = true)
    (k11 : PySem.W.keepIn K (.ref f11) = true)
    (a12 : PySem.W.nsIn K mainGlobals "_law_gcd" = some (some (.ref f12)))
    (l12 : K.lookup f12 = some ⟨oc12, od12, .func (PySem.W.fnOf "_law_gcd" "_law_gcd" (defArgs s_law_gcd) (defBody s_law_gcd) (defScope s_law_gcd) .none kV12 dc12 pm12 an12 cd12 ct12), sl12⟩)
    (c12 : PySem.W.codeIn K cd12 "_law_gcd" = true)
    (k12 : PySem.W.keepIn K (.ref f12) = true)
    (a13 : PySem.W.nsIn K mainGlobals "_law_is_ratio" = some (some (.ref f13)))
    (l13 : K.lookup f13 = some ⟨oc13, od13, .func (PySem.W.fnOf "_law_is_ratio" "_law_is_ratio" (defArgs s_law_is_ratio) (defBody s_law_is_ratio) (defScope s_law_is_ratio) .none kV13 dc13 pm13 an13 cd13 ct13), sl13⟩)
    (c13 : PySem.W.codeIn K cd13 "_law_is_ratio" = true)
    (k13 : PySem.W.keepIn K (.ref f13) = true)
    (a14 : PySem.W.nsIn K mainGlobals "_law_number" = some (some (.ref f14)))
    (l14 : K.lookup f14 = some ⟨oc14, od14, .func (PySem.W.fnOf "_law_number" "_law_number" (defArgs s_law_number) (defBody s_law_number) (defScope s_law_number) .none kV14 dc14 pm14 an14 cd14 ct14), sl14⟩)
    (c14 : PySem.W.codeIn K cd14 "_law_number" = true)
    (k14 : PySem.W.keepIn K (.ref f14) = true)
    (a15 : PySem.W.nsIn K mainGlobals "_law_positive" = some (some (.ref f15)))
    (l15 : K.lookup f15 = some ⟨oc15, od15, .func (PySem.W.fnOf "_law_positive" "_law_positive" (defArgs s_law_positive) (defBody s_law_positive) (defScope s_law_positive) .none kV15 dc15 pm15 an15 cd15 ct15), sl15⟩)
    (c15 : PySem.W.codeIn K cd15 "_law_positive" = true)
    (k15 : PySem.W.keepIn K (.ref f15) = true)
    (a16 : PySem.W.nsIn K mainGlobals "_law_bool" = some (some (.ref f16)))
    (l16 : K.lookup f16 = some ⟨oc16, od16, .func (PySem.W.fnOf "_law_bool" "_law_bool" (defArgs s_law_bool) (defBody s_law_bool) (defScope s_law_bool) .none kV16 dc16 pm16 an16 cd16 ct16), sl16⟩)
    (c16 : PySem.W.codeIn K cd16 "_law_bool" = true)
    (k16 : PySem.W.keepIn K (.ref f16) = true)
    (a17 : PySem.W.nsIn K mainGlobals "law" = some (some (.ref f17)))
    (l17 : K.lookup f17 = some ⟨oc17, od17, .func (PySem.W.fnOf "law" "law" (defArgs s_law) (defBody s_law) (defScope s_law) .none kV17 dc17 pm17 an17 cd17 ct17), sl17⟩)
    (c17 : PySem.W.codeIn K cd17 "law" = true)
    (k17 : PySem.W.keepIn K (.ref f17) = true)
    (g_gcd : PySem.W.nsIn K mainGlobals "gcd" = some (some (.builtin "math.gcd")))
    (z_abs : PySem.W.nsIn K mainGlobals "abs" = some none)
    (z_bool : PySem.W.nsIn K mainGlobals "bool" = some none)
    (z_int : PySem.W.nsIn K mainGlobals "int" = some none)
    (z_isinstance : PySem.W.nsIn K mainGlobals "isinstance" = some none)
    (z_len : PySem.W.nsIn K mainGlobals "len" = some none)
    (z_range : PySem.W.nsIn K mainGlobals "range" = some none) :
    ∃ fd : FuncData, (∀ (s : Shared) (v : Value), BindsTo s fd ⟨[v], []⟩ [("script", v)]) ∧ ∀ base : Heap, K.In base → base.Ns mainGlobals mg → FnOk l.prog w K mg base CX0 8 fa fd ["script"] (spLaw K) := by
  have e := hfa.symm.trans (PySem.W.mg_of X G a17)
  cases e
  have FD1 : FunD K "__init__" "Ratio.__init__" (defArgs s_Ratio_init) (defBody s_Ratio_init) (defScope s_Ratio_init) [.int 1] [] f1 _ := ⟨⟨_, _, _, _, _, _, _, _, _, _, rfl, l1, c1, .inr ⟨(by simp), _, _, _, _, rfl, t1, rfl, (.cons (by first | exact ⟨_, rfl⟩ | rfl) .nil)⟩, .inl rfl⟩, k1⟩
  obtain ⟨dz1, vz1, bz1⟩ := FD1.binds1 (ps := ["self", "num", "den"]) 3 1 (by simp) (by decide) (fun _ _ _ _ _ _ _ us its h1 h2 => match us, its, h1, h2 with | [_, _, _], [_], _, _ => ⟨_, rfl, rfl⟩)
  cases vz1
  obtain ⟨ds1, vd1, bd1⟩ := FD1.binds1 (ps := ["self", "num", "den"]) 2 0 (by simp) (by decide) (fun _ _ _ _ _ _ _ us its h1 h2 => match us, its, h1, h2 with | [_, _], [_], _, _ => ⟨_, rfl, rfl⟩)
  let T : Txt K mg := { C_Ratio := C_Ratio, m_Ratio := PySem.W.mg_of X G ac_Ratio, cl_Ratio := ⟨pg_Ratio, hd_Ratio, po_Ratio, sa_Ratio⟩, n_Ratio_num := na_Ratio_num, n_Ratio_den := na_Ratio_den, sf_Ratio := sf_Ratio, ic_Ratio := ⟨⟨pg_Ratio, hd_Ratio, po_Ratio, sa_Ratio⟩, xa_Ratio, xn_Ratio, xt_Ratio, xm_Ratio, (by unfold PySem.W.kitOne; simp)⟩, a_Ratio_init := f1, d_Ratio_init := _, F_Ratio_init := FD1, ds_Ratio_init := ds1, v_Ratio_init := vd1, bd_Ratio_init := bd1, b_Ratio_init := bz1, mk_Ratio := ⟨mkc_Ratio, a1, i1, kpc_Ratio⟩, a_Ratio_add := f2, d_Ratio_add := _, F_Ratio_add := fun_mk (st := s_Ratio_add) l2 c2 k2, b_Ratio_add := (fun_mk (st := s_Ratio_add) l2 c2 k2).binds (ps := ["self", "other"]) (fun _ _ _ _ _ _ us hl => match us, hl with | [_, _], _ => rfl), me_Ratio_add := ⟨a2, i2, k2⟩, a_Ratio_sub := f3, d_Ratio_sub := _, F_Ratio_sub := fun_mk (st := s_Ratio_sub) l3 c3 k3, b_Ratio_sub := (fun_mk (st := s_Ratio_sub) l3 c3 k3).binds (ps := ["self", "other"]) (fun _ _ _ _ _ _ us hl => match us, hl with | [_, _], _ => rfl), me_Ratio_sub := ⟨a3, i3, k3⟩, a_Ratio_mul := f4, d_Ratio_mul := _, F_Ratio_mul := fun_mk (st := s_Ratio_mul) l4 c4 k4, b_Ratio_mul := (fun_mk (st := s_Ratio_mul) l4 c4 k4).binds (ps := ["self", "other"]) (fun _ _ _ _ _ _ us hl => match us, hl with | [_, _], _ => rfl), me_Ratio_mul := ⟨a4, i4, k4⟩, a_Ratio_neg := f5, d_Ratio_neg := _, F_Ratio_neg := fun_mk (st := s_Ratio_neg) l5 c5 k5, b_Ratio_neg := (fun_mk (st := s_Ratio_neg) l5 c5 k5).binds (ps := ["self"]) (fun _ _ _ _ _ _ us hl => match us, hl with | [_], _ => rfl), me_Ratio_neg := ⟨a5, i5, k5⟩, a_Ratio_eq := f6, d_Ratio_eq := _, F_Ratio_eq := fun_mk (st := s_Ratio_eq) l6 c6 k6, b_Ratio_eq := (fun_mk (st := s_Ratio_eq) l6 c6 k6).binds (ps := ["self", "other"]) (fun _ _ _ _ _ _ us hl => match us, hl with | [_, _], _ => rfl), me_Ratio_eq := ⟨a6, i6, k6⟩, a_Ratio_ne := f7, d_Ratio_ne := _, F_Ratio_ne := fun_mk (st := s_Ratio_ne) l7 c7 k7, b_Ratio_ne := (fun_mk (st := s_Ratio_ne) l7 c7 k7).binds (ps := ["self", "other"]) (fun _ _ _ _ _ _ us hl => match us, hl with | [_, _], _ => rfl), me_Ratio_ne := ⟨a7, i7, k7⟩, a_Ratio_below := f8, d_Ratio_below := _, F_Ratio_below := fun_mk (st := s_Ratio_below) l8 c8 k8, b_Ratio_below := (fun_mk (st := s_Ratio_below) l8 c8 k8).binds (ps := ["self", "other"]) (fun _ _ _ _ _ _ us hl => match us, hl with | [_, _], _ => rfl), me_Ratio_below := ⟨a8, i8, k8⟩, a_Ratio_at_most := f9, d_Ratio_at_most := _, F_Ratio_at_most := fun_mk (st := s_Ratio_at_most) l9 c9 k9, b_Ratio_at_most := (fun_mk (st := s_Ratio_at_most) l9 c9 k9).binds (ps := ["self", "other"]) (fun _ _ _ _ _ _ us hl => match us, hl with | [_, _], _ => rfl), me_Ratio_at_most := ⟨a9, i9, k9⟩, a_law_cell := f10, d_law_cell := _, F_law_cell := fun_mk (st := s_law_cell) l10 c10 k10, b_law_cell := (fun_mk (st := s_law_cell) l10 c10 k10).binds (ps := ["script", "k"]) (fun _ _ _ _ _ _ us hl => match us, hl with | [_, _], _ => rfl), m_law_cell := PySem.W.mg_of X G a10, a_law_is_integer := f11, d_law_is_integer := _, F_law_is_integer := fun_mk (st := s_law_is_integer) l11 c11 k11, b_law_is_integer := (fun_mk (st := s_law_is_integer) l11 c11 k11).binds (ps := ["actual"]) (fun _ _ _ _ _ _ us hl => match us, hl with | [_], _ => rfl), m_law_is_integer := PySem.W.mg_of X G a11, a_law_gcd := f12, d_law_gcd := _, F_law_gcd := fun_mk (st := s_law_gcd) l12 c12 k12, b_law_gcd := (fun_mk (st := s_law_gcd) l12 c12 k12).binds (ps := ["a", "b"]) (fun _ _ _ _ _ _ us hl => match us, hl with | [_, _], _ => rfl), m_law_gcd := PySem.W.mg_of X G a12, a_law_is_ratio := f13, d_law_is_ratio := _, F_law_is_ratio := fun_mk (st := s_law_is_ratio) l13 c13 k13, b_law_is_ratio := (fun_mk (st := s_law_is_ratio) l13 c13 k13).binds (ps := ["actual", "num", "den"]) (fun _ _ _ _ _ _ us hl => match us, hl with | [_, _, _], _ => rfl), m_law_is_ratio := PySem.W.mg_of X G a13, a_law_number := f14, d_law_number := _, F_law_number := fun_mk (st := s_law_number) l14 c14 k14, b_law_number := (fun_mk (st := s_law_number) l14 c14 k14).binds (ps := ["cell"]) (fun _ _ _ _ _ _ us hl => match us, hl with | [_], _ => rfl), m_law_number := PySem.W.mg_of X G a14, a_law_positive := f15, d_law_positive := _, F_law_positive := fun_mk (st := s_law_positive) l15 c15 k15, b_law_positive := (fun_mk (st := s_law_positive) l15 c15 k15).binds (ps := ["cell"]) (fun _ _ _ _ _ _ us hl => match us, hl with | [_], _ => rfl), m_law_positive := PySem.W.mg_of X G a15, a_law_bool := f16, d_law_bool := _, F_law_bool := fun_mk (st := s_law_bool) l16 c16 k16, b_law_bool := (fun_mk (st := s_law_bool) l16 c16 k16).binds (ps := ["actual", "due"]) (fun _ _ _ _ _ _ us hl => match us, hl with | [_, _], _ => rfl), m_law_bool := PySem.W.mg_of X G a16, a_law := fa, d_law := _, F_law := fun_mk (st := s_law) l17 c17 k17, b_law := (fun_mk (st := s_law) l17 c17 k17).binds (ps := ["script"]) (fun _ _ _ _ _ _ us hl => match us, hl with | [_], _ => rfl), m_law := PySem.W.mg_of X G a17, g_gcd := PySem.W.mg_of X G g_gcd, z_abs := PySem.W.mg_none_of X G z_abs, z_bool := PySem.W.mg_none_of X G z_bool, z_int := PySem.W.mg_none_of X G z_int, z_isinstance := PySem.W.mg_none_of X G z_isinstance, z_len := PySem.W.mg_none_of X G z_len, z_range := PySem.W.mg_none_of X G z_range }
  exact ⟨T.d_law, fun s v => .of_eq rfl, fun base _ _ => ok_law T⟩
end Own
open PySem PySem.W PyProof.Rows
set_option maxHeartbeats 0 in
theorem PySem.Challenge.cw_sureplay_k02_ratio_order_holds : PySem.Challenge.rw_sureplay_k02_ratio_order.Holds := by
  w_on; o_law; k_head; (case hw => w_witness2)
  k_fill
  refine L2.walk_of (l := PySem.Challenge.rw_sureplay_k02_ratio_order) (n := 63) (k := 8) (x := "script") (CX := fun _ => L2.CX0) (sp := fun w => Own.spLaw _) rfl (by decide) rfl ⟨rfl, by decide, by decide⟩ (fun w h Y => PySem.W.kIn_of Y) ?F (fun _ _ a ns hl _ hS => ⟨a, ns, rfl, hS, hl, fun _ => rfl⟩) (fun _ _ _ _ _ h => h)
  case F =>
    intro w mg fa h KX G hmg
    refine' Own.all_mk KX G hmg ?ac_Ratio ?pg_Ratio ?hd_Ratio ?po_Ratio ?sa_Ratio ?mkc_Ratio ?kpc_Ratio ?na_Ratio_num ?na_Ratio_den ?sf_Ratio ?xa_Ratio ?xn_Ratio ?xt_Ratio ?xm_Ratio ?a1 ?i1 ?l1 ?c1 ?k1 ?t1 ?a2 ?i2 ?l2 ?c2 ?k2 ?a3 ?i3 ?l3 ?c3 ?k3 ?a4 ?i4 ?l4 ?c4 ?k4 ?a5 ?i5 ?l5 ?c5 ?k5 ?a6 ?i6 ?l6 ?c6 ?k6 ?a7 ?i7 ?l7 ?c7 ?k7 ?a8 ?i8 ?l8 ?c8 ?k8 ?a9 ?i9 ?l9 ?c9 ?k9 ?a10 ?l10 ?c10 ?k10 ?a11 ?l11 ?c11 ?k11 ?a12 ?l12 ?c12 ?k12 ?a13 ?l13 ?c13 ?k13 ?a14 ?l14 ?c14 ?k14 ?a15 ?l15 ?c15 ?k15 ?a16 ?l16 ?c16 ?k16 ?a17 ?l17 ?c17 ?k17 ?g_gcd ?z_abs ?z_bool ?z_int ?z_isinstance ?z_len ?z_range
    (case ac_Ratio => k_is)
    (case pg_Ratio => k_is)
    (case hd_Ratio => k_is)
    (case po_Ratio => k_is)
    (case sa_Ratio => k_is)
    (case mkc_Ratio => k_is)
    (case kpc_Ratio => k_is)
    (case na_Ratio_num => k_is)
    (case na_Ratio_den => k_is)
    (case sf_Ratio => k_is)
    (case xa_Ratio => k_is)
    (case xn_Ratio => k_is)
    (case xt_Ratio => k_is)
    (case xm_Ratio => k_is)
    (case a1 => k_is)
    (case i1 => k_is)
    (case l1 => k_is)
    (case c1 => k_is)
    (case k1 => k_is)
    (case t1 => k_is)
    (case a2 => k_is)
    (case i2 => k_is)
    (case l2 => k_is)
    (case c2 => k_is)
    (case k2 => k_is)
    (case a3 => k_is)
    (case i3 => k_is)
    (case l3 => k_is)
    (case c3 => k_is)
    (case k3 => k_is)
    (case a4 => k_is)
    (case i4 => k_is)
    (case l4 => k_is)
    (case c4 => k_is)
    (case k4 => k_is)
    (case a5 => k_is)
    (case i5 => k_is)
    (case l5 => k_is)
    (case c5 => k_is)
    (case k5 => k_is)
    (case a6 => k_is)
    (case i6 => k_is)
    (case l6 => k_is)
    (case c6 => k_is)
    (case k6 => k_is)
    (case a7 => k_is)
    (case i7 => k_is)
    (case l7 => k_is)
    (case c7 => k_is)
    (case k7 => k_is)
    (case a8 => k_is)
    (case i8 => k_is)
    (case l8 => k_is)
    (case c8 => k_is)
    (case k8 => k_is)
    (case a9 => k_is)
    (case i9 => k_is)
    (case l9 => k_is)
    (case c9 => k_is)
    (case k9 => k_is)
    (case a10 => k_is)
    (case l10 => k_is)
    (case c10 => k_is)
    (case k10 => k_is)
    (case a11 => k_is)
    (case l11 => k_is)
    (case c11 => k_is)
    (case k11 => k_is)
    (case a12 => k_is)
    (case l12 => k_is)
    (case c12 => k_is)
    (case k12 => k_is)
    (case a13 => k_is)
    (case l13 => k_is)
    (case c13 => k_is)
    (case k13 => k_is)
    (case a14 => k_is)
    (case l14 => k_is)
    (case c14 => k_is)
    (case k14 => k_is)
    (case a15 => k_is)
    (case l15 => k_is)
    (case c15 => k_is)
    (case k15 => k_is)
    (case a16 => k_is)
    (case l16 => k_is)
    (case c16 => k_is)
    (case k16 => k_is)
    (case a17 => k_is)
    (case l17 => k_is)
    (case c17 => k_is)
    (case k17 => k_is)
    (case g_gcd => k_is)
    (case z_abs => k_is)
    (case z_bool => k_is)
    (case z_int => k_is)
    (case z_isinstance => k_is)
    (case z_len => k_is)
    (case z_range => k_is)
#print axioms PySem.Challenge.cw_sureplay_k02_ratio_order_holds
