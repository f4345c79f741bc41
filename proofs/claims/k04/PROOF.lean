import PyProof.Rows.All
import Wide.All
import OpenK.AllK
import Wide.FinOn
import HandS.ForMost
import HandS.IsInst
import HandS.Codes
import HandS.Gcd
import HandS.Wide
import HandS.Defaults
import HandS.SlotsOwn
import HandS.ExcField
import HandS.Exc
import HandS.ExcOwn
import HandS.TryOnly
import HandS.WordsExc
import HandS.CallSlots
import HandS.HotCalls
import HandS.FStr
import HandS.ExcInit
import HandS.Nested
import KE.KExcSuper
import HandS.Walk
import HandS.Text
import HandS.StrMore
import PySem.Challenge.RW_sureplay_k04_ratio_written_and_read
set_option Elab.async false
set_option linter.all false
set_option maxRecDepth 100000
set_option maxHeartbeats 4000000
namespace Own
open PySem PySem.Spec PyProof.Rows L2
def topS (i : Nat) : Stmt := PySem.Challenge.pw_sureplay_k04_ratio_written_and_read.main.body.getD i (.Pass ⟨0, 0, 0, 0⟩)
abbrev s_Ratio_init : Stmt := (inClass (topS 7) 0)
abbrev N_Ratio_init : List Str := ["self", "num", "den", "factor"]
theorem sc_Ratio_init : FnScope N_Ratio_init ["self", "num", "den"] (defScope s_Ratio_init) := ⟨rfl, rfl, rfl, by decide +kernel, rfl, by decide +kernel, by decide +kernel⟩
abbrev s_Ratio_add : Stmt := (inClass (topS 7) 1)
abbrev N_Ratio_add : List Str := ["self", "other"]
theorem sc_Ratio_add : FnScope N_Ratio_add ["self", "other"] (defScope s_Ratio_add) := ⟨rfl, rfl, rfl, by decide +kernel, rfl, by decide +kernel, by decide +kernel⟩
abbrev s_Ratio_sub : Stmt := (inClass (topS 7) 2)
abbrev N_Ratio_sub : List Str := ["self", "other"]
theorem sc_Ratio_sub : FnScope N_Ratio_sub ["self", "other"] (defScope s_Ratio_sub) := ⟨rfl, rfl, rfl, by decide +kernel, rfl, by decide +kernel, by decide +kernel⟩
abbrev s_Ratio_mul : Stmt := (inClass (topS 7) 3)
abbrev N_Ratio_mul : List Str := ["self", "other"]
theorem sc_Ratio_mul : FnScope N_Ratio_mul ["self", "other"] (defScope s_Ratio_mul) := ⟨rfl, rfl, rfl, by decide +kernel, rfl, by decide +kernel, by decide +kernel⟩
abbrev s_Ratio_neg : Stmt := (inClass (topS 7) 4)
abbrev N_Ratio_neg : List Str := ["self"]
theorem sc_Ratio_neg : FnScope N_Ratio_neg ["self"] (defScope s_Ratio_neg) := ⟨rfl, rfl, rfl, by decide +kernel, rfl, by decide +kernel, by decide +kernel⟩
abbrev s_Ratio_eq : Stmt := (inClass (topS 7) 5)
abbrev N_Ratio_eq : List Str := ["self", "other"]
theorem sc_Ratio_eq : FnScope N_Ratio_eq ["self", "other"] (defScope s_Ratio_eq) := ⟨rfl, rfl, rfl, by decide +kernel, rfl, by decide +kernel, by decide +kernel⟩
abbrev s_Ratio_ne : Stmt := (inClass (topS 7) 6)
abbrev N_Ratio_ne : List Str := ["self", "other"]
theorem sc_Ratio_ne : FnScope N_Ratio_ne ["self", "other"] (defScope s_Ratio_ne) := ⟨rfl, rfl, rfl, by decide +kernel, rfl, by decide +kernel, by decide +kernel⟩
abbrev s_Ratio_str : Stmt := (inClass (topS 7) 8)
abbrev N_Ratio_str : List Str := ["self"]
theorem sc_Ratio_str : FnScope N_Ratio_str ["self"] (defScope s_Ratio_str) := ⟨rfl, rfl, rfl, by decide +kernel, rfl, by decide +kernel, by decide +kernel⟩
abbrev s_Ratio_sign : Stmt := (inClass (topS 7) 12)
abbrev N_Ratio_sign : List Str := ["self"]
theorem sc_Ratio_sign : FnScope N_Ratio_sign ["self"] (defScope s_Ratio_sign) := ⟨rfl, rfl, rfl, by decide +kernel, rfl, by decide +kernel, by decide +kernel⟩
abbrev s_has_digits : Stmt := (topS 9)
abbrev N_has_digits : List Str := ["word"]
theorem sc_has_digits : FnScope N_has_digits ["word"] (defScope s_has_digits) := ⟨rfl, rfl, rfl, by decide +kernel, rfl, by decide +kernel, by decide +kernel⟩
abbrev s_read_ratio : Stmt := (topS 8)
abbrev N_read_ratio : List Str := ["text", "above", "slash", "under", "ratio"]
theorem sc_read_ratio : FnScope N_read_ratio ["text"] (defScope s_read_ratio) := ⟨rfl, rfl, rfl, by decide +kernel, rfl, by decide +kernel, by decide +kernel⟩
abbrev s_law_cell : Stmt := (topS 11)
abbrev N_law_cell : List Str := ["script", "k"]
theorem sc_law_cell : FnScope N_law_cell ["script", "k"] (defScope s_law_cell) := ⟨rfl, rfl, rfl, by decide +kernel, rfl, by decide +kernel, by decide +kernel⟩
abbrev s_law_is_integer : Stmt := (topS 12)
abbrev N_law_is_integer : List Str := ["actual"]
theorem sc_law_is_integer : FnScope N_law_is_integer ["actual"] (defScope s_law_is_integer) := ⟨rfl, rfl, rfl, by decide +kernel, rfl, by decide +kernel, by decide +kernel⟩
abbrev s_law_gcd : Stmt := (topS 13)
abbrev N_law_gcd : List Str := ["a", "b", "k", "c"]
theorem sc_law_gcd : FnScope N_law_gcd ["a", "b"] (defScope s_law_gcd) := ⟨rfl, rfl, rfl, by decide +kernel, rfl, by decide +kernel, by decide +kernel⟩
abbrev s_law_is_ratio : Stmt := (topS 14)
abbrev N_law_is_ratio : List Str := ["actual", "num", "den", "part"]
theorem sc_law_is_ratio : FnScope N_law_is_ratio ["actual", "num", "den"] (defScope s_law_is_ratio) := ⟨rfl, rfl, rfl, by decide +kernel, rfl, by decide +kernel, by decide +kernel⟩
abbrev s_law_number : Stmt := (topS 15)
abbrev N_law_number : List Str := ["cell"]
theorem sc_law_number : FnScope N_law_number ["cell"] (defScope s_law_number) := ⟨rfl, rfl, rfl, by decide +kernel, rfl, by decide +kernel, by decide +kernel⟩
abbrev s_law_positive : Stmt := (topS 16)
abbrev N_law_positive : List Str := ["cell"]
theorem sc_law_positive : FnScope N_law_positive ["cell"] (defScope s_law_positive) := ⟨rfl, rfl, rfl, by decide +kernel, rfl, by decide +kernel, by decide +kernel⟩
abbrev s_law_written : Stmt := (topS 17)
abbrev N_law_written : List Str := ["num", "den", "part"]
theorem sc_law_written : FnScope N_law_written ["num", "den"] (defScope s_law_written) := ⟨rfl, rfl, rfl, by decide +kernel, rfl, by decide +kernel, by decide +kernel⟩
abbrev s_law_digits : Stmt := (topS 18)
abbrev N_law_digits : List Str := ["text", "char"]
theorem sc_law_digits : FnScope N_law_digits ["text"] (defScope s_law_digits) := ⟨rfl, rfl, rfl, by decide +kernel, rfl, by decide +kernel, by decide +kernel⟩
abbrev s_law_terms : Stmt := (topS 19)
abbrev N_law_terms : List Str := ["text", "sign", "parts", "part", "num", "den"]
theorem sc_law_terms : FnScope N_law_terms ["text"] (defScope s_law_terms) := ⟨rfl, rfl, rfl, by decide +kernel, rfl, by decide +kernel, by decide +kernel⟩
abbrev s_law_changed : Stmt := (topS 20)
abbrev N_law_changed : List Str := ["text", "way", "num", "den", "at"]
theorem sc_law_changed : FnScope N_law_changed ["text", "way", "num", "den"] (defScope s_law_changed) := ⟨rfl, rfl, rfl, by decide +kernel, rfl, by decide +kernel, by decide +kernel⟩
abbrev s_law_reads : Stmt := (topS 21)
abbrev N_law_reads : List Str := ["text", "due", "actual", "e"]
theorem sc_law_reads : FnScope N_law_reads ["text"] (defScope s_law_reads) := ⟨rfl, rfl, rfl, by decide +kernel, rfl, by decide +kernel, by decide +kernel⟩
abbrev s_law : Stmt := (topS 22)
abbrev N_law : List Str := ["script", "k", "num", "den", "text", "wide"]
theorem sc_law : FnScope N_law ["script"] (defScope s_law) := ⟨rfl, rfl, rfl, by decide +kernel, rfl, by decide +kernel, by decide +kernel⟩
abbrev s_BadRatio_init : Stmt := (inClass (topS 4) 0)
abbrev N_BadRatio_init : List Str := ["self", "value"]
abbrev s_BadText_init : Stmt := (inClass (topS 5) 0)
abbrev N_BadText_init : List Str := ["self", "at"]
def spLaw (K : PySem.W.Frag) : Sp := fun vs H Q _ => ∃ (a : Addr) (ns : List Int), vs = [.ref a] ∧ SqL K H a (ns.map V.int) ∧ ns.length ≤ 63 ∧ ∀ H', Q (.bl true) H'
def cell (ns : List Int) (k : Int) : Int := ns.getD k.toNat 0
theorem same_upd {H : Hp} {p : Addr} {o : HO} (h : H p = none) : Same H (upd H p o) := fun b x e => by
  rw [upd_ne (ne_of_none e h)]
  exact e
theorem cut_from (xs : List V) (k : Nat) : cutV xs (some (k : Int)) none = xs.drop k := by
  unfold cutV
  rw [HT.sIx_nat, HT.sIx_none]
  by_cases h : k ≤ xs.length
  · rw [Nat.min_eq_left h]
    exact List.take_of_length_le (by rw [List.length_drop]; omega)
  · rw [Nat.min_eq_right (by omega), List.drop_eq_nil_of_le (by omega), List.drop_eq_nil_of_le (by omega)]
    simp
theorem cut_to (xs : List V) (k : Nat) : cutV xs none (some (k : Int)) = xs.take k := by
  unfold cutV
  rw [HT.sIx_nat, HT.sIx_none, List.drop_zero, Nat.sub_zero]
  by_cases h : k ≤ xs.length
  · rw [Nat.min_eq_left h]
  · rw [Nat.min_eq_right (by omega), List.take_of_length_le (Nat.le_refl _), List.take_of_length_le (by omega)]
theorem cut_to' (xs : List V) (k : Int) (h : 0 ≤ k) : cutV xs none (some k) = xs.take k.toNat := by
  obtain ⟨m, rfl⟩ := Int.eq_ofNat_of_zero_le h
  exact cut_to xs m
theorem cut_from' (xs : List V) (k : Int) (h : 0 ≤ k) : cutV xs (some k) none = xs.drop k.toNat := by
  obtain ⟨m, rfl⟩ := Int.eq_ofNat_of_zero_le h
  exact cut_from xs m
theorem small_le {n : Nat} (h : n ≤ 1000) : n ≤ sizeLine := Nat.le_of_lt (small1000 h)
theorem at_ofG {α : Type} {xs : List α} {z : Int} {j : Nat} {v : α} (e : z = (j : Int)) (h : xs[j]? = some v) : atI xs z = some v := by
  rw [e]
  exact atI_nat h
theorem int_of_map {ns : List Int} {i : Nat} {y : V} (hi : (ns.map V.int)[i]? = some y) : ∃ z, ns[i]? = some z ∧ y = V.int z := by
  rw [List.getElem?_map] at hi
  cases e : ns[i]? with
  | none => rw [e] at hi; cases hi
  | some u => rw [e] at hi; exact ⟨u, rfl, (Option.some.inj hi).symm⟩
theorem dp_ints {K : PySem.W.Frag} {H : Hp} : ∀ ns : List Int, DpAll K H (ns.map V.int) (ns.map PyData.int)
  | [] => .nil
  | n :: r => .cons (.int n) (dp_ints r)
theorem lay_ints : ∀ ns : List Int, PyData.canLayAll0 (ns.map PyData.int) = true ∧ PyData.depthAll (ns.map PyData.int) = 0
  | [] => ⟨by simp [PyData.canLayAll0], by simp [PyData.depthAll]⟩
  | n :: r => by
    have ih := lay_ints r
    exact ⟨by simp [PyData.canLayAll0, PyData.canLay0, ih.1], by simp [PyData.depthAll, PyData.depth, ih.2]⟩
theorem shaped_ints (ns : List Int) : SeqAt.shaped (.list (ns.map PyData.int)) = true := by
  have h := lay_ints ns
  unfold SeqAt.shaped
  simp [PyData.canLay0, PyData.depth, h.1, h.2]
theorem eqv_ints (ns : List Int) : PyData.eqv (.list (ns.map PyData.int)) (.list (ns.map PyData.int)) = true :=
  SeqAt.eqv_refl _ (by rw [PyData.canLay0]; exact (lay_ints ns).1)

/-! ### fractions -/
/-- p / q is num / den in lowest terms -/
def Rt (p q num den : Int) : Prop := 0 < q ∧ Nat.gcd p.natAbs q.natAbs = 1 ∧ p * den = num * q
theorem natAbs_eq_of_mul {p q : Int} (hq : 0 < q) (h : Nat.gcd p.natAbs q.natAbs = 1) {p' q' : Int} (hq' : 0 < q') (h' : Nat.gcd p'.natAbs q'.natAbs = 1) (e : p * q' = p' * q) : p = p' ∧ q = q' := by
  have en : p.natAbs * q'.natAbs = p'.natAbs * q.natAbs := by rw [← Int.natAbs_mul, ← Int.natAbs_mul, e]
  have d1 : q.natAbs ∣ q'.natAbs := by
    have c : Nat.Coprime q.natAbs p.natAbs := by rw [Nat.coprime_comm]; exact h
    exact c.dvd_of_dvd_mul_left ⟨p'.natAbs, by rw [en, Nat.mul_comm]⟩
  have d2 : q'.natAbs ∣ q.natAbs := by
    have c : Nat.Coprime q'.natAbs p'.natAbs := by rw [Nat.coprime_comm]; exact h'
    exact c.dvd_of_dvd_mul_left ⟨p.natAbs, by rw [← en, Nat.mul_comm]⟩
  have eq : q.natAbs = q'.natAbs := Nat.dvd_antisymm d1 d2
  have eq' : q = q' := by omega
  refine ⟨?_, eq'⟩
  rw [eq'] at e
  exact Int.eq_of_mul_eq_mul_right (by omega) e
theorem rt_uniq {p q p' q' n d n' d' : Int} (h : Rt p q n d) (h' : Rt p' q' n' d') (hd : d ≠ 0) (hd' : d' ≠ 0) (e : n * d' = n' * d) : p = p' ∧ q = q' := by
  obtain ⟨h1, h2, h3⟩ := h
  obtain ⟨g1, g2, g3⟩ := h'
  refine natAbs_eq_of_mul h1 h2 g1 g2 ?_
  have k : (p * q') * (d * d') = (p' * q) * (d * d') := by
    grind
  exact Int.eq_of_mul_eq_mul_right (Int.mul_ne_zero hd hd') k
/-- the sign and the common divisor -/
def fac (n d : Int) : Int := if d < 0 then -((Nat.gcd n.natAbs d.natAbs : Nat) : Int) else ((Nat.gcd n.natAbs d.natAbs : Nat) : Int)
theorem gcd_pos' {n d : Int} (hd : d ≠ 0) : 0 < Nat.gcd n.natAbs d.natAbs := Nat.gcd_pos_of_pos_right _ (Int.natAbs_pos.mpr hd)
theorem fac_ne {n d : Int} (hd : d ≠ 0) : fac n d ≠ 0 := by
  have := gcd_pos' (n := n) hd
  unfold fac
  split <;> omega
theorem fac_abs (n d : Int) : (fac n d).natAbs = Nat.gcd n.natAbs d.natAbs := by
  unfold fac
  split <;> omega
theorem fac_dvd (n d : Int) : fac n d ∣ n ∧ fac n d ∣ d := by
  have h1 : ((Nat.gcd n.natAbs d.natAbs : Nat) : Int) ∣ n := Int.ofNat_dvd_left.mpr (Nat.gcd_dvd_left _ _)
  have h2 : ((Nat.gcd n.natAbs d.natAbs : Nat) : Int) ∣ d := Int.ofNat_dvd_left.mpr (Nat.gcd_dvd_right _ _)
  unfold fac
  split
  · exact ⟨(Int.neg_dvd).mpr h1, (Int.neg_dvd).mpr h2⟩
  · exact ⟨h1, h2⟩
theorem rt_made {n d : Int} (hd : d ≠ 0) : Rt (n.fdiv (fac n d)) (d.fdiv (fac n d)) n d ∧ (n.fdiv (fac n d)).natAbs ≤ n.natAbs ∧ (d.fdiv (fac n d)).natAbs ≤ d.natAbs := by
  have hf := fac_ne (n := n) hd
  obtain ⟨⟨a, ha⟩, ⟨b, hb⟩⟩ := fac_dvd n d
  have fa := fac_abs n d
  have gp := gcd_pos' (n := n) hd
  generalize hfe : fac n d = f at hf ha hb fa
  have e1 : n.fdiv f = a := by rw [ha]; exact Int.mul_fdiv_cancel_left a hf
  have e2 : d.fdiv f = b := by rw [hb]; exact Int.mul_fdiv_cancel_left b hf
  rw [e1, e2]
  have na : n.natAbs = f.natAbs * a.natAbs := by rw [ha, Int.natAbs_mul]
  have nb : d.natAbs = f.natAbs * b.natAbs := by rw [hb, Int.natAbs_mul]
  have fpos : 0 < f.natAbs := by omega
  refine ⟨⟨?_, ?_, ?_⟩, ?_, ?_⟩
  · -- the sign
    have hs : (d < 0 ∧ f < 0) ∨ (0 < d ∧ 0 < f) := by
      unfold fac at hfe
      split at hfe <;> omega
    rcases hs with ⟨h1, h2⟩ | ⟨h1, h2⟩
    · refine Int.not_le.mp fun z => ?_
      have := Int.mul_nonneg_of_nonpos_of_nonpos (Int.le_of_lt h2) z
      omega
    · refine Int.not_le.mp fun z => ?_
      have := Int.mul_nonpos_of_nonneg_of_nonpos (Int.le_of_lt h2) z
      omega
  · have e : Nat.gcd n.natAbs d.natAbs = f.natAbs * Nat.gcd a.natAbs b.natAbs := by rw [na, nb, Nat.gcd_mul_left]
    rw [← fa] at e
    have : f.natAbs * 1 = f.natAbs * Nat.gcd a.natAbs b.natAbs := by rw [Nat.mul_one]; exact e
    exact (Nat.eq_of_mul_eq_mul_left fpos this).symm
  · have x : a * d = n * b := by rw [hb, ha, ← Int.mul_assoc, Int.mul_comm a f]
    exact x
  · rw [na]
    exact Nat.le_mul_of_pos_left _ fpos
  · rw [nb]
    exact Nat.le_mul_of_pos_left _ fpos
theorem Rt.pos {p q n d : Int} (h : Rt p q n d) : 0 < q := h.1
theorem op_fdivX {X : Cx} : OpR X (binaryOp .FloorDiv) (rI (fun _ j => j ≠ 0 ∧ j.natAbs.log2 < 9000) fun i j => .int (i.fdiv j)) :=
  opI fun _ _ _ _ _ _ _ hc q => floordiv_int hc.1 q (.inl (PyProof.noPylong_of_log2 hc.2))
theorem log_lt {j : Int} {b : Nat} (hb : j.natAbs < 2 ^ b) (h0 : 0 < b) (h9 : b ≤ 9000) : j.natAbs.log2 < 9000 := Nat.lt_of_lt_of_le (PySem.Flt.log2_lt_of h0 hb) h9
/-! ### ratios as objects -/
def pf (p q : Int) : List (Str × V) := putF "den" (.int q) (putF "num" (.int p) [])
theorem nd_ : ¬ (("num" : Str) = "den") := by decide +kernel
theorem pf_num (p q : Int) : (pf p q).lookup ("num" : Str) = some (.int p) := by
  unfold pf
  rw [lookup_putF, if_neg nd_, lookup_putF, if_pos rfl]
theorem pf_den (p q : Int) : (pf p q).lookup ("den" : Str) = some (.int q) := by
  unfold pf
  rw [lookup_putF, if_pos rfl]
theorem pf_no (p q : Int) {m : Str} (h1 : ¬ m = "num") (h2 : ¬ m = "den") : (pf p q).lookup m = none := by
  unfold pf
  rw [lookup_putF, if_neg h2, lookup_putF, if_neg h1]
  rfl
/-- at r a ratio p / q -/
def RatAt (C : Addr) (H : Hp) (r : Addr) (p q : Int) : Prop := ∃ dx, H r = some (.ins C dx (pf p q))
theorem no_below (p q : Int) : (pf p q).lookup ("below" : Str) = none := pf_no _ _ (by decide +kernel) (by decide +kernel)
theorem no_at_most (p q : Int) : (pf p q).lookup ("at_most" : Str) = none := pf_no _ _ (by decide +kernel) (by decide +kernel)
theorem no_over (p q : Int) : (pf p q).lookup ("over" : Str) = none := pf_no _ _ (by decide +kernel) (by decide +kernel)
theorem no_sign (p q : Int) : (pf p q).lookup ("sign" : Str) = none := pf_no _ _ (by decide +kernel) (by decide +kernel)
theorem RatAt.same {C : Addr} {H H' : Hp} {r : Addr} {p q : Int} (h : RatAt C H r p q) (s : Same H H') : RatAt C H' r p q := by
  obtain ⟨dx, e⟩ := h
  exact ⟨dx, s _ _ e⟩
/-- an operator of an own class: both are its instances -/
def rBin (C : Addr) (sp : Sp) (E : XK) : R2 := fun x y H Q => ∃ a dx fs b dy gs, x = .ref a ∧ y = .ref b ∧ H a = some (.ins C dx fs) ∧ H b = some (.ins C dy gs) ∧ sp [x, y] H Q E
theorem op_bin {X : Cx} {op : Operator} {C g : Addr} {n : Nat} {fd : FuncData} {ps : List Str} {sp : Sp} {E : XK} {CX : CXT} (hc : PySem.W.selfFirst X.K C = true) (m : Meth X.K C (PySem.dunder op.info.2) g)
    (F : FnOk X.prog X.w X.K X.mg X.base CX n g fd ps sp) (hr : Room n X.A) (hb : Binds X.K fd ps []) (hx : Passes CX X E) : OpR X (binaryOp op) (rBin C sp E) := by
  intro pins s σ H x y v u Q I rx ry h
  obtain ⟨a, dx, fs, b, dy, gs, rfl, rfl, ha, hb', q⟩ := h
  cases (show v = Value.ref a from rx)
  cases (show u = Value.ref b from ry)
  obtain ⟨mA, O, _⟩ := ins_get I.hok ha
  obtain ⟨od, J, _⟩ := O.look
  obtain ⟨mA', O', _⟩ := ins_get I.hok hb'
  obtain ⟨od', J', _⟩ := O'.look
  obtain ⟨mm, hF⟩ := I.fr
  refine PySem.W.binop_K hF I.ok.mod.kin J J'.type hc m.at_ m.fn ?_
  refine wpAny_mono (run_fn (vs := [.ref a, .ref b]) (dvs := []) (ds := []) F hr hb .nil hx I (.cons rfl (.cons rfl .nil)) q) (fun w s' z => ?_) fun _ _ x => x
  obtain ⟨z', H', I', rz, qz⟩ := z
  exact SlX.cmpback rz ⟨z', H', I', rz, qz⟩
def rNeg (C : Addr) (sp : Sp) (E : XK) : V → Hp → VK → Prop := fun x H Q => ∃ a dx fs, x = .ref a ∧ H a = some (.ins C dx fs) ∧ sp [x] H Q E
theorem un_own {X : Cx} {C g : Addr} {n : Nat} {fd : FuncData} {ps : List Str} {sp : Sp} {E : XK} {CX : CXT} (m : Meth X.K C "__neg__" g)
    (F : FnOk X.prog X.w X.K X.mg X.base CX n g fd ps sp) (hr : Room n X.A) (hb : Binds X.K fd ps []) (hx : Passes CX X E) : UnR X (unaryOp .USub) (rNeg C sp E) := by
  intro pins s σ H x v Q I rx h
  obtain ⟨a, dx, fs, rfl, ha, q⟩ := h
  cases (show v = Value.ref a from rx)
  obtain ⟨mA, O, _⟩ := ins_get I.hok ha
  obtain ⟨od, J, _⟩ := O.look
  obtain ⟨mm, hF⟩ := I.fr
  refine PySem.W.ksp_neg hF I.ok.mod.kin J m.at_ m.fn ?_
  exact run_fn (vs := [.ref a]) (dvs := []) (ds := []) F hr hb .nil hx I (.cons rfl .nil) q
theorem op_cmp {X : Cx} {op : CmpOp} {C g : Addr} {n : Nat} {fd : FuncData} {ps : List Str} {sp : Sp} {E : XK} {CX : CXT} (hop : ∀ a b, compareOp op a b = richCompare op a b) (m : Meth X.K C (PySem.cmpInfo op).2.1 g)
    (F : FnOk X.prog X.w X.K X.mg X.base CX n g fd ps sp) (hr : Room n X.A) (hb : Binds X.K fd ps []) (hx : Passes CX X E) : OpR X (compareOp op) (rBin C sp E) := by
  intro pins s σ H x y v u Q I rx ry h
  obtain ⟨a, dx, fs, b, dy, gs, rfl, rfl, ha, hb', q⟩ := h
  cases (show v = Value.ref a from rx)
  cases (show u = Value.ref b from ry)
  obtain ⟨mA, O, _⟩ := ins_get I.hok ha
  obtain ⟨od, J, _⟩ := O.look
  obtain ⟨mA', O', _⟩ := ins_get I.hok hb'
  obtain ⟨od', J', _⟩ := O'.look
  obtain ⟨mm, hF⟩ := I.fr
  rw [hop]
  refine PySem.W.cmp_K (op := op) (tb := .ref C) hr.units0 hF I.ok.mod.kin J J'.type (by unfold PySem.W.notFirst; simp) m.at_ m.fn ?_
  refine wpAny_mono (run_fn (vs := [.ref a, .ref b]) (dvs := []) (ds := []) F hr hb .nil hx I (.cons rfl (.cons rfl .nil)) q) (fun w s' z => ?_) fun _ _ x => x
  obtain ⟨z', H', I', rz, qz⟩ := z
  exact SlX.cmpback rz ⟨z', H', I', rz, qz⟩
theorem rt_of {p q n d n' d' : Int} (h : Rt p q n d) (hd : d ≠ 0) (e : n * d' = n' * d) : Rt p q n' d' := by
  obtain ⟨h1, h2, h3⟩ := h
  refine ⟨h1, h2, Int.eq_of_mul_eq_mul_right hd ?_⟩
  grind
theorem lt_of {x : Int} {a b : Nat} (h : x.natAbs < 2 ^ a) (l : a ≤ b) : x.natAbs < 2 ^ b := Nat.lt_of_lt_of_le h (Nat.pow_le_pow_right (by decide) l)
theorem add_lt {x y : Int} {a : Nat} (h : x.natAbs < 2 ^ a) (g : y.natAbs < 2 ^ a) : (x + y).natAbs < 2 ^ (a + 1) := by
  rw [Nat.pow_succ]
  omega
theorem sub_lt {x y : Int} {a : Nat} (h : x.natAbs < 2 ^ a) (g : y.natAbs < 2 ^ a) : (x - y).natAbs < 2 ^ (a + 1) := by
  rw [Nat.pow_succ]
  omega
theorem rt_lt {p q u v a b c d : Int} (h : Rt p q a b) (g : Rt u v c d) (hb : 0 < b) (hd : 0 < d) : (p * v < u * q ↔ a * d < c * b) ∧ (p * v ≤ u * q ↔ a * d ≤ c * b) ∧ ((p = u ∧ q = v) ↔ a * d = c * b) := by
  obtain ⟨q0, _, e1⟩ := id h
  obtain ⟨v0, _, e2⟩ := id g
  have k1 : (p * v) * (b * d) = (a * d) * (q * v) := by grind
  have k2 : (u * q) * (b * d) = (c * b) * (q * v) := by grind
  have h1 : 0 < b * d := Int.mul_pos hb hd
  have h2 : 0 < q * v := Int.mul_pos q0 v0
  refine ⟨?_, ?_, ?_⟩
  · rw [← Int.mul_lt_mul_right h1, k1, k2, Int.mul_lt_mul_right h2]
  · rw [← Int.mul_le_mul_right h1, k1, k2, Int.mul_le_mul_right h2]
  · constructor
    · rintro ⟨rfl, rfl⟩
      have := k1.symm.trans k2
      exact Int.eq_of_mul_eq_mul_right (by omega) this
    · intro e
      exact rt_uniq h g (by omega) (by omega) e

section
open NdefX PySem.Calls
/-- the wrapper of ValueError.__init__ is called on an exception in the making -/
theorem mw_run {X : Cx} {pins : List (Addr × Obj)} {σ : L2.St} {H : Hp} {s : Shared} {E : Value → Shared → Prop} {u x C : Addr} {us : List Value} {Q : Value → Shared → Prop} (T : OexC X.K C) (I : Inv X pins σ H s) (e : H x = some (exo x C none))
    (hu : s.heap.get? u = some (PySem.W.kxs_mw "ValueError.__init__" x)) (hl : us.length ≤ sizeLine) (h : ∀ s', Inv X pins σ H s' → Q .none s') : wpAny (model X.prog X.w) X.A (call (.ref u) us) Q E s := by
  obtain ⟨nm, q, N, bs, bm, sn, sub, ab, col, dd, k0, k1, k2, k3, k5, hC, hbm⟩ := T.cls
  obtain ⟨t1, ho⟩ := exo_at I.hok e
  obtain ⟨hp, g, d, t, os⟩ := s
  refine wpAny_call (codeAny_of_tree ?_)
  show wpAny _ X.A.in1 (callAny (.ref u) ⟨us, []⟩) _ _ _
  simp only [callAny]
  refine wpAny_bind (wpAny_load hu ?_)
  have nz : (Value.type "method-wrapper" == Value.type "method" || Value.type "method-wrapper" == Value.type "builtin_function_or_method" || Value.type "method-wrapper" == Value.type "method-wrapper") = true := by decide
  simp only [PySem.W.kxs_mw, nz, if_true]
  refine PySem.W.KFB.if_so (by decide) ?_
  have fb := F.excBase_ValueError
  refine wpAny_bind (PySem.W.check_bound_init fb.toExcCallFacts (I.kIn _ _ hC) ho rfl ?_)
  refine wpAny_bind (wpAny_pure (wpAny_pure ⟨plainId_quiet fb.init.plain _, codeAny_builtin fb.initEntry ?_⟩))
  rw [Around.under_plainId fb.init.plain _]
  refine PySem.W.exc_init_tree (cls := .ref C) (t0 := t1) (dv := none) (c2 := .none) (c3 := .none) (b4 := .bool false) ho hl fun h' k hx _ => ?_
  have J := I.write (t' := t) (x := x) (e := x) (o := exo x C none) (by rw [e]; exact True.intro) (.inl rfl) k ⟨_, hx⟩ (exo_ok hx)
  have eu : upd H x (exo x C none) = H := funext fun b => by
    by_cases hb : b = x
    · rw [hb, upd_same, e]
    · rw [upd_ne hb]
  rw [eu] at J
  exact h _ J
theorem mw_with {M : Model} {A : Around} {E : Value → Shared → Prop} {s : Shared} {i : String} {u x : Addr} {pos : Pos} {env : Env} {e : Expr} {rest : List Expr} {Q : Value → Shared → Prop}
    (h : wpAny M A (spliced (backTo pos (starEach (e :: rest) env))) (fun vs s₁ => PySem.W.KxsAt i u x s₁.heap ∧ wpAny M A (call (.ref u) vs) Q E s₁) E s)
    (he : starEach (e :: rest) env = (false, eval e env) :: starEach rest env) (hpl : (backTo pos (starEach rest env)).any (·.1) = false) :
    wpAny M A (callWith pos (.ref u) [] (backTo pos (starEach (e :: rest) env)) []) Q E s := by
  rw [he] at h ⊢
  exact PySem.W.kxs_callWith (i := i) (x := x) (by show (false || (backTo pos (starEach rest env)).any (·.1)) = false; rw [hpl]; rfl) (evalArgs_plain h)

/-- a def of a class's body that begins with super().__init__(e ..), then goes on; the class at C closes over it by the cell at cc -/
theorem fn_super {CX : CXT} {P : Program} {w : World} {K : PySem.W.Frag} {mg : Str → Option Value} {base : Heap} {k : Nat} {f cc C cda : Addr} {name qual : Str} {params : Arguments} {scope : Scope} {dV kV doc pm ct oc cl ccl : Value} {an od cld cdd : Option Addr}
    {osl csl ccs : Array (Option Value)} {N ps : List Str} {sp : Sp} {e : Expr} {es : List Expr} {rest : List Stmt} {p0 p1 p2 p3 p4 : Pos} {vs2 : Array Value} {file : Str} {tf : Tok} {ar : Arg}
    (lk : K.lookup f = some ⟨oc, od, .func (PySem.W.ksFn name qual params (.Expr (.Call (.Attribute (.Call (.Name "super" p0) [] [] p1) "__init__" p2) (e :: es) [] p3) p4 :: rest) scope dV kV doc pm an (.ref cda) ct cc), osl⟩)
    (hcd : PySem.W.codeIn K (.ref cda) qual = true) (hcode : K.lookup cda = some ⟨ccl, cdd, .fields vs2, ccs⟩) (hvs : vs2[2]? = some (.str file tf)) (hfile : ((P.main.file : Str) == file) = true)
    (hcell : K.lookup cc = some ⟨cl, cld, .cell (some (.ref C)), csl⟩) (T : OexC K C) (hsup : PySem.W.ks_superIn K C C "__init__" = some (some (.builtin "ValueError.__init__")))
    (hB : PySem.W.subIn K (.ref C) (.type "ValueError") = some true) (hself : PySem.W.mroIn K C (.ref C) = some true) (hop : PySem.W.nsIn K cStatics "thirdparty.any" = some none)
    (hsn : mg "super" = none) (htop : (P.main.scope.names.lookup ("super" : Str)).isSome = false) (hp : (params.posonlyargs ++ params.args).head? = some ar) (hps : ps[0]? = some ar.arg)
    (S : NScope N ps ["__class__"] scope) (hks : scope.names.lookup ("super" : Str) = some .globalImplicit) (len : ∀ vs H Q E, sp vs H Q E → vs.length = ps.length)
    (hbody : ∀ (A : Around) (outer : List Env) (s : Shared) (H : Hp) (vs : List V) (Q : VK) (E : XK), Room k (A.deeper (envF ⟨name, qual, params, .Expr (.Call (.Attribute (.Call (.Name "super" p0) [] [] p1) "__init__" p2) (e :: es) [] p3) p4 :: rest, scope, [("__class__", cc)], cda⟩ f s.heap.objs.size)) → sp vs H Q E →
      ∃ ta t x, PA (ncx CX P w K mg base N ⟨name, qual, params, .Expr (.Call (.Attribute (.Call (.Name "super" p0) [] [] p1) "__init__" p2) (e :: es) [] p3) p4 :: rest, scope, [("__class__", cc)], cda⟩ f A outer s H E) (e :: es) ta ∧
        PSs (ncx CX P w K mg base N ⟨name, qual, params, .Expr (.Call (.Attribute (.Call (.Name "super" p0) [] [] p1) "__init__" p2) (e :: es) [] p3) p4 :: rest, scope, [("__class__", cc)], cda⟩ f A outer s H E) rest t ∧
        vs[0]? = some (.ref x) ∧ H x = some (exo x C none) ∧
        ta (startF N vs [none]) H fun ws H1 => ws.length ≤ 1000 ∧ H1 x = some (exo x C none) ∧ t { nx := fun _ H' => Q .non H', rt := Q } (startF N vs [none]) H1)
    (he : ∀ env : Env, starEach (e :: es) env = (false, eval e env) :: starEach es env) (hpl : ∀ env : Env, (backTo p3 (starEach es env)).any (·.1) = false)
    (hev : ∀ env : Env, ∃ pl : Sem Bool, eval (.Call (.Attribute (.Call (.Name "super" p0) [] [] p1) "__init__" p2) (e :: es) [] p3) env = (do
      let ov ← attributeBase (.Call (.Name "super" p0) [] [] p1) "__init__" env (eval (.Call (.Name "super" p0) [] [] p1) env)
      standAt p2.atName
      let (f, first) ← holding [ov] (getMethod ov "__init__" pl)
      callWith p3 f first (backTo p3 (starEach (e :: es) env)) []))
    (hsw : ∀ env : Env, swapsWith (.Call (.Attribute (.Call (.Name "super" p0) [] [] p1) "__init__" p2) (e :: es) [] p3) none p4.line env = pure false) :
    FnOk P w K mg base CX (k + 1) f (PySem.W.ksFn name qual params (.Expr (.Call (.Attribute (.Call (.Name "super" p0) [] [] p1) "__init__" p2) (e :: es) [] p3) p4 :: rest) scope dV kV doc pm an (.ref cda) ct cc) ps sp := by
  generalize hbd : (Stmt.Expr (.Call (.Attribute (.Call (.Name "super" p0) [] [] p1) "__init__" p2) (e :: es) [] p3) p4 :: rest) = bd at lk hbody ⊢
  refine ⟨len, fun A outer s H args us vs Q E hr e0 hb r hsp => ?_⟩
  have KX : K.In s.heap := e0.mod.kin.keeps fun b o e => (e0.bs b o e).1
  have hl := len _ _ _ _ hsp
  have lim : s.heap.NoLimit := e0.mod.nolimit.keeps fun b o e => (e0.bs b o e).1
  obtain ⟨ta, t, x, hta, ht, hv0, hx, hq⟩ := hbody A outer s H vs Q E (hr.deeper _) hsp
  have hself0 : scope.names.lookup ar.arg = some .local := S.par _ (List.mem_of_getElem? hps)
  refine PySem.ks_codeAny_call_defAt (fd := PySem.W.ksFn name qual params bd scope dV kV doc pm an (.ref cda) ct cc) hr.depth (KX _ _ lk) rfl lim (PySem.W.codeRec_of KX hcd) rfl hb S.nocell (fun ⟨n, _⟩ hy => S.par n (List.of_mem_zip hy).1) (fun h₁ hns kp => ?_) S.co S.gen S.kind
  have cin := e0.mod.kin _ _ hcell
  have Cc : CellsAt [(("__class__" : Str), cc)] ["__class__"] [none] s.heap H := by
    have lkc : ∀ (y : Str) (c : Addr), List.lookup y [(("__class__" : Str), cc)] = some c → y = "__class__" ∧ c = cc := fun y c z => by
      simp only [List.lookup] at z
      split at z
      · rename_i g
        exact ⟨by simpa using g, (Option.some.inj z).symm⟩
      · cases z
    refine ⟨rfl, fun y c z => ?_, fun y z c h1 h2 => (lkc y c h1).1.trans (lkc z c h2).1.symm, fun i y hi => ?_⟩
    · obtain ⟨_, rfl⟩ := lkc y c z
      exact ⟨(e0.bs _ _ cin).2, _, _, (e0.bs _ _ cin).1, rfl⟩
    · cases i with
      | zero =>
        obtain rfl : "__class__" = y := Option.some.inj hi
        exact ⟨cc, by simp [List.lookup], fun v z => by cases z⟩
      | succ i => simp at hi
  have I : Inv (ncx CX P w K mg base N ⟨name, qual, params, bd, scope, [("__class__", cc)], cda⟩ f A outer s H E) [] (startF N vs [none]) H { s with heap := h₁, toks := s.toks + (ps.zip us).length } :=
    inv_startN S hr.hd e0 hl r Cc hns kp
  subst hbd
  have Xk : K.In h₁ := I.kIn
  obtain ⟨ux, hux, rvx⟩ := r.get hv0
  obtain rfl : ux = Value.ref x := rvx
  have hkc : scope.names.lookup ("__class__" : Str) = some .free := S.frk _ (List.mem_singleton.mpr rfl)
  obtain ⟨nm, q, Nn, bs, bm, sn, sub, ab, col, dd, k0, k1, k2, k3, k5, hC, hbm⟩ := id T.cls
  have hcl : PySem.W.clsIn K C = some { name := nm, bases := bs, mro := .ref C :: bm, ns := Nn, qualname := q, hasDict := true, slotNames := sn, subclasses := sub, abstract := ab, collection := col, hasDel := false } := by unfold PySem.W.clsIn; rw [hC] <;> rfl
  obtain ⟨t1, ho⟩ := exo_at I.hok hx
  refine PySem.ks_wpAt_execs_cons (PySem.ks_wpAt_Expr_any ?_ (by show (scope.kind == .module && _) = false; rw [S.kind]; rfl) (hsw _))
  obtain ⟨pl, hev⟩ := hev (PySem.W.ksEnv qual scope s.heap.objs.size f (.ref cda) cc)
  refine PySem.ks_wpAt_MethodCall (pl := pl) ?_ hev
  refine PySem.ks_wpAt_super_base hks hkc rfl rfl (Xk _ _ lk) rfl hp rfl (Xk _ _ hcode) rfl hvs hfile htop ?_
  obtain ⟨mb, b1, b2⟩ := I.mod.blt
  refine PySem.W.ks_loadName_global S.kind hks (Calls.loadGlobal_builtin (I.mod.glob.keeps I.bk) hsn (b1.keeps I.bk) ((b2 "super" (by decide)).trans (by first | rfl | kernel_rfl | decide +kernel)) ⟨rfl, ?_⟩)
  refine wpAny_loadName_free S.kind hkc rfl ⟨_, Xk _ _ hcell, rfl⟩ ?_
  refine wpAny_loadName_local S.kind hself0 hns (v := .ref x) (zip_look ?nd hps hux) ?_
  case nd =>
    have z := S.nd.sublist (List.take_sublist (ps.length + 1) N)
    rw [show N.take (ps.length + 1) = ps ++ [("__class__" : Str)] from S.pre] at z
    exact (List.nodup_append.mp z).1
  refine PySem.ks_wpAny_isType_cls (Xk _ _ hC) rfl ⟨rfl, ?_⟩
  refine PySem.ks_wpAny_call_super (Xk _ _ hC) rfl ho rfl (fun c z => by cases z) (PySem.W.looks_mroIn Xk hself) (fun h2 e2 kp2 => ?_)
  have I2 := I.kept (t' := s.toks + (ps.zip us).length) kp2
  obtain ⟨t2, ho2⟩ := exo_at I2.hok hx
  have X2 : K.In h2 := I2.kIn
  have inst : PySem.W.InstAt h2 x ({ cls := .ref C, dict := none, data := .fields #[.ref t2, .none, .none, .none, .bool false, .none] } : Obj) C none := ⟨ho2, rfl, rfl, trivial⟩
  refine PySem.W.kxs_getMethod PySem.W.kxs_ValueError e2 (PySem.W.looks_opaque X2 hop) (l₀ := .ref C :: bm) ((PySem.W.looks_clsIn X2 hcl).andThen .now) (l := ((Value.ref C :: bm).dropWhile (· != .ref C)).drop 1) rfl X2 ?_ (inst.type.andThen (PySem.W.looks_subIn X2 hB)) ?_ (by rfl) ?_
  · unfold PySem.W.ks_superIn at hsup
    rw [hcl] at hsup
    exact hsup
  · exact PySem.W.ks_ne X2 inst hcl
  have up : ∀ b u, h2.get? b = some u → (h2.push (PySem.W.kxs_mw "ValueError.__init__" x)).get? b = some u := fun b u z => Heap.get?_push_of_some _ z
  have I3 := I2.kept (h' := h2.push (PySem.W.kxs_mw "ValueError.__init__" x)) (t' := s.toks + (ps.zip us).length + 1) up
  have hget : (h2.push (PySem.W.kxs_mw "ValueError.__init__" x)).get? h2.objs.size = some (PySem.W.kxs_mw "ValueError.__init__" x) := Heap.get?_push_size _ rfl
  have I4 := I3.pins_of (pins' := [(h2.objs.size, PySem.W.kxs_mw "ValueError.__init__" x)]) fun p hp => by
    obtain rfl := List.mem_singleton.mp hp
    exact ⟨hget, I2.hok.fresh (Nat.le_refl _), Nat.ne_of_gt I2.lt, I2.nofs (Nat.le_refl _), fun v z => by cases z⟩
  refine mw_with (i := "ValueError.__init__") (x := x) ?_ (he _) (hpl _)
  refine thn (hta.run p3 _ _ (startF N vs [none]) H _ I4 hq) fun ws s5 hh => ?_
  obtain ⟨vs5, H5, I5, r5, l5, hx5, q5⟩ := hh
  refine ⟨(I5.pin (h2.objs.size, PySem.W.kxs_mw "ValueError.__init__" x) (List.mem_append_right _ (List.mem_singleton.mpr rfl))).1, ?_⟩
  refine mw_run T I5 hx5 ((I5.pin (h2.objs.size, PySem.W.kxs_mw "ValueError.__init__" x) (List.mem_append_right _ (List.mem_singleton.mpr rfl))).1) (by rw [← Paired.length r5, sizeLine_eq]; omega) fun s6 I6 => ?_
  refine PySem.wpAt_of_wpAny (wpAny_mono (ht.run _ s6 (startF N vs [none]) H5 _ I6 q5) (fun fl s7 hs => ?_) fun e s7 hs => hs)
  have fin : ∀ {σ' : L2.St} {H' : Hp} {v : V} {u : Value} {pp : List (Addr × Obj)}, Inv (ncx CX P w K mg base N ⟨name, qual, params, Stmt.Expr (.Call (.Attribute (.Call (.Name "super" p0) [] [] p1) "__init__" p2) (e :: es) [] p3) p4 :: rest, scope, [("__class__", cc)], cda⟩ f A outer s H E) pp σ' H' s7 → L2.RelV v u → Q v H' → CE outer P w H s Q u s7 :=
    fun J rv q => ⟨_, _, J.os, J.bare, J.base, J.hok, rv, q⟩
  cases fl with
  | ret u => obtain ⟨v, σ', H', J, rv, q⟩ := hs; exact fin J rv q
  | next => obtain ⟨σ', H', J, q⟩ := hs; exact fin (v := V.non) (u := Value.none) J rfl q
  | brk => obtain ⟨_, _, _, q⟩ := hs; exact q.elim
  | cont => obtain ⟨_, _, _, q⟩ := hs; exact q.elim
end

/-! ### an own class of errors with one field -/
structure ErrC (K : PySem.W.Frag) (C a : Addr) (st : Stmt) (qual fld : Str) (fd : FuncData) : Prop where
  ox : OexC K C
  xf : XfC K C
  no : PySem.W.findIn K (.ref C) fld = some none
  ini : PySem.W.findIn K (.ref C) "__init__" = some (some (.ref a))
  ty : PySem.W.typeIn K (.ref a) = some (.type "function")
  fn : ∃ (oc kV doc pm ct ccl cl : Value) (od an cdd cld : Option Addr) (cda cc : Addr) (osl ccs csl : Array (Option Value)) (vs2 : Array Value) (tf : Tok), fd = PySem.W.ksFn "__init__" qual (defArgs st) (defBody st) (defScope st) .none kV doc pm an (.ref cda) ct cc ∧
    K.lookup a = some ⟨oc, od, .func fd, osl⟩ ∧ PySem.W.codeIn K (.ref cda) qual = true ∧ K.lookup cda = some ⟨ccl, cdd, .fields vs2, ccs⟩ ∧ vs2[2]? = some (.str "/claim/cut.py" tf) ∧ K.lookup cc = some ⟨cl, cld, .cell (some (.ref C)), csl⟩ ∧
    PySem.W.ks_superIn K C C "__init__" = some (some (.builtin "ValueError.__init__")) ∧ PySem.W.subIn K (.ref C) (.type "ValueError") = some true ∧ PySem.W.mroIn K C (.ref C) = some true ∧ PySem.W.nsIn K cStatics "thirdparty.any" = some none
/-- the program's file, and that its top has no name super -/
class PrOk (P : Program) : Prop where
  file : ((P.main.file : Str) == "/claim/cut.py") = true
  top : (P.main.scope.names.lookup ("super" : Str)).isSome = false
section
variable {CX : CXT} {P : Program} {w : World} {K : PySem.W.Frag} {mg : Str → Option Value} {base : Heap} {N : List Str} {qual : Str} {scope : Scope} {f : Addr} {cd : Value} {A : Around} {outer : List Env} {s : Shared} {H : Hp} {E : XK}
instance [h : PrOk P] : PrOk (cxOf CX P w K mg base N qual scope f cd A outer s H E).prog := h
instance {X : Cx} [h : PrOk X.prog] : PrOk X.nox.prog := h
instance {X : Cx} [h : PrOk X.prog] {pn : List (Addr × Obj)} {xe : Value → Shared → Prop} : PrOk (X.tr pn xe).prog := h
instance {X : Cx} [h : PrOk X.prog] {a : Addr} {pn : List (Addr × Obj)} : PrOk (X.suite a pn).prog := h
end
/-- X.__init__(self, v) -/
def spErr (C : Addr) (fld : Str) (ok : V → Prop) : Sp := fun vs H Q _ => ∃ x v, vs = [.ref x, v] ∧ H x = some (exo x C none) ∧ ok v ∧ ∀ dx, H dx = none → dx ≠ x → Q .non (upd (upd H dx (exd dx [(fld, v)])) x (exo x C (some dx)))
/-- what raise X(v) asks -/
theorem raise_ok {C : Addr} {fld : Str} {ok : V → Prop} {H1 : Hp} {v : V} {Q : XK} (hv : ok v) (k : ∀ d H', Same H1 H' → H1 d = none → H' d = some (.xd [(fld, v)]) → Q (.ref C) (some d) H') :
    [v].length ≤ 1000 ∧ ∀ a, H1 a = none → spErr C fld ok (.ref a :: ([v] ++ [])) (upd H1 a (exo a C none))
      (fun w H2 => w = .non ∧ ∃ (d : Addr) (fs : List (Str × V)), H2 a = some (exo a C (some d)) ∧ H2 d = some (exd d fs) ∧ H1 d = none ∧ Q (.ref C) (some d) (upd (del H2 a) d (.xd fs))) (fun _ _ _ => False) := by
  refine ⟨by show 1 ≤ 1000; decide, fun a na => ⟨a, v, rfl, upd_same, hv, fun dx nd ne => ⟨rfl, dx, [(fld, v)], upd_same, ?_, ?_, ?_⟩⟩⟩
  · rw [upd_ne ne, upd_same]
  · rw [upd_ne ne] at nd
    exact nd
  · have nd1 : H1 dx = none := by rw [upd_ne ne] at nd; exact nd
    refine k dx _ (fun b o e => ?_) nd1 upd_same
    have b1 : b ≠ dx := ne_of_none e nd1
    have b2 : b ≠ a := ne_of_none e na
    rw [upd_ne b1, del_ne b2, upd_ne b2, upd_ne b1, upd_ne b2]
    exact e
/-! ### try .. except x as n .. else -/
section
variable {X : Cx} {x n : Str} {c : Value} {i : Nat} {body suite orelse : List Stmt} {b1 : Stmt} {q1 q2 q3 : Pos} {tb : WX → TS} {ts : Addr → Value → Option Addr → TS} {Wout : WX} {u : TS}
def tTryE (K : PySem.W.Frag) (c : Value) (i : Nat) (tb : WX → TS) (ts : Addr → Value → Option Addr → TS) (Wout : WX) (u : TS) : TS := fun D σ H => tb (wAs K c i ts Wout D) { D with nx := u D } σ H
theorem ps_try_asE (ho : PSs X orelse u) (hs : X.stack = X.env :: X.outer) (hf : X.env.frame = some X.env.locals) (hN : X.N.Nodup) (hi : X.N[i]? = some n) (hl : X.env.kindOf n = some .local) (hc : Names X x c) (tk : Takes X Wout)
    (hb : ∀ (W : WX) (pn : List (Addr × Obj)) (xe : Value → Shared → Prop), Takes (X.tr pn xe) W → PassesOwn (model X.prog X.w) X.A X.env xe → PSs (X.tr pn xe) body (tb W))
    (hsu : ∀ (a : Addr) (oe : Obj) (cls : Value) (d : Option Addr) (pn : List (Addr × Obj)), Zc cls d oe → (∃ vs, oe.data = .fields vs) → PSs (X.suite a ((a, oe) :: pn)) (b1 :: suite) (ts a cls d)) :
    PS X (.Try body [.ExceptHandler (some (.Name x q1)) (some n) (b1 :: suite) q2] orelse [] q3) (tTryE X.K c i tb ts Wout u) := by
  -- without else first: what the clause does with an exception of the body
  refine ⟨fun pins s σ H D I h => wpAny_Try_except ?_⟩
  have ok := I.ok
  have afr : X.A.frames = some (X.env :: X.outer) := by rw [ok.frames, hs]
  let Ex : Value → Shared → Prop := fun e s₁ => wpAny (model X.prog X.w) X.A (noteFrame e X.env) (fun _ s₂ => wpAny (model X.prog X.w) X.A (setFlight e none) (fun _ s₃ => wpAny (model X.prog X.w) X.A (handleBy e X.env [.ExceptHandler (some (.Name x q1)) (some n) (b1 :: suite) q2]) (SP X pins D) X.xe s₃) X.xe s₂) X.xe s₁
  have catch_ : Takes (X.tr (X.pn ++ pins) Ex) (wAs X.K c i ts Wout D) := by
    rintro _ sh ⟨ea, G, sl, pp, τ, Hτ, cl, dd, rfl, Jt, nb, up, sky, na, os, ag, bo, hbo, hy, hn⟩
    have J := Jt.ofTry ok
    rw [show (X.tr (X.pn ++ pins) Ex).stack = X.env :: X.outer from hs] at sky
    refine Sky.land Zc.steady afr hf sky fun g3 f3 u3 => ?_
    have J3 := J.landed (s' := { sh with heap := g3 }) nb f3.1 (up.trans u3) os ag
    obtain ⟨ob, fv, eb, zb, db⟩ := f3.there
    have far : ea ∉ frs (X.env :: X.outer) := fun hm => by
      obtain ⟨_, o2, e2, k2⟩ := (show g3.FunFrames G (X.env :: X.outer) from f3.2.2.1).mem hm
      rw [eb] at e2
      cases e2
      exact k2 _ db
    have eL : ea ≠ X.env.locals := fun z => far (List.mem_filterMap.mpr ⟨X.env, .head _, by rw [hf, z]⟩)
    have eF : ea ∉ X.fs := fun hm => by
      obtain ⟨v, hv, q⟩ := List.mem_filterMap.mp hm
      exact far (List.mem_filterMap.mpr ⟨v, .tail _ hv, q⟩)
    have S3 := J3.suite eb db na eL eF
    refine wpAny_handleBy_cons (codeAny_handlers_test ?_) (fun q => by cases q)
    have tyE : PySem.W.Looks (model X.prog X.w) g3 (typeOf (.ref ea)) cl := fun _ _ _ _ kk q => wpAny_typeOf_ref (kk _ _ eb) (by rw [zb.1]; exact q)
    have isE := PySem.W.exm_one (M := model X.prog X.w) J3.kIn tyE hbo
    have named : ∀ {Q : Value → Shared → Prop} {E : Value → Shared → Prop}, Q c { sh with heap := g3 } → wpAny (model X.prog X.w) (X.A.mark (some (.ref ea))) (eval (.Name x q1) X.env) Q E { sh with heap := g3 } := fun q => by
      rcases hc with ⟨gl, dbg, hm | ⟨hm, hv, nn⟩⟩
      · exact ld_glob (X := X.suite ea ((ea, ob) :: (X.pn ++ pins))) S3 gl hm q dbg
      · exact ld_blt (X := X.suite ea ((ea, ob) :: (X.pn ++ pins))) S3 gl hm hv q nn dbg
    refine named (isE.here ?_)
    cases bo
    · refine wpAny_handleBy_nil ?_
      obtain ⟨_, _, _, oz, wz, tz, _, _, ez, _, dz, gz, _⟩ := id f3
      have up2 : wpAny (model X.prog X.w) X.A (setFlight (.ref ea) X.env.frame) (fun _ s4 => wpAny (model X.prog X.w) X.A (throw (.ref ea) : Sem Flow) (SP X pins D) X.xe s4) X.xe { sh with heap := g3 } := by
        rw [hf]
        exact HandSPX.setFlight_upZ f3 fun g4 h4 u4 => wpAny_throw (tk _ _ ⟨ea, G, sl, pins, τ, Hτ, cl, dd, rfl, J, nb, (up.trans u3).trans u4, .inr (.inr (by rw [hs]; exact h4)), na, os, ag, hn rfl⟩)
      unfold PySem.passOn
      refine wpAny_bind (wpAny_field ez dz gz ?_)
      rw [if_neg (show ¬ ((Value.ref tz == Value.none) = true) by simp)]
      first | exact wpAny_bind (wpAny_pure (wpAny_bind up2)) | exact wpAny_bind up2
    · refine codeAny_handlers_suite_as (HandSPX.lands_againZ f3 fun g4 f4 u4 => ?_)
      have J4 := J.landed (s' := { sh with heap := g4 }) nb f4.1 ((up.trans u3).trans u4) os ag
      obtain ⟨o4, v4, e4, z4, d4⟩ := f4.there
      refine store_ok (X := X.suite ea ((ea, o4) :: (X.pn ++ pins))) (v := .ref ea) (J4.suite e4 d4 na eL eF) hN hi (.inl hl) rfl (fun s5 S5 => ?_) (.inr hl)
      refine wpAny_mono ((hsu ea o4 cl dd (X.pn ++ pins) z4 ⟨_, d4⟩).run [] s5 _ Hτ _ S5 (hy rfl ea na)) (fun fl s6 hsp => ?_) fun _ _ z => z.elim
      cases fl
      case next => obtain ⟨_, _, S6, q6⟩ := hsp; exact gone_ok (S6.unsuite ok) hN hi hl fun s7 J7 => ⟨_, _, J7, q6⟩
      case brk => obtain ⟨_, _, S6, q6⟩ := hsp; exact gone_ok (S6.unsuite ok) hN hi hl fun s7 J7 => ⟨_, _, J7, q6⟩
      case cont => obtain ⟨_, _, S6, q6⟩ := hsp; exact gone_ok (S6.unsuite ok) hN hi hl fun s7 J7 => ⟨_, _, J7, q6⟩
      case ret w => obtain ⟨_, _, _, S6, r6, q6⟩ := hsp; exact gone_ok (S6.unsuite ok) hN hi hl fun s7 J7 => ⟨_, _, _, J7, r6, q6⟩
  refine wpAny_mono ((hb _ _ Ex catch_ PassesOwn.looking).run [] s σ H { D with nx := u D } (I.toTry _) h) (fun fl s1 hsp => ?_) fun _ _ z => z
  cases fl
  case next => obtain ⟨_, _, J, q⟩ := hsp; exact ho.run pins s1 _ _ D (J.ofTry ok) q
  case brk => obtain ⟨_, _, J, q⟩ := hsp; exact ⟨_, _, J.ofTry ok, q⟩
  case cont => obtain ⟨_, _, J, q⟩ := hsp; exact ⟨_, _, J.ofTry ok, q⟩
  case ret w => obtain ⟨_, _, _, J, r, q⟩ := hsp; exact ⟨_, _, _, J.ofTry ok, r, q⟩
end
section
variable {X : Cx} {x n : Str} {c : Value} {i : Nat} {body suite : List Stmt} {b1 : Stmt} {q1 q2 q3 : Pos} {tb : WX → TS} {ts : Addr → Value → Option Addr → TS} {Wout : WX}
def tTryA (K : PySem.W.Frag) (c : Value) (i : Nat) (tb : WX → TS) (ts : Addr → Value → Option Addr → TS) (Wout : WX) : TS := fun D σ H => tb (wAs K c i ts Wout D) D σ H
theorem ps_try_asN (hs : X.stack = X.env :: X.outer) (hf : X.env.frame = some X.env.locals) (hN : X.N.Nodup) (hi : X.N[i]? = some n) (hl : X.env.kindOf n = some .local) (hc : Names X x c) (tk : Takes X Wout)
    (hb : ∀ (W : WX) (pn : List (Addr × Obj)) (xe : Value → Shared → Prop), Takes (X.tr pn xe) W → PassesOwn (model X.prog X.w) X.A X.env xe → PSs (X.tr pn xe) body (tb W))
    (hsu : ∀ (a : Addr) (oe : Obj) (cls : Value) (d : Option Addr) (pn : List (Addr × Obj)), Zc cls d oe → (∃ vs, oe.data = .fields vs) → PSs (X.suite a ((a, oe) :: pn)) (b1 :: suite) (ts a cls d)) :
    PS X (.Try body [.ExceptHandler (some (.Name x q1)) (some n) (b1 :: suite) q2] [] [] q3) (tTryA X.K c i tb ts Wout) := ps_try_as hs hf hN hi hl hc tk hb hsu
end
/-! ### calls that may raise, wished for at the caller's slots -/
section
variable {X : Cx} {CX : CXT} {k : Nat} {f C : Addr} {fd : FuncData} {ps : List Str} {sp : Sp} {dvs : List V} {ds : List Value} {E : L2.St → XK} {x m : Str} {p pos apos : Pos} {e o : Expr} {es : List Expr} {ta : TE} {t : TA}
def tMethT (C : Addr) (m : Str) (sp : Sp) (dvs : List V) (E : L2.St → XK) (ta : TE) (t : TA) : TE := fun σ H Q => ta σ H fun x H1 => ∃ a dx fs, x = .ref a ∧ H1 a = some (.ins C dx fs) ∧ fs.lookup m = none ∧ t σ H1 fun vs H2 => sp (x :: (vs ++ dvs)) H2 Q (E σ)
theorem pe_methT {pl : Sem Bool} (he : PE X o ta) (c : Cls X.K C) (hm : Meth X.K C m f) (F : FnOk X.prog X.w X.K X.mg X.base CX k f fd ps sp) (hr : Room k X.A) (hb : Binds X.K fd ps ds) (hd : Vals dvs ds) (hx : ∀ σ, PassesAt CX X σ (E σ)) (ha : PA X (e :: es) t)
    (hst : starEach (e :: es) X.env = (false, eval e X.env) :: starEach es X.env := by rfl) (hpl : (backTo pos (starEach es X.env)).any (·.1) = false := by rfl)
    (ht : eval (.Call (.Attribute o m apos) (e :: es) [] pos) X.env = (eval o X.env >>= fun ov => standAt apos.atName >>= fun _ => holding [ov] (getMethod ov m pl) >>= fun z => callWith pos z.1 z.2 (backTo pos (starEach (e :: es) X.env)) (backToKw pos (keywordEach [] X.env))) := by rfl) :
    PE X (.Call (.Attribute o m apos) (e :: es) [] pos) (tMethT C m sp dvs E ta t) := by
  refine ⟨fun pins s σ H Q I h => PySem.W.methodCall_KW (pl := pl) (thn (he.run pins s σ H _ I h) fun w s1 hh => ?_) ht⟩
  obtain ⟨_, H1, I1, rx, a, dx, fs, rfl, ea, l, q⟩ := hh
  cases (show w = Value.ref a from rx)
  refine getmeth_ok I1 ea c hm l (PySem.W.callWith_K (first := [.ref a]) (h₀ := X.base) I.ok.mod.kin hm.kp (thn (ha.run pos pins s1 σ H1 _ I1 q) fun us s2 h2 => ?_) hst hpl)
  obtain ⟨vs, H2, I2, r, q2⟩ := h2
  exact ⟨I2.kIn, run_fnSD (us := .ref a :: us) (vs := .ref a :: vs) F hr hb hd (hx σ) I2 (.cons rfl r) q2⟩
def tMakeT (C : Addr) (sp : Sp) (dvs : List V) (E : L2.St → XK) (t : TA) : TE := fun σ H Q => t σ H fun vs H1 => ∀ x dx, H1 x = none → H1 dx = none → dx ≠ x → sp (.ref x :: (vs ++ dvs)) (upd (upd H1 dx (.own x)) x (.ins C dx [])) (fun v H2 => v = .non ∧ Q (.ref x) H2) (E σ)
theorem pe_makeT (M : Mk X.K C f) (F : FnOk X.prog X.w X.K X.mg X.base CX k f fd ps sp) (hr : Room (k + 1) X.A) (hg : Gl X x) (hm : X.mg x = some (.ref C)) (hb : Binds X.K fd ps ds) (hd : Vals dvs ds) (hx : ∀ σ, PassesAt CX X σ (E σ))
    (ha : PA X (e :: es) t) (hdb : (x == ("__debug__" : Str)) = false := by decide) (he : starEach (e :: es) X.env = (false, eval e X.env) :: starEach es X.env := by rfl) (hpl : (backTo pos (starEach es X.env)).any (·.1) = false := by rfl) :
    PE X (.Call (.Name x p) (e :: es) [] pos) (tMakeT C sp dvs E t) := by
  refine ⟨fun pins s σ H Q I h => wpAny_Call_Name_kw (ld_glob I hg hm (PySem.W.callWith_K (h₀ := X.base) I.ok.mod.kin M.kp (thn (ha.run pos pins s σ H _ I h) fun us s1 hh => ?_) he hpl) hdb)⟩
  obtain ⟨vs, H1, I1, r, q⟩ := hh
  refine ⟨I1.kIn, ?_⟩
  have q' := q (s1.heap.objs.size + 1) s1.heap.objs.size (I1.hok.fresh (Nat.le_succ _)) (I1.hok.fresh (Nat.le_refl _)) (Nat.ne_of_lt (Nat.lt_succ_self _))
  have made := Inv.made (C := C) I1
  have rr : Vals (V.ref (s1.heap.objs.size + 1) :: (vs ++ dvs)) (Value.ref (s1.heap.objs.size + 1) :: (us ++ ds)) := .cons rfl (r.append hd)
  have ln := rr.length
  rw [F.len _ _ _ _ q'] at ln
  have bb := hb _ (Value.ref (s1.heap.objs.size + 1) :: us) made.kIn ln.symm
  have run := F.run _ X.stack _ _ ⟨Value.ref (s1.heap.objs.size + 1) :: us, []⟩ _ _ _ (E σ) (hr.make C us []) (made.env0.make C us []) bb rr q'
  refine wpAny_call (make_map (f := f) I1.kIn M.makes M.init (beq_iff_eq.mp M.fn) (codeAny_mono run fun res s' hres => ?_))
  rcases res with er | fl
  · exact hx σ pins _ _ er s' made hres
  · cases fl
    case ret w =>
      obtain ⟨_, H', I3, rv, rfl, q3⟩ := made.after hres
      exact ⟨rv, V.ref (s1.heap.objs.size + 1), H', I3, rfl, q3⟩
    all_goals exact hres.elim
end

/-! ### defs called while an exception is handled (they raise nothing) -/
structure FnQ (P : Program) (w : World) (K : PySem.W.Frag) (mg : Str → Option Value) (base : Heap) (k : Nat) (f : Addr) (fd : FuncData) (ps : List Str) (sp : Sp) : Prop where
  size : ∀ vs H Q E, sp vs H Q E → vs.length = ps.length
  runs : ∀ (A : Around) (outer : List Env) (s : Shared) (H : Hp) (args : Args) (us : List Value) (vs : List V) (Q : VK) (E : XK), L2H.RoomH k A → Env0 P w K mg base A outer s H → BindsTo s fd args (ps.zip us) → Vals vs us → sp vs H Q E → codeAny (model P w) A (.call (.ref f) args) (CR CX0 outer P w H s Q E) s
def cxQ (P : Program) (w : World) (K : PySem.W.Frag) (mg : Str → Option Value) (base : Heap) (N : List Str) (qual : Str) (scope : Scope) (f : Addr) (cd : Value) (A : Around) (outer : List Env) (s : Shared) (H : Hp) (E : XK) : Cx :=
  { cxOf CX0 P w K mg base N qual scope f cd A outer s H E with calm := false }
instance {P : Program} {w : World} {K : PySem.W.Frag} {mg : Str → Option Value} {base : Heap} {N : List Str} {qual : Str} {scope : Scope} {f : Addr} {cd : Value} {A : Around} {outer : List Env} {s : Shared} {H : Hp} {E : XK} [h : PrOk P] : PrOk (cxQ P w K mg base N qual scope f cd A outer s H E).prog := h
theorem inv_cold {P : Program} {w : World} {K : PySem.W.Frag} {mg : Str → Option Value} {base : Heap} {N : List Str} {qual : Str} {scope : Scope} {f : Addr} {cd : Value} {A : Around} {outer : List Env} {s s1 : Shared} {H H1 : Hp} {E : XK} {pins : List (Addr × Obj)} {σ : L2.St}
    (I : Inv (cxOf CX0 P w K mg base N qual scope f cd { A with handled := none } outer s H E) pins σ H1 s1) (fr : A.frames = some outer) : Inv (cxQ P w K mg base N qual scope f cd A outer s H E) pins σ H1 s1 :=
  have o := I.ok
  ⟨⟨o.mod, o.kind, o.glob, o.blt, o.above, o.inj, o.has, o.cab, fun z => Bool.noConfusion (show false = true from z), Around.frames_deeper fr, o.stk, o.exf, o.bs, o.bsz, o.noex, o.exfs, o.funs, o.frf⟩, I.os, I.bare, I.base, I.loc, I.cell, I.free, I.freeC, I.pin, I.hok, I.len⟩
theorem fun_okQ {P : Program} {w : World} {K : PySem.W.Frag} {mg : Str → Option Value} {base : Heap} {x qual : Str} {st : Stmt} {f : Addr} {fd : FuncData} {N ps : List Str} {k : Nat} {sp : Sp} (F : Fun K x qual st f fd) (S : FnScope N ps (defScope st)) (len : ∀ vs H Q E, sp vs H Q E → vs.length = ps.length)
    (hbody : ∀ (cdv : Value) (A : Around) (outer : List Env) (s : Shared) (H : Hp) (vs : List V) (Q : VK) (E : XK), L2H.RoomH k (A.deeper (envOfC qual (defScope st) s.heap.objs.size f cdv)) → sp vs H Q E →
      ∃ t, PSs (cxQ P w K mg base N qual (defScope st) f cdv A outer s H E).nox (defBody st) t ∧ t { nx := fun _ H' => Q .non H', rt := Q } (start N vs) H) : FnQ P w K mg base (k + 1) f fd ps sp := by
  obtain ⟨a1, a2, a3, a4, a5, a6, cv, a7, a8, rfl, at_, code⟩ := F.ex
  refine ⟨len, fun A outer s H args us vs Q E hr e0 hb r h => ?_⟩
  have Kin : K.In s.heap := e0.mod.kin.keeps fun b o e => (e0.bs b o e).1
  have free : s.heap.NoLimit := e0.mod.nolimit.keeps fun b o e => (e0.bs b o e).1
  refine codeAny_call_function hr.depth (Kin _ _ at_) rfl S.co S.gen rfl (PySem.W.codeRec_of Kin code) (hb _ _ _ _ (wpAny_newFunctionEnv_cells S.kind (fun y hy => ?_) fun env he s1 z => ?_))
  · obtain ⟨n, v⟩ := y
    exact (S.par n (List.of_mem_zip hy).1).imp id fun q => ⟨q, PySem.W.cellsFrom_some _ _ _ (.inl q)⟩
  · subst he
    obtain ⟨t, ht, hq⟩ := hbody cv A outer s H vs Q E (hr.deeper _) h
    have e1 : Env0 P w K mg base { A with handled := none } outer s H := ⟨e0.frames, e0.mod, e0.bs, e0.bsz, e0.funs, e0.frf, e0.hok, e0.bare⟩
    have J := inv_cold (inv_start (CX := CX0) (E := E) (f := f) (cd := cv) S rfl e1 (len _ _ _ _ h) r z) e0.frames
    refine ⟨free.keeps z.toInCall.keep, codeAny_func (wpAny_mono (ht.nox.run [] s1 (start N vs) H _ J hq) (fun fl s2 hs => ?_) fun _ _ y => y)⟩
    cases fl
    case ret u => obtain ⟨v, _, H', J2, rv, q⟩ := hs; exact ⟨v, H', J2.os, J2.bare, J2.base, J2.hok, rv, q⟩
    case next => obtain ⟨_, H', J2, q⟩ := hs; exact ⟨V.non, H', J2.os, J2.bare, J2.base, J2.hok, (rfl : RelV V.non Value.none), q⟩
    case brk => obtain ⟨_, _, _, q⟩ := hs; exact q.elim
    case cont => obtain ⟨_, _, _, q⟩ := hs; exact q.elim
section
variable {X : Cx} {k : Nat} {f : Addr} {fd : FuncData} {ps : List Str} {sp : Sp} {x : Str} {q pos : Pos} {e : Expr} {es : List Expr} {t : TA}
def tTru (K : PySem.W.Frag) (ta : TE) : TT := fun σ H Q => ta σ H fun x H' => ∃ b, TruV K x H' b ∧ Q b H'
theorem pt_tru {a : Expr} {ta : TE} {ea : Addr} {pn : List (Addr × Obj)} (ha : PE (X.suite ea pn) a ta) (he : ∀ whole, isTrue a X.env whole = (whole >>= fun v => standAt a.pos >>= fun _ => holding [v] (truthy v))) : PT (X.suite ea pn) a (tTru X.K ta) := pt_truth (X := X.suite ea pn) ha he
theorem pe_fldS {o : Expr} {ta : TE} {g : Str} {ea : Addr} {pn : List (Addr × Obj)} {q0 : Pos} (h : PE (X.suite ea pn) o ta) (hb : attributeBase o g X.env (eval o X.env) = eval o X.env) : PE (X.suite ea pn) (.Attribute o g q0) (tFld X.K ta g) := pe_fld (X := X.suite ea pn) h hb
theorem roomS {X : Cx} {a : Addr} {pn : List (Addr × Obj)} {i j : Nat} (h : Room j X.A) (le : i ≤ j) : L2H.RoomH i (X.suite a pn).A := ⟨(h.mono le).dp, (h.mono le).un⟩
def tCallQ (sp : Sp) (t : TA) : TE := fun σ H Q => t σ H fun vs H1 => sp vs H1 Q (fun _ _ _ => False)
theorem pe_callQ (F : FnQ X.prog X.w X.K X.mg X.base k f fd ps sp) (hr : L2H.RoomH k X.A) (hg : Gl X x) (hm : X.mg x = some (.ref f)) (hk : PySem.W.keepIn X.K (.ref f) = true) (hb : Binds X.K fd ps [])
    (ha : PA X (e :: es) t) (hdb : (x == ("__debug__" : Str)) = false := by decide) (he : starEach (e :: es) X.env = (false, eval e X.env) :: starEach es X.env := by rfl) (hpl : (backTo pos (starEach es X.env)).any (·.1) = false := by rfl) :
    PE X (.Call (.Name x q) (e :: es) [] pos) (tCallQ sp t) := by
  refine ⟨fun pins s σ H Q I h => wpAny_Call_Name_kw (ld_glob I hg hm (PySem.W.callWith_K (h₀ := X.base) I.ok.mod.kin hk (thn (ha.run pos pins s σ H _ I h) fun us s1 hh => ?_) he hpl) hdb)⟩
  obtain ⟨vs, H1, I1, r, q1⟩ := hh
  have b := hb s1 us I1.kIn (by rw [List.append_nil, ← r.length]; exact F.size _ _ _ _ q1)
  rw [List.append_nil] at b
  refine ⟨I1.kIn, wpAny_call (codeAny_mono (F.runs X.A X.stack s1 H1 ⟨us, []⟩ us vs Q (fun _ _ _ => False) hr I1.env0 b r q1) fun res s2 hres => ?_)⟩
  rcases res with er | fl
  · exact hres.elim
  · cases fl
    case ret u => exact I1.after hres
    all_goals exact hres.elim
end
theorem exm_sup {K : PySem.W.Frag} {S B : Addr} (h1 : PySem.W.subIn K (.ref B) (.type "BaseException") = some true) (h2 : PySem.W.isClsIn K B = true) (h3 : PySem.W.typeIn K (.ref B) = some (.type "type")) (h4 : PySem.W.subIn K (.ref S) (.ref B) = some true) :
    PySem.W.exmOne K (.ref S) (.ref B) = some true := by
  unfold PySem.W.exmOne
  have e1 : (PySem.W.subIn K (.ref B) (.type "BaseException") == some true) = true := by rw [h1] <;> rfl
  have e2 : ((PySem.W.clsIn K B).isSome && PySem.W.typeIn K (.ref B) == some (.type "type")) = true := by
    rw [show (PySem.W.clsIn K B).isSome = true from h2, h3] <;> rfl
  rw [if_pos e1]
  show (if ((PySem.W.clsIn K B).isSome && PySem.W.typeIn K (.ref B) == some (.type "type")) = true then PySem.W.subIn K (.ref S) (.ref B) else none) = some true
  rw [if_pos e2]
  exact h4
theorem exm_self {K : PySem.W.Frag} {S : Addr} (h1 : PySem.W.subIn K (.ref S) (.type "BaseException") = some true) (h2 : PySem.W.isClsIn K S = true) (h3 : PySem.W.typeIn K (.ref S) = some (.type "type")) (h4 : PySem.W.subIn K (.ref S) (.ref S) = some true) :
    PySem.W.exmOne K (.ref S) (.ref S) = some true := exm_sup h1 h2 h3 h4
/-! ### isinstance of a caught error -/
structure ErrI (K : PySem.W.Frag) (D : Addr) : Prop where
  ha : PySem.W.findIn K (.ref D) "__class__" = some (some (.builtin "object.__class__"))
  hn : PySem.W.specialIn K (.builtin "object.__class__") "__get__" = some (some (.builtin "getset_descriptor.__get__"))
  ht : PySem.W.takesIn K (.builtin "object.__class__") = some true
  hm : PySem.W.mroIn K D (.type "object") = some true
section
open PySem.W PySem.Calls
variable {prog : Program} {w : World} {A : Around} {E : Value → Shared → Prop} {s : Shared} {K : Frag} {x D : Addr} {ox : Obj} {od : Option Obj}
theorem exc_class {Q : Option Value → Shared → Prop} (T : OexC K D) (F : XfC K D) (Y : ErrI K D) (X : K.In s.heap) (J : InstAt s.heap x ox D od) (h : Q (some (.ref D)) { s with toks := s.toks + 1 }) : wpAny (model prog w) A (getAttr? (.ref x) "__class__") Q E s := by
  have bound : findObj K D od "__class__" = some (.bind (.builtin "getset_descriptor.__get__") (.builtin "object.__class__")) := by
    obtain ⟨_, _, _, _, _, _, _, _, _, _, _, _, _, _, _, at_, _⟩ := T.cls
    unfold findObj clsIn
    rw [at_]
    simp only [Option.bind_some, Y.ha, Y.hn, Y.ht]
  obtain ⟨g0, a0, d0, t0, o0⟩ := s
  have ty := J.type (M := model prog w); have ga := looks_findIn (M := model prog w) X F.ga; have gg := looks_findIn (M := model prog w) X F.gg; have fd := looks_find (M := model prog w) X J bound
  have below : Looks (model prog w) g0 (isInstance (.ref x) (.type "BaseException")) true := ty.andThen (looks_subIn X F.exC)
  have b2 : (Value.builtin "BaseException.__getattribute__" == Value.builtin "object.__getattribute__") = false := by decide +kernel
  unfold getAttr? getAttrBy? getAttrBy
  refine wpAny_bind (wpAny_mkText (wpAny_bind (wpAny_attempt (wpAny_holding (wpAny_bind (ty.at (wpAny_bind (ga.at ?_))))))))
  show wpAny _ _ (ite ((onTheHeap (Value.ref D) && Value.builtin "BaseException.__getattribute__" == Value.builtin "object.__getattribute__") = true) _ _) _ _ _
  rw [b2, Bool.and_false, if_neg Bool.false_ne_true]
  unfold getAttrByItsOwn hookBefore; refine wpAny_bind ?_; rw [if_pos (show onTheHeap (Value.ref D) = true from rfl)]
  refine gg.at (wpAny_bind (wpAny_attempt (wpAny_holding ?_)))
  unfold callGetattribute; rw [show (false && onTheHeap (Value.builtin "BaseException.__getattribute__")) = false from rfl, if_neg Bool.false_ne_true]
  unfold boundAndCalled; rw [PySem.F.excAttr_ValueError.ga.bind (.ref x)]; refine wpAny_bind (wpAny_pure ?_)
  show wpAny _ _ (call (.builtin "BaseException.__getattribute__") [.ref x, .str "__class__" t0]) _ _ _
  refine wpAny_call (codeAny_call_builtin PySem.F.excAttr_ValueError.ga.plain PySem.F.entry_bexc_ga (@check_slot (model prog w) _ _ ⟨g0, a0, d0, t0 + 1, o0⟩ "BaseException.__getattribute__" "BaseException" "__getattribute__" (.ref x) [.str "__class__" t0] [] _ (by decide +kernel) (by decide +kernel) below (PySem.F.args_bexc_ga (.ref x) (.str "__class__" t0)) ?_))
  unfold Builtin.«object.__getattribute__»; refine wpAny_bind (wpAny_of_eq (a := ((Value.ref x : Value), [Value.str "__class__" t0])) (by first | rfl | (simp only [slotArgs]; rfl)) ?_)
  refine wpAny_bind (wpAny_pure (wpAny_bind (ty.at (wpAny_bind (fd.at ?_))))); show wpAny _ _ (holding [Value.builtin "object.__class__"] (call (.builtin "getset_descriptor.__get__") [.builtin "object.__class__", .ref x, .ref D]) >>= ret) _ _ _
  refine wpAny_bind (wpAny_holding (wpAny_call (class_get (s := ⟨g0, a0, d0, t0 + 1, o0⟩) X J Y.hm (wpAny_pure ?_)))); show wpAny _ _ (handedOut (.ref D)) _ _ _; rw [handedOut_of (v := .ref D) rfl]
  first | exact wpAny_pure (wpAny_pure h) | exact wpAny_pure h | exact wpAny_pure (wpAny_bind (wpAny_pure (wpAny_pure h)))
theorem kitx_err (T : OexC K D) (F : XfC K D) (Y : ErrI K D) : KitX K (.ref x) (.ref D) (fun h => ∃ od, InstAt h x ox D od) where
  ty := fun _ _ _ ⟨_, J⟩ => J.type
  it := fun _ _ X _ => by
    obtain ⟨_, _, _, _, _, _, _, _, _, _, _, _, _, _, _, at_, _⟩ := T.cls
    intro A' Q' E' s' k q
    exact PySem.ks_wpAny_isType_cls (k _ _ (X _ _ at_)) rfl q
  ne := fun h tp dd its n sl X htp => Bool.eq_false_iff.mpr fun q => by
    obtain ⟨_, _, _, _, _, _, _, _, _, _, _, _, _, _, _, at_, _⟩ := T.cls
    have e : D = tp := Value.ref.inj (beq_iff_eq.mp q)
    subst e
    have z := congrArg Obj.data (Option.some.inj ((X _ _ at_).symm.trans htp))
    cases z
  ca := fun X ⟨_, J⟩ k => exc_class T F Y X J k
theorem kit_own {C : Addr} {b : Bool} (h1 : subIn K (.ref D) (.ref C) = some b) (h2 : isClsIn K C = true) (h3 : typeIn K (.ref C) = some (.type "type")) (h4 : subIn K (.ref D) (.ref D) = some true) : kitOne K (.ref D) (.ref C) = some b := by
  unfold kitOne
  by_cases e : D = C
  · subst e
    rw [if_pos (beq_self_eq_true _), ← h1, h4]
  · rw [if_neg (show ¬ (Value.ref D == Value.ref C) = true from fun z => e (Value.ref.inj (beq_iff_eq.mp z)))]
    show (if ((clsIn K C).isSome && typeIn K (.ref C) == some (.type "type")) = true then subIn K (.ref D) (.ref C) else none) = some b
    rw [show (clsIn K C).isSome = true from h2, h3, if_pos (by rfl)]
    exact h1
theorem kit_val (h : subIn K (.ref D) (.type "ValueError") = some true) : kitOne K (.ref D) (.type "ValueError") = some true := by
  unfold kitOne
  rw [if_neg (show ¬ (Value.ref D == Value.type "ValueError") = true from fun z => by cases beq_iff_eq.mp z)]
  show (if kitMeta "ValueError" = true then subIn K (.ref D) (.type "ValueError") else none) = some true
  rw [if_pos (by decide +kernel)]
  exact h
theorem kit_nil : kitAny K (.ref D) [] = some false := rfl
theorem kit_cons {c : Value} {cs : List Value} {b : Bool} (h : kitOne K (.ref D) c = some false) (r : kitAny K (.ref D) cs = some b) : kitAny K (.ref D) (c :: cs) = some b := by
  unfold kitAny
  rw [h]
  exact r
end
/-- isinstance(e, C) and isinstance(e, (C1, ..)), e the caught error at a -/
def rIsXd (K : PySem.W.Frag) (cls : Value) (d : Option Addr) (a : Addr) : List V → Hp → VK → Prop := fun xs H Q => ∃ (D : Addr) (dd : Addr) (fs : List (Str × V)) (b : Bool), cls = .ref D ∧ d = some dd ∧ OexC K D ∧ XfC K D ∧ ErrI K D ∧ H dd = some (.xd fs) ∧
  ((∃ (c : V) (cv : Value), xs = [.ref a, c] ∧ (∀ u, RelV c u → u = cv) ∧ PySem.W.kitOne K (.ref D) cv = some b) ∨ (∃ (tp : Addr) (cs : List V) (ws : List Value), xs = [.ref a, .ref tp] ∧ H tp = some (.tup cs) ∧ (∀ us, Vals cs us → us = ws) ∧ PySem.W.kitAny K (.ref D) ws = some b)) ∧ Q (.bl b) H
theorem call_isX {X : Cx} {a : Addr} {oe : Obj} {cls : Value} {d : Option Addr} {pn : List (Addr × Obj)} (hz : Zc cls d oe) (hf : ∃ vs, oe.data = .fields vs) : CallR (X.suite a ((a, oe) :: pn)) (.builtin "isinstance") (rIsXd X.K cls d a) := by
  intro pins s σ H xs us Q I r h
  obtain ⟨D, dd, fs, b, rfl, rfl, T, F, Y, hd, way, q⟩ := h
  obtain ⟨hget, _⟩ := I.pin (a, oe) (List.mem_append.mpr (.inl List.mem_cons_self))
  obtain ⟨vs, hv⟩ := hf
  obtain ⟨mA, hns, _⟩ := (show ObjOk X.prog X.w H s.heap dd (.xd fs) from I.hok dd _ hd)
  obtain ⟨od, ho, _⟩ := lookIn_ns hns
  have J : ∃ od, PySem.W.InstAt s.heap a oe D od := ⟨some od, hget, hz.1, by unfold PySem.W.notCls; rw [hv] <;> rfl, by rw [hz.2]; exact ho⟩
  have Z := kitx_err (x := a) (ox := oe) T F Y
  rcases way with ⟨c, cv, rfl, hc, e⟩ | ⟨tp, cs, ws, rfl, ht, hw, e⟩
  · obtain ⟨u1, u2, rfl, r1, r2⟩ := vals2 r
    cases r1
    rw [hc _ r2]
    exact PySem.W.kia_one Z I.kIn J e (fun z => nomatch z) fun tk => ⟨.bl b, H, I.tok tk, rfl, q⟩
  · obtain ⟨u1, u2, rfl, r1, r2⟩ := vals2 r
    cases r1
    cases r2
    obtain ⟨_, its, rv, o, h1, h2, n, h3⟩ := (show ObjOk X.prog X.w H s.heap tp (.tup cs) from I.hok tp _ ht)
    rw [hw _ rv] at h3
    obtain ⟨oc, od', dt, sl⟩ := o
    simp only at h2 h3
    subst h2 h3
    exact PySem.W.kia_tup Z I.kIn J h1 e (fun z => nomatch z) fun tk => ⟨.bl b, H, I.tok tk, rfl, q⟩


/-! ### str(x) of an own class with __str__ -/
theorem call_strI {X : Cx} {C f : Addr} {k : Nat} {fd : FuncData} {ps : List Str} {sp : Sp} (m : Meth X.K C "__str__" f) (G : FnOk X.prog X.w X.K X.mg X.base CX0 k f fd ps sp) (bi : Binds X.K fd ps []) (hr : Room (k + 1) X.A) :
    CallR X (.type "str") (fun xs H Q => ∃ a dx fs, xs = [.ref a] ∧ H a = some (.ins C dx fs) ∧ sp [.ref a] H (fun v H' => ∃ z, v = .str z ∧ Q (.str z) H') E0) := by
  intro pins s σ H xs us Q I r h
  obtain ⟨a, dx, fs, rfl, ha, q⟩ := h
  obtain rfl := Vals.ref1 r
  obtain ⟨mA, O, _⟩ := ins_get I.hok ha
  obtain ⟨od, J, _⟩ := O.look
  have e0 := I.env0
  have b := bi s [.ref a] I.kIn (G.len _ _ _ _ q)
  have room : Room k X.A.in1.in1 := ⟨hr.hd, (hr.mono (Nat.le_succ k)).dp, by have := hr.un; show X.A.units + 1 + 1 + 16 * k + 200 < _; omega⟩
  refine PySem.W.kso_call (by have := hr.un; show X.A.units + 1 + 1 < _; omega) I.kIn J m.at_ m.fn (wpAny_call (codeAny_mono (G.run X.A.in1.in1 X.stack s H ⟨[.ref a], []⟩ [.ref a] [.ref a] _ E0 room ⟨I.ok.frames, e0.mod, e0.bs, e0.bsz, e0.funs, e0.frf, e0.hok, e0.bare⟩ b (.cons rfl .nil) q) fun rr s' hq => ?_))
  rcases rr with er | fl
  · exact hq.elim
  · cases fl
    case ret u =>
      obtain ⟨v, H', I', rv, z, rfl, qz⟩ := I.after (Q := fun v H' => ∃ z, v = .str z ∧ Q (.str z) H') hq
      obtain ⟨t, rfl⟩ := rv
      exact ⟨.str z, H', I', ⟨t, rfl⟩, qz⟩
    all_goals exact hq.elim


def Asc (x : Str) : Prop := ∀ c ∈ x.cps.toList, c < 128
theorem lt1 (a b : Nat) : ((⟨#[a]⟩ : Str).cps.toList < (⟨#[b]⟩ : Str).cps.toList) ↔ a < b := by
  show [a] < [b] ↔ a < b
  constructor
  · intro h
    rcases List.cons_lt_cons_iff.mp h with h | ⟨_, h⟩
    · exact h
    · exact absurd h (by simp)
  · intro h
    exact List.cons_lt_cons_iff.mpr (.inl h)
theorem asc_isascii {x : Str} (h : Asc x) : Txt.isascii x = true := by
  unfold Txt.isascii
  rw [Array.all_eq_true_iff_forall_mem]
  intro c m
  exact decide_eq_true (h c (Array.mem_toList_iff.mpr m))
theorem digit128 : ∀ c, c < 128 → PySem.Unicode.isDigit c = (decide (48 ≤ c) && decide (c ≤ 57)) := by decide +kernel
theorem isdigit_iff {x : Str} (h : Asc x) : Txt.isdigit x = true ↔ (NumText.AllDigits x.cps.toList ∧ x.cps.toList ≠ []) := by
  unfold Txt.isdigit
  rw [Bool.and_eq_true, Array.all_eq_true_iff_forall_mem, decide_eq_true_eq]
  constructor
  · rintro ⟨h1, h2⟩
    refine ⟨fun c m => ?_, fun z => ?_⟩
    · have h3 := h2 c (Array.mem_toList_iff.mp m)
      rw [digit128 c (h c m), Bool.and_eq_true, decide_eq_true_eq, decide_eq_true_eq] at h3
      exact h3
    · have h4 : 0 < x.cps.toList.length := h1
      rw [z] at h4
      exact Nat.lt_irrefl 0 h4
  · rintro ⟨h1, h2⟩
    refine ⟨List.length_pos_iff.mpr h2, fun c m => ?_⟩
    have m' := Array.mem_toList_iff.mpr m
    have h3 := h1 c m'
    rw [digit128 c (h c m'), Bool.and_eq_true, decide_eq_true_eq, decide_eq_true_eq]
    exact h3
theorem dv_snoc (l : List Nat) (c : Nat) : NumText.digitsVal (l ++ [c]) = NumText.digitsVal l * 10 + (c - 48) := by
  unfold NumText.digitsVal
  rw [List.foldl_append]
  rfl
theorem pick {ss : List Str} {r : Int} (h0 : 0 ≤ r) (h1 : r < (ss.length : Int)) : ∃ w, w ∈ ss ∧ atI (ss.map V.str) r = some (.str w) := by
  have hlt : r.toNat < ss.length := by omega
  refine ⟨ss[r.toNat], List.getElem_mem hlt, at_ofG (j := r.toNat) (by omega) ?_⟩
  rw [List.getElem?_map, List.getElem?_eq_getElem hlt]
  rfl
theorem pickS {z : Str} {r : Int} (h0 : 0 ≤ r) (h1 : r < (z.length : Int)) : ∃ c, c ∈ z.cps.toList ∧ atI z.cps.toList r = some c := by
  have hz : z.length = z.cps.toList.length := rfl
  have hlt : r.toNat < z.cps.toList.length := by omega
  exact ⟨z.cps.toList[r.toNat], List.getElem_mem hlt, at_ofG (j := r.toNat) (by omega) (List.getElem?_eq_getElem hlt)⟩
def ascB (n : Nat) (ss : List Str) : Bool := ss.all fun w => decide (w.length ≤ n) && w.cps.toList.all fun c => decide (c < 128)
theorem asc_of {n : Nat} {ss : List Str} (h : ascB n ss = true) {w : Str} (m : w ∈ ss) : Asc w ∧ w.length ≤ n := by
  have h1 := List.all_eq_true.mp h w m
  rw [Bool.and_eq_true, decide_eq_true_eq] at h1
  exact ⟨fun c hc => of_decide_eq_true (List.all_eq_true.mp h1.2 c hc), h1.1⟩
theorem app_list (a b : Str) : (a ++ b).cps.toList = a.cps.toList ++ b.cps.toList := by
  show (a.cps ++ b.cps).toList = _
  simp
theorem app_len (a b : Str) : (a ++ b).length = a.length + b.length := by
  show (a ++ b).cps.toList.length = a.cps.toList.length + b.cps.toList.length
  rw [app_list, List.length_append]
theorem app_asc {a b : Str} (h : Asc a) (g : Asc b) : Asc (a ++ b) := by
  intro c m
  rw [app_list] at m
  rcases List.mem_append.mp m with m | m
  · exact h c m
  · exact g c m
theorem one_asc {c : Nat} (h : c < 128) : Asc ⟨#[c]⟩ := by
  intro d m
  have m' : d ∈ [c] := m
  rw [List.mem_singleton.mp m']
  exact h
theorem cutS_asc {z : Str} (h : Asc z) (lo hi : Option Int) : Asc (cutS z lo hi) := by
  intro c m
  have m' : c ∈ (((z.cps.toList.drop (HT.sIx z.length 0 lo)).take (HT.sIx z.length z.length hi - HT.sIx z.length 0 lo)).toArray).toList := m
  rw [List.toList_toArray] at m'
  exact h c (List.mem_of_mem_drop (List.mem_of_mem_take m'))
theorem log_small {n : Nat} (h : n < 10 ^ 101) : ((n : Nat) : Int).natAbs.log2 < 1920 := by
  rw [Int.natAbs_natCast]
  have : n.log2 ≤ 1919 := PySem.W.mg_log (Nat.lt_of_lt_of_le h (by decide +kernel))
  omega
theorem ge1 {a b : Nat} : ((!decide ((⟨#[a]⟩ : Str).cps.toList < (⟨#[b]⟩ : Str).cps.toList)) = true) ↔ b ≤ a := by
  rw [Bool.not_eq_true', decide_eq_false_iff_not, lt1]
  omega
def joinC : List (List Nat) → List Nat
  | [] => []
  | [a] => a
  | a :: b :: r => a ++ 47 :: joinC (b :: r)
theorem tw_free : ∀ (a r : List Nat), 47 ∉ a → (a ++ 47 :: r).takeWhile (fun c => c != 47) = a ∧ (a ++ 47 :: r).dropWhile (fun c => c != 47) = 47 :: r
  | [], r, _ => by simp
  | x :: a, r, h => by
    have hx : x ≠ 47 := fun e => h (by rw [e]; exact List.mem_cons_self)
    have ih := tw_free a r fun m => h (List.mem_cons_of_mem x m)
    have bx : (x != 47) = true := by simpa using hx
    rw [List.cons_append, List.takeWhile_cons, List.dropWhile_cons, if_pos bx, if_pos bx, ih.1, ih.2]
    exact ⟨rfl, rfl⟩
theorem tw_all : ∀ (a : List Nat), 47 ∉ a → a.takeWhile (fun c => c != 47) = a ∧ a.dropWhile (fun c => c != 47) = []
  | [], _ => by simp
  | x :: a, h => by
    have hx : x ≠ 47 := fun e => h (by rw [e]; exact List.mem_cons_self)
    have ih := tw_all a fun m => h (List.mem_cons_of_mem x m)
    have bx : (x != 47) = true := by simpa using hx
    rw [List.takeWhile_cons, List.dropWhile_cons, if_pos bx, if_pos bx, ih.1, ih.2]
    exact ⟨rfl, rfl⟩
theorem join_uniq : ∀ (ps qs : List (List Nat)), ps ≠ [] → qs ≠ [] → (∀ p ∈ ps, 47 ∉ p) → (∀ p ∈ qs, 47 ∉ p) → joinC ps = joinC qs → ps = qs
  | [], _, h, _, _, _, _ => absurd rfl h
  | _, [], _, h, _, _, _ => absurd rfl h
  | [a], [b], _, _, _, _, e => by
    have e' : a = b := e
    rw [e']
  | [a], b :: c :: r, _, _, ha, hb, e => by
    have e' : a = b ++ 47 :: joinC (c :: r) := e
    have h1 := tw_all a (ha a List.mem_cons_self)
    have h2 := tw_free b (joinC (c :: r)) (hb b List.mem_cons_self)
    rw [← e', h1.2] at h2
    cases h2.2
  | a :: c :: r, [b], _, _, ha, hb, e => by
    have e' : a ++ 47 :: joinC (c :: r) = b := e
    have h1 := tw_all b (hb b List.mem_cons_self)
    have h2 := tw_free a (joinC (c :: r)) (ha a List.mem_cons_self)
    rw [e', h1.2] at h2
    cases h2.2
  | a :: c :: r, b :: d :: u, _, _, ha, hb, e => by
    have e' : a ++ 47 :: joinC (c :: r) = b ++ 47 :: joinC (d :: u) := e
    have h1 := tw_free a (joinC (c :: r)) (ha a List.mem_cons_self)
    have h2 := tw_free b (joinC (d :: u)) (hb b List.mem_cons_self)
    rw [e'] at h1
    have eab : a = b := h1.1.symm.trans h2.1
    have et : joinC (c :: r) = joinC (d :: u) := by
      have q := h1.2.symm.trans h2.2
      injection q
    have ih := join_uniq (c :: r) (d :: u) (by simp) (by simp) (fun p m => ha p (List.mem_cons_of_mem _ m)) (fun p m => hb p (List.mem_cons_of_mem _ m)) et
    rw [eab, ih]
theorem cps_inj : ∀ {ws us : List Str}, ws.map (·.cps.toList) = us.map (·.cps.toList) → ws = us
  | [], [], _ => rfl
  | [], _ :: _, h => by simp at h
  | _ :: _, [], h => by simp at h
  | w :: ws, u :: us, h => by
    rw [List.map_cons, List.map_cons] at h
    injection h with h1 h2
    rw [ext_toList h1, cps_inj h2]
theorem join_cps : ∀ ws : List Str, (Str.join ⟨#[47]⟩ ws).cps.toList = joinC (ws.map (·.cps.toList))
  | [] => rfl
  | [a] => rfl
  | a :: b :: r => by
    have ih := join_cps (b :: r)
    show ((a ++ (⟨#[47]⟩ : Str)) ++ Str.join ⟨#[47]⟩ (b :: r)).cps.toList = a.cps.toList ++ 47 :: joinC ((b :: r).map (·.cps.toList))
    rw [← ih]
    show ((a.cps ++ #[47]) ++ (Str.join ⟨#[47]⟩ (b :: r)).cps).toList = _
    simp
def numT (i : Int) : List Nat := if i < 0 then 45 :: TL.numL i.natAbs else TL.numL i.natAbs
theorem numT_pos {i : Int} (h : 0 ≤ i) : numT i = TL.numL i.natAbs := by
  unfold numT
  rw [if_neg (by omega)]
theorem numT_neg {i : Int} (h : i < 0) : numT i = 45 :: TL.numL i.natAbs := by
  unfold numT
  rw [if_pos h]
theorem str_numT (i : Int) : (Str.ofString (toString i)).cps.toList = numT i := by
  cases i with
  | ofNat n =>
    rw [numT_pos (by simp)]
    exact TL.tl_num n
  | negSucc n =>
    rw [numT_neg (Int.negSucc_lt_zero n)]
    have h := TL.tl_num (n + 1)
    have e : toString (Int.negSucc n) = "-" ++ toString ((n + 1 : Nat) : Int) := rfl
    have e2 : (Str.ofString ("-" ++ toString ((n + 1 : Nat) : Int))).cps.toList = 45 :: (Str.ofString (toString ((n + 1 : Nat) : Int))).cps.toList := by
      have b : "-".toByteArray.data.toList = [45] := by decide +kernel
      simp only [Str.ofString, String.toByteArray_append, ByteArray.data_append, Array.toList_append, b, List.toList_toArray]
      rfl
    rw [e, e2]
    exact congrArg (45 :: ·) h
/-- a number of at most sixty digits, leading zeros or not -/
def Dig (w : Str) : Prop := w.length ≤ 60 ∧ NumText.AllDigits w.cps.toList ∧ w.cps.toList ≠ []
theorem dv_lt : ∀ (n : Nat) (l : List Nat), l.length = n → NumText.AllDigits l → NumText.digitsVal l < 10 ^ n
  | 0, l, h, _ => by
    rw [List.eq_nil_of_length_eq_zero h]
    decide
  | n + 1, l, h, g => by
    have hne : l ≠ [] := fun z => by rw [z] at h; cases h
    obtain ⟨i, c, rfl⟩ : ∃ i c, l = i ++ [c] := ⟨l.dropLast, l.getLast hne, (List.dropLast_concat_getLast hne).symm⟩
    have hl : i.length = n := by simpa using h
    have ih := dv_lt n i hl fun c m => g c (List.mem_append_left _ m)
    have hc := g c (List.mem_append_right _ (List.mem_singleton.mpr rfl))
    rw [dv_snoc, Nat.pow_succ]
    omega
theorem dv_60 {l : List Nat} (h : l.length ≤ 60) (g : NumText.AllDigits l) : NumText.digitsVal l < 10 ^ 60 :=
  Nat.lt_of_lt_of_le (dv_lt _ l rfl g) (Nat.pow_le_pow_right (by decide) h)
theorem numL_canon {l : List Nat} (g : NumText.AllDigits l) (hn : l ≠ []) (h : l = [48] ∨ l.head? ≠ some 48) : TL.numL (NumText.digitsVal l) = l := by
  have back : (l.map Char.ofNat).map Char.toNat = l := by
    rw [List.map_map]
    refine (List.map_congr_left fun c m => ?_).trans (List.map_id l)
    have hc := g c m
    show (Char.ofNat c).toNat = c
    have : ∀ c, c < 58 → (Char.ofNat c).toNat = c := by decide
    exact this c (by omega)
  unfold TL.numL
  obtain ⟨n, hl⟩ : ∃ n, l.length = n + 1 := ⟨l.length - 1, by have := List.length_pos_iff.mpr hn; omega⟩
  rw [NumText.toDigits_digitsVal n l hl g ?_, back]
  rcases h with h | h
  · left
    rw [h] at hl
    simpa using hl.symm
  · right
    cases l with
    | nil => exact absurd rfl hn
    | cons c r =>
      refine ⟨c, r, rfl, ?_⟩
      have hc := g c List.mem_cons_self
      have : c ≠ 48 := fun z => h (by rw [z]; rfl)
      omega
theorem numL_head : ∀ (n : Nat), 0 < n → (TL.numL n).head? ≠ some 48 := by
  intro n
  induction n using Nat.strongRecOn with
  | _ n ih =>
    intro h
    by_cases c : n < 10
    · rw [TL.numL_lt c]
      intro z
      have : 48 + n = 48 := Option.some.inj z
      omega
    · rw [TL.numL_step (by omega)]
      have h1 := ih (n / 10) (by omega) (by omega)
      intro z
      apply h1
      have hne := TL.numL_ne (n / 10)
      cases e : TL.numL (n / 10) with
      | nil => exact absurd e hne
      | cons a r => rw [e] at z; exact z
theorem numL_can (n : Nat) : TL.numL n = [48] ∨ (TL.numL n).head? ≠ some 48 := by
  by_cases h : n = 0
  · subst h; exact .inl (TL.numL_lt (by decide))
  · exact .inr (numL_head n (by omega))
theorem numL_60 {n : Nat} (h : n < 10 ^ 60) : (TL.numL n).length ≤ 60 := TL.numL_len (by decide) h
theorem no47 (n : Nat) : 47 ∉ TL.numL n := TL.numL_free (.inl (by decide))
theorem no45 (n : Nat) : 45 ∉ TL.numL n := TL.numL_free (.inl (by decide))
theorem numT_no47 (i : Int) : 47 ∉ numT i := by
  unfold numT
  split
  · intro m
    rcases List.mem_cons.mp m with h | h
    · cases h
    · exact no47 _ h
  · exact no47 _
theorem numT_inj {i j : Int} (h : numT i = numT j) : i = j := by
  unfold numT at h
  split at h
  · split at h
    · injection h with _ h
      have := TL.numL_inj h
      omega
    · exact absurd (by rw [← h]; exact List.mem_cons_self) (no45 _)
  · split at h
    · exact absurd (by rw [h]; exact List.mem_cons_self) (no45 _)
    · have := TL.numL_inj h
      omega
/-- the text of a fraction -/
def ratT (p q : Int) : List Nat := if q = 1 then numT p else numT p ++ 47 :: numT q
/-- the text is that of a fraction of at most sixty digits above and below -/
def Acc (x : Str) (p q : Int) : Prop := x.cps.toList = ratT p q ∧ 0 < q ∧ Nat.gcd p.natAbs q.natAbs = 1 ∧ p.natAbs < 10 ^ 60 ∧ q.natAbs < 10 ^ 60
theorem cut47 {a b c d : List Nat} (ha : 47 ∉ a) (hc : 47 ∉ c) (h : a ++ 47 :: b = c ++ 47 :: d) : a = c ∧ b = d := by
  have h1 := tw_free a b ha
  have h2 := tw_free c d hc
  rw [h] at h1
  refine ⟨h1.1.symm.trans h2.1, ?_⟩
  have q := h1.2.symm.trans h2.2
  injection q
theorem ratT_inj {p q p' q' : Int} (h : ratT p q = ratT p' q') : p = p' ∧ q = q' := by
  unfold ratT at h
  split at h
  · split at h
    · rename_i e1 e2
      exact ⟨numT_inj h, e1.trans e2.symm⟩
    · exact absurd (by rw [h]; exact List.mem_append_right _ List.mem_cons_self) (numT_no47 p)
  · split at h
    · exact absurd (by rw [← h]; exact List.mem_append_right _ List.mem_cons_self) (numT_no47 p')
    · obtain ⟨h1, h2⟩ := cut47 (numT_no47 p) (numT_no47 p') h
      exact ⟨numT_inj h1, numT_inj h2⟩
theorem acc_uniq {x : Str} {p q p' q' : Int} (h : Acc x p q) (g : Acc x p' q') : p = p' ∧ q = q' := ratT_inj (h.1.symm.trans g.1)
/-- what the program cuts the text into -/
structure CutP (x a u : Str) : Prop where
  aa : Asc a
  au : Asc u
  la : a.length ≤ 600
  lu : u.length ≤ 600
  ac : ∀ p q, Acc x p q → a.cps.toList = numT p ∧ u.cps.toList = numT q
def slashS : Str := "/"
theorem slash_l : slashS.cps.toList = [47] := by decide +kernel
theorem cut_none {x : Str} (hx : Asc x) (hl : x.length ≤ 600) (h : 47 ∉ x.cps.toList) : Txt.partition x slashS = (x, Str.empty, Str.empty) ∧ CutP x x "1" := by
  refine ⟨TL.partition_none (S := []) slash_l h, hx, ?_, hl, by decide, fun p q k => ?_⟩
  · have : ∀ c ∈ ("1" : Str).cps.toList, c < 128 := by decide +kernel
    exact this
  · have q1 : q = 1 := by
      have e := k.1
      unfold ratT at e
      split at e
      · assumption
      · exact absurd (by rw [e]; exact List.mem_append_right _ List.mem_cons_self) h
    subst q1
    refine ⟨?_, by decide +kernel⟩
    have e := k.1
    unfold ratT at e
    rw [if_pos rfl] at e
    exact e
theorem first47 : ∀ z : List Nat, 47 ∈ z → ∃ l r, z = l ++ 47 :: r ∧ 47 ∉ l
  | [], h => by cases h
  | c :: z, h => by
    by_cases hc : c = 47
    · subst hc; exact ⟨[], z, rfl, by simp⟩
    · have h' : 47 ∈ z := by
        rcases List.mem_cons.mp h with m | m
        · exact absurd m.symm hc
        · exact m
      obtain ⟨l', r', e', n'⟩ := first47 z h'
      refine ⟨c :: l', r', by rw [e']; rfl, fun m => ?_⟩
      rcases List.mem_cons.mp m with m | m
      · exact hc m.symm
      · exact n' m
theorem cut_some {x : Str} (hx : Asc x) (hl : x.length ≤ 600) (h : 47 ∈ x.cps.toList) : ∃ a b : Str, Txt.partition x slashS = (a, slashS, b) ∧ CutP x a b := by
  obtain ⟨l, r, e, hn⟩ := first47 _ h
  have el : (⟨l.toArray⟩ : Str).cps.toList = l := List.toList_toArray
  have er : (⟨r.toArray⟩ : Str).cps.toList = r := List.toList_toArray
  have ex : x = (⟨l.toArray⟩ : Str) ++ slashS ++ ⟨r.toArray⟩ := ext_toList (by
    rw [app_list, app_list, el, er, slash_l, e, List.append_assoc]
    rfl)
  have hlen : x.length = l.length + (r.length + 1) := by
    show x.cps.toList.length = _
    rw [e, List.length_append, List.length_cons]
  refine ⟨⟨l.toArray⟩, ⟨r.toArray⟩, ?_, fun c m => ?_, fun c m => ?_, ?_, ?_, fun p q k => ?_⟩
  · rw [ex]
    exact TL.partition_app (S := []) slash_l (by show 47 ∉ (⟨l.toArray⟩ : Str).cps.toList; rw [el]; exact hn)
  · rw [el] at m
    exact hx c (by rw [e]; exact List.mem_append_left _ m)
  · rw [er] at m
    exact hx c (by rw [e]; exact List.mem_append_right _ (List.mem_cons_of_mem _ m))
  · show (⟨l.toArray⟩ : Str).cps.toList.length ≤ 600
    rw [el]; omega
  · show (⟨r.toArray⟩ : Str).cps.toList.length ≤ 600
    rw [er]; omega
  · rw [el, er]
    have z := k.1
    unfold ratT at z
    split at z
    · exact absurd (by rw [← z]; exact h) (numT_no47 p)
    · rw [e] at z
      exact cut47 hn (numT_no47 p) z
/-- a minus sign taken off -/
theorem strip_eq (x : Str) : (Txt.removeprefix x "-").cps.toList = (match x.cps.toList with | 45 :: r => r | l => l) := by
  rw [StrLaws.removeprefix_eq, StrLaws.subAt_eq]
  have l1 : ("-" : Str).length = 1 := by decide +kernel
  have e1 : ("-" : Str).cps.toList = [45] := by decide +kernel
  have hx : x.length = x.cps.toList.length := rfl
  rw [l1, e1, hx]
  cases h : x.cps.toList with
  | nil => simp [h]
  | cons c r =>
    by_cases hc : c = 45
    · subst hc
      simp
    · have : ((List.take 1 (List.drop 0 (c :: r))) == [45]) = false := by
        simp [hc]
      rw [this, Bool.and_false, if_neg (by decide), h]
      split
      · rename_i q; injection q with q _; exact absurd q hc
      · rfl
theorem strip_or (x : Str) : (∃ r, x.cps.toList = 45 :: r ∧ (Txt.removeprefix x "-").cps.toList = r) ∨ ((∀ r, x.cps.toList ≠ 45 :: r) ∧ (Txt.removeprefix x "-").cps.toList = x.cps.toList) := by
  have e := strip_eq x
  split at e
  · rename_i r er
    exact .inl ⟨r, er, e⟩
  · rename_i n
    exact .inr ⟨n, e⟩
theorem strip_num {x : Str} {p : Int} (h : x.cps.toList = numT p) : (Txt.removeprefix x "-").cps.toList = TL.numL p.natAbs := by
  rw [strip_eq, h]
  unfold numT
  split
  · rename_i r e
    split at e
    · injection e with _ e
      exact e.symm
    · exact absurd (by rw [e]; exact List.mem_cons_self) (no45 _)
  · rename_i n
    split
    · rename_i c
      rw [if_pos c] at n
      exact absurd rfl (n _)
    · rfl
theorem strip_asc {x : Str} (h : Asc x) (hl : x.length ≤ 600) : Asc (Txt.removeprefix x "-") ∧ (Txt.removeprefix x "-").length ≤ 600 := by
  have e := strip_eq x
  constructor
  · intro c m
    rw [e] at m
    split at m
    · rename_i r e2
      exact h c (by rw [e2]; exact List.mem_cons_of_mem _ m)
    · exact h c m
  · show (Txt.removeprefix x "-").cps.toList.length ≤ 600
    have hl' : x.cps.toList.length ≤ 600 := hl
    rw [e]
    split
    · rename_i r e2
      rw [e2, List.length_cons] at hl'
      omega
    · exact hl'
/-- the number above -/
theorem above_val {x : Str} (h : Dig (Txt.removeprefix x "-")) : ∃ v : Int, intText? x = some v ∧ v.natAbs < 10 ^ 60 ∧ x.length ≤ 61 ∧ ∀ p, x.cps.toList = numT p → v = p := by
  obtain ⟨h1, h2, h3⟩ := h
  have hl : (Txt.removeprefix x "-").length = (Txt.removeprefix x "-").cps.toList.length := rfl
  rw [hl] at h1
  have hx : x.length = x.cps.toList.length := rfl
  have nv : ∀ n : Nat, NumText.digitsVal (TL.numL n) = n := TL.numL_val
  rcases strip_or x with ⟨r, er, e⟩ | ⟨n, e⟩
  · rw [e] at h1 h2 h3
    have lx : x.length ≤ 61 := by rw [hx, er, List.length_cons]; omega
    refine ⟨_, intText_neg er h2 h3 (by omega), ?_, lx, fun p hp => ?_⟩
    · have := dv_60 h1 h2
      rw [Int.natAbs_neg, Int.natAbs_natCast]
      exact this
    · rw [er] at hp
      unfold numT at hp
      split at hp
      · injection hp with _ hp
        rw [hp, nv]
        omega
      · exact absurd (by rw [← hp]; exact List.mem_cons_self) (no45 _)
  · rw [e] at h1 h2 h3
    have lx : x.length ≤ 61 := by omega
    refine ⟨_, intText_digits h2 h3 (by omega), ?_, lx, fun p hp => ?_⟩
    · exact dv_60 h1 h2
    · unfold numT at hp
      split at hp
      · exact absurd hp (n _)
      · rw [hp, nv]
        omega
theorem under_val {x : Str} (h : Dig x) : ∃ v : Nat, intText? x = some (v : Int) ∧ v < 10 ^ 60 ∧ x.length ≤ 60 ∧ ∀ q : Int, 0 < q → x.cps.toList = numT q → (v : Int) = q := by
  obtain ⟨h1, h2, h3⟩ := h
  refine ⟨_, intText_digits h2 h3 (by omega), dv_60 h1 h2, h1, fun q hq e => ?_⟩
  rw [numT_pos (by omega)] at e
  rw [e, TL.numL_val]
  omega
theorem acc_dig {x a u : Str} {p q : Int} (c : CutP x a u) (h : Acc x p q) : Dig (Txt.removeprefix a "-") ∧ Dig u := by
  obtain ⟨h1, h2⟩ := c.ac p q h
  obtain ⟨_, q0, _, hp, hq⟩ := h
  constructor
  · have e := strip_num h1
    refine ⟨?_, ?_, ?_⟩
    · show (Txt.removeprefix a "-").cps.toList.length ≤ 60
      rw [e]; exact numL_60 hp
    · rw [e]; exact TL.numL_digits _
    · rw [e]; exact TL.numL_ne _
  · rw [numT_pos (by omega)] at h2
    refine ⟨?_, ?_, ?_⟩
    · show u.cps.toList.length ≤ 60
      rw [h2]; exact numL_60 hq
    · rw [h2]; exact TL.numL_digits _
    · rw [h2]; exact TL.numL_ne _


def okInt : V → Prop := fun v => ∃ i : Int, v = .int i ∧ i.natAbs < 10 ^ 100
theorem okInt_log {i : Int} (h : i.natAbs < 10 ^ 100) : i.natAbs.log2 < 1920 := by
  by_cases z : i.natAbs = 0
  · rw [z]; decide
  · exact (Nat.log2_lt z).mpr (Nat.lt_of_lt_of_le h (by decide +kernel))
theorem strI_len {i : Int} {k : Nat} (k0 : 0 < k) (h : i.natAbs < 10 ^ k) : (Str.ofString (toString i)).length ≤ k + 1 := by
  show (Str.ofString (toString i)).cps.toList.length ≤ k + 1
  rw [str_numT]
  unfold numT
  have := TL.numL_len k0 h
  split
  · rw [List.length_cons]; omega
  · omega
theorem okInt_len {i : Int} (a : Str) (h : i.natAbs < 10 ^ 100) (ha : decide (a.length ≤ 1000) = true) : (a ++ Str.ofString (toString i)).length ≤ sizeLine := by
  have h1 := strI_len (by decide) h
  have h2 : a.length ≤ 1000 := of_decide_eq_true ha
  rw [app_len, sizeLine_eq]
  omega


theorem none_back {H H' : Hp} {d : Addr} (s : Same H H') (h : H' d = none) : H d = none := by
  cases e : H d with
  | none => rfl
  | some o => rw [s _ _ e] at h; cases h
theorem rt_self {p q : Int} (h : 0 < q) (g : Nat.gcd p.natAbs q.natAbs = 1) : Rt p q p q := ⟨h, g, rfl⟩
theorem lt60 {n : Nat} (h : n < 10 ^ 60) : n < 2 ^ 8000 := Nat.lt_of_lt_of_le h (Nat.le_trans (show 10 ^ 60 ≤ 2 ^ 200 by decide +kernel) (Nat.pow_le_pow_right (by decide) (by decide)))
theorem lt100 {n : Nat} (h : n < 10 ^ 60) : n < 10 ^ 100 := Nat.lt_of_lt_of_le h (Nat.pow_le_pow_right (by decide) (by decide))

/-- a number written without leading zeros, of at most sixty digits -/
def Canon (w : Str) : Prop := ∃ n : Nat, n < 10 ^ 60 ∧ w.cps.toList = TL.numL n
theorem canon_of {w : Str} (h1 : w.length ≤ 60) (h2 : NumText.AllDigits w.cps.toList) (h3 : w.cps.toList ≠ []) (h4 : w.cps.toList = [48] ∨ w.cps.toList.head? ≠ some 48) : Canon w :=
  ⟨_, dv_60 h1 h2, (numL_canon h2 h3 h4).symm⟩
theorem canon_to {w : Str} (h : Canon w) : w.length ≤ 60 ∧ NumText.AllDigits w.cps.toList ∧ w.cps.toList ≠ [] ∧ (w.cps.toList = [48] ∨ w.cps.toList.head? ≠ some 48) := by
  obtain ⟨n, hn, e⟩ := h
  refine ⟨?_, ?_, ?_, ?_⟩
  · show w.cps.toList.length ≤ 60
    rw [e]; exact numL_60 hn
  · rw [e]; exact TL.numL_digits n
  · rw [e]; exact TL.numL_ne n
  · rw [e]; exact numL_can n

/-- the text behind its sign -/
structure CutS (x : Str) (s : Int) (t : Str) : Prop where
  sg : (s = 1 ∧ x.cps.toList = t.cps.toList ∧ ∀ r, t.cps.toList ≠ 45 :: r) ∨ (s = -1 ∧ x.cps.toList = 45 :: t.cps.toList)
  lt : t.length ≤ 600
/-- the words between the slashes -/
structure PartsS (ps : List Str) (t : Str) : Prop where
  ne : ps ≠ []
  fr : ∀ w ∈ ps, 47 ∉ w.cps.toList
  jo : joinC (ps.map (·.cps.toList)) = t.cps.toList
theorem cut_take (x : Str) : (cutS x none (some 1)).cps.toList = x.cps.toList.take 1 := by
  show (((x.cps.toList.drop (HT.sIx x.length 0 none)).take (HT.sIx x.length x.length (some 1) - HT.sIx x.length 0 none)).toArray).toList = _
  rw [List.toList_toArray]
  have e1 : HT.sIx x.length 0 none = 0 := rfl
  have e2 : HT.sIx x.length x.length (some 1) = min 1 x.length := rfl
  rw [e1, e2, List.drop_zero, Nat.sub_zero]
  have hx : x.length = x.cps.toList.length := rfl
  rw [hx]
  cases x.cps.toList <;> simp
theorem cut_drop (x : Str) : (cutS x (some 1) none).cps.toList = x.cps.toList.drop 1 := by
  show (((x.cps.toList.drop (HT.sIx x.length 0 (some 1))).take (HT.sIx x.length x.length none - HT.sIx x.length 0 (some 1))).toArray).toList = _
  rw [List.toList_toArray]
  have e1 : HT.sIx x.length 0 (some 1) = min 1 x.length := rfl
  have e2 : HT.sIx x.length x.length none = x.length := rfl
  rw [e1, e2]
  have hx : x.length = x.cps.toList.length := rfl
  rw [hx]
  cases x.cps.toList <;> simp
theorem parts_s (t : Str) : PartsS (Txt.split t slashS) t := by
  have es : slashS = ⟨#[47]⟩ := by decide +kernel
  rw [es]
  refine ⟨fun z => ?_, fun w m => StrLaws.split_free t 47 w m, ?_⟩
  · have := split_pos t ⟨#[47]⟩
    rw [z] at this
    simp at this
  · rw [← join_cps, StrLaws.join_split]
def ratA (p q : Int) : List (List Nat) := if q = 1 then [TL.numL p.natAbs] else [TL.numL p.natAbs, TL.numL q.natAbs]
theorem head_num (n : Nat) (r u : List Nat) : TL.numL n ++ r ≠ 45 :: u := fun e => by
  cases h : TL.numL n with
  | nil => exact TL.numL_ne n h
  | cons a b =>
    rw [h] at e
    injection e with e _
    exact no45 n (by rw [h, e]; exact List.mem_cons_self)
theorem joinA (p q : Int) : joinC (ratA p q) = if q = 1 then TL.numL p.natAbs else TL.numL p.natAbs ++ 47 :: TL.numL q.natAbs := by
  unfold ratA
  split <;> rfl
theorem terms_acc {x t : Str} {s : Int} {ps : List Str} {p q : Int} (C : CutS x s t) (D : PartsS ps t) (g : Acc x p q) : s = (if p < 0 then -1 else 1) ∧ ps.map (·.cps.toList) = ratA p q := by
  have gq := g.2.1
  have e := g.1
  have key : s = (if p < 0 then -1 else 1) ∧ t.cps.toList = joinC (ratA p q) := by
    rw [joinA]
    by_cases hp : p < 0
    · rw [if_pos hp]
      have ex : x.cps.toList = 45 :: (if q = 1 then TL.numL p.natAbs else TL.numL p.natAbs ++ 47 :: TL.numL q.natAbs) := by
        rw [e]
        unfold ratT
        rw [numT_neg hp, numT_pos (by omega : 0 ≤ q)]
        split <;> rfl
      rcases C.sg with ⟨_, e1, n1⟩ | ⟨h1, e1⟩
      · exact absurd (e1.symm.trans ex) (n1 _)
      · rw [ex] at e1
        injection e1 with _ e1
        exact ⟨h1, e1.symm⟩
    · rw [if_neg hp]
      have ex : x.cps.toList = (if q = 1 then TL.numL p.natAbs else TL.numL p.natAbs ++ 47 :: TL.numL q.natAbs) := by
        rw [e]
        unfold ratT
        rw [numT_pos (by omega : 0 ≤ p), numT_pos (by omega : 0 ≤ q)]
      rcases C.sg with ⟨h1, e1, n1⟩ | ⟨_, e1⟩
      · exact ⟨h1, e1.symm.trans ex⟩
      · rw [ex] at e1
        split at e1
        · exact absurd (by rw [List.append_nil]; exact e1) (head_num p.natAbs [] t.cps.toList)
        · exact absurd e1 (head_num _ _ _)
  refine ⟨key.1, join_uniq _ _ ?_ ?_ (fun w m => ?_) (fun w m => ?_) (D.jo.trans key.2)⟩
  · intro z
    exact D.ne (List.map_eq_nil_iff.mp z)
  · unfold ratA
    split <;> simp
  · obtain ⟨u, hu, rfl⟩ := List.mem_map.mp m
    exact D.fr u hu
  · unfold ratA at m
    split at m
    · rw [List.mem_singleton.mp m]
      exact no47 _
    · rcases List.mem_cons.mp m with rfl | m
      · exact no47 _
      · rw [List.mem_singleton.mp m]
        exact no47 _
theorem acc_canon {x t : Str} {s : Int} {ps : List Str} {p q : Int} (C : CutS x s t) (D : PartsS ps t) (g : Acc x p q) {w : Str} (m : w ∈ ps) : Canon w := by
  have e := (terms_acc C D g).2
  have mw : w.cps.toList ∈ ratA p q := by rw [← e]; exact List.mem_map_of_mem m
  unfold ratA at mw
  split at mw
  · exact ⟨_, g.2.2.2.1, List.mem_singleton.mp mw⟩
  · rcases List.mem_cons.mp mw with mw | mw
    · exact ⟨_, g.2.2.2.1, mw⟩
    · exact ⟨_, g.2.2.2.2, List.mem_singleton.mp mw⟩
theorem sign_num {x t : Str} {s : Int} {n : Nat} (C : CutS x s t) (h : ¬ (n = 0 ∧ s = -1)) : numT (s * n) = (if s = -1 then 45 :: TL.numL n else TL.numL n) ∧ x.cps.toList = (if s = -1 then 45 :: t.cps.toList else t.cps.toList) ∧ (s * (n : Int)).natAbs = n := by
  rcases C.sg with ⟨rfl, e1, n1⟩ | ⟨rfl, e1⟩
  · rw [if_neg (by decide), if_neg (by decide), Int.one_mul, numT_pos (by omega), Int.natAbs_natCast]
    exact ⟨rfl, e1, rfl⟩
  · have hn : n ≠ 0 := fun z => h ⟨z, rfl⟩
    have en : ((-1 : Int) * (n : Int)).natAbs = n := by omega
    rw [if_pos rfl, if_pos rfl, numT_neg (by omega), en]
    exact ⟨rfl, e1, rfl⟩
theorem terms_one {x t w : Str} {s : Int} {n : Nat} (C : CutS x s t) (D : PartsS [w] t) (hn : n < 10 ^ 60) (e : w.cps.toList = TL.numL n) (h : ¬ (n = 0 ∧ s = -1)) : Acc x (s * n) 1 := by
  obtain ⟨h1, h2, h3⟩ := sign_num C h
  have et : t.cps.toList = TL.numL n := by rw [← D.jo, ← e]; rfl
  refine ⟨?_, by decide, ?_, by rw [h3]; exact hn, by decide⟩
  · unfold ratT
    rw [if_pos rfl, h1, h2, et]
  · rw [show ((1 : Int).natAbs) = 1 from rfl, Nat.gcd_one_right]
theorem terms_two {x t w u : Str} {s : Int} {n m : Nat} (C : CutS x s t) (D : PartsS [w, u] t) (hn : n < 10 ^ 60) (hm : m < 10 ^ 60) (e : w.cps.toList = TL.numL n) (f : u.cps.toList = TL.numL m) (m2 : 2 ≤ m) (hg : Nat.gcd (s * n).natAbs m = 1) (h : ¬ (n = 0 ∧ s = -1)) : Acc x (s * n) m := by
  obtain ⟨h1, h2, h3⟩ := sign_num C h
  have et : t.cps.toList = TL.numL n ++ 47 :: TL.numL m := by rw [← D.jo, ← e, ← f]; rfl
  refine ⟨?_, by omega, by rw [Int.natAbs_natCast]; exact hg, by rw [h3]; exact hn, by rw [Int.natAbs_natCast]; exact hm⟩
  unfold ratT
  rw [if_neg (by omega), h1, h2, et, numT_pos (by omega), Int.natAbs_natCast]
  split <;> rfl
theorem acc_zero {x t : Str} {s : Int} {ps : List Str} {p q : Int} {w : Str} {n : Nat} (C : CutS x s t) (D : PartsS ps t) (g : Acc x p q) (h0 : ps[0]? = some w) (e : w.cps.toList = TL.numL n) : p = s * n := by
  obtain ⟨h1, h2⟩ := terms_acc C D g
  have e2 : (ps.map (·.cps.toList))[0]? = some (TL.numL n) := by rw [List.getElem?_map, h0, ← e]; rfl
  rw [h2] at e2
  have e3 : TL.numL p.natAbs = TL.numL n := by
    unfold ratA at e2
    split at e2
    · exact Option.some.inj e2
    · exact Option.some.inj e2
  have := TL.numL_inj e3
  rw [h1]
  split <;> omega
theorem acc_one {x t : Str} {s : Int} {ps : List Str} {p q : Int} {u : Str} {m : Nat} (C : CutS x s t) (D : PartsS ps t) (g : Acc x p q) (h0 : ps[1]? = some u) (e : u.cps.toList = TL.numL m) : q = m ∧ q ≠ 1 := by
  obtain ⟨h1, h2⟩ := terms_acc C D g
  have e2 : (ps.map (·.cps.toList))[1]? = some (TL.numL m) := by rw [List.getElem?_map, h0, ← e]; rfl
  rw [h2] at e2
  unfold ratA at e2
  split at e2
  · cases e2
  · rename_i hq
    have e3 : TL.numL q.natAbs = TL.numL m := Option.some.inj e2
    have := TL.numL_inj e3
    have := g.2.1
    exact ⟨by omega, hq⟩
theorem acc_len {x t : Str} {s : Int} {ps : List Str} {p q : Int} (C : CutS x s t) (D : PartsS ps t) (g : Acc x p q) : ps.length ≤ 2 := by
  have h := congrArg List.length (terms_acc C D g).2
  rw [List.length_map] at h
  rw [h]
  unfold ratA
  split <;> simp
theorem join_mem47 : ∀ {ps : List (List Nat)} {p : List Nat}, p ∈ ps → p.length ≤ (joinC ps).length
  | [], p, h => by cases h
  | [a], p, h => by
    rw [List.mem_singleton.mp h]
    exact Nat.le_refl _
  | a :: b :: r, p, h => by
    show p.length ≤ (a ++ 47 :: joinC (b :: r)).length
    rw [List.length_append, List.length_cons]
    rcases List.mem_cons.mp h with rfl | h
    · omega
    · have := join_mem47 h
      omega
theorem part_len {ps : List Str} {t w : Str} (D : PartsS ps t) (m : w ∈ ps) : w.length ≤ t.length := by
  have h := join_mem47 (List.mem_map_of_mem (f := fun w : Str => w.cps.toList) m)
  rw [D.jo] at h
  exact h
theorem canon_int {w : Str} {n : Nat} (hn : n < 10 ^ 60) (e : w.cps.toList = TL.numL n) : intText? w = some (n : Int) ∧ w.length ≤ 60 := by
  have l : w.length ≤ 60 := by
    show w.cps.toList.length ≤ 60
    rw [e]; exact numL_60 hn
  refine ⟨?_, l⟩
  rw [intText_digits (by rw [e]; exact TL.numL_digits n) (by rw [e]; exact TL.numL_ne n) (by omega), e, TL.numL_val]

def rMulS : R2 := fun x y H Q => ∃ (z : Str) (n : Int), x = .str z ∧ y = .int n ∧ z.length = 1 ∧ 2 ≤ n ∧ n ≤ 100 ∧ ∀ u : Str, u.length = n.toNat → (∀ c ∈ u.cps.toList, c ∈ z.cps.toList) → Q (.str u) H
theorem fold_rep (z : Array Nat) : ∀ (n : Nat) (a : Array Nat), ((List.replicate n z).foldl (fun x1 x2 => x1 ++ x2) a).toList = a.toList ++ (List.replicate n z.toList).flatten
  | 0, a => by simp
  | n + 1, a => by
    rw [List.replicate_succ, List.foldl_cons, fold_rep z n, List.replicate_succ, List.flatten_cons, Array.toList_append, List.append_assoc]
theorem op_mulS {X : Cx} : OpR X (binaryOp .Mult) rMulS := by
  intro pins s σ H x y v u Q I rx ry hyp
  obtain ⟨z, n, rfl, rfl, hz, n2, n100, q⟩ := hyp
  obtain ⟨t, rfl⟩ := rx
  obtain ⟨tk, rfl⟩ := ry
  have c1 : ¬ n < 1 := by omega
  have c2 : (n == 1 || z.length == 0) = false := by
    rw [Bool.or_eq_false_iff, beq_eq_false_iff_ne, beq_eq_false_iff_ne]
    omega
  refine P.mul_str ?_ (fun _ _ => ?_) (fun _ _ => ?_) ?_
  · rw [Bool.or_eq_false_iff, decide_eq_false_iff_not, decide_eq_false_iff_not]
    omega
  · rw [hz]
    have h1 : (1 : Int) ≤ (2 ^ 63 - 1) / n := by
      rw [Int.le_ediv_iff_mul_le (by omega)]
      omega
    show ¬ ((1 : Nat) : Int) > (2 ^ 63 - 1) / n
    omega
  · rw [hz, Nat.one_mul]
    unfold Builtin.Str.tooLong
    rw [decide_eq_false_iff_not, sizeLine_eq]
    omega
  · rw [if_neg c1, if_neg (by rw [c2]; decide)]
    have fl := fold_rep z.cps n.toNat #[]
    have len : ((List.replicate n.toNat z.cps.toList).flatten).length = n.toNat := by
      have : z.cps.toList.length = 1 := hz
      simp [this]
    have ul : (⟨(List.replicate n.toNat z.cps).foldl (fun x1 x2 => x1 ++ x2) #[]⟩ : Str).cps.toList = (List.replicate n.toNat z.cps.toList).flatten := by
      show ((List.replicate n.toNat z.cps).foldl (fun x1 x2 => x1 ++ x2) #[]).toList = _
      rw [fl]
      rfl
    have ulen : (⟨(List.replicate n.toNat z.cps).foldl (fun x1 x2 => x1 ++ x2) #[]⟩ : Str).length = n.toNat := by
      show (⟨(List.replicate n.toNat z.cps).foldl (fun x1 x2 => x1 ++ x2) #[]⟩ : Str).cps.toList.length = n.toNat
      rw [ul, len]
    refine ⟨?_, .str ⟨(List.replicate n.toNat z.cps).foldl (fun x1 x2 => x1 ++ x2) #[]⟩, H, Inv.tok I _, ⟨_, rfl⟩, q _ ulen fun c m => ?_⟩
    · show (⟨(List.replicate n.toNat z.cps).foldl (fun x1 x2 => x1 ++ x2) #[]⟩ : Str).length ≤ sizeLine
      rw [ulen]
      exact small_le (by omega)
    · rw [ul] at m
      obtain ⟨l, hl, hc⟩ := List.mem_flatten.mp m
      rw [(List.mem_replicate.mp hl).2] at hc
      exact hc
def wayS : Str := " /-+0x.,_eE\n\ta"
def digS : Str := "0123456789"
theorem pickA {z : Str} {n : Int} {r : Int} (h : ascB 100 [z] = true) (hn : (z.length : Int) = n) (h0 : 0 ≤ r) (h1 : r < n) : ∃ c, c < 128 ∧ atI z.cps.toList r = some c := by
  obtain ⟨c, m, e⟩ := pickS (z := z) h0 (by omega)
  exact ⟨c, (asc_of h (List.mem_singleton.mpr rfl)).1 c m, e⟩
theorem str_asc {i : Int} : Asc (Str.ofString (toString i)) := by
  intro c m
  rw [str_numT] at m
  unfold numT at m
  split at m
  · rcases List.mem_cons.mp m with rfl | m
    · decide
    · have := TL.numL_digits _ c m
      omega
  · have := TL.numL_digits _ c m
    omega
theorem slash_asc : Asc slashS := by
  intro c m
  rw [slash_l] at m
  rw [List.mem_singleton.mp m]
  decide

theorem numT_asc {i : Int} {c : Nat} (m : c ∈ numT i) : c < 128 := by
  unfold numT at m
  split at m
  · rcases List.mem_cons.mp m with rfl | m
    · decide
    · have := TL.numL_digits _ c m
      omega
  · have := TL.numL_digits _ c m
    omega
theorem numT_len {i : Int} {k : Nat} (k0 : 0 < k) (h : i.natAbs < 10 ^ k) : (numT i).length ≤ k + 1 := by
  have := TL.numL_len k0 h
  unfold numT
  split
  · rw [List.length_cons]; omega
  · omega
theorem ratT_asc {z : Str} {p q : Int} (e : z.cps.toList = ratT p q) : Asc z := by
  intro c m
  rw [e] at m
  unfold ratT at m
  split at m
  · exact numT_asc m
  · rcases List.mem_append.mp m with m | m
    · exact numT_asc m
    · rcases List.mem_cons.mp m with rfl | m
      · decide
      · exact numT_asc m
theorem ratT_len {z : Str} {p q : Int} {k : Nat} (k0 : 0 < k) (e : z.cps.toList = ratT p q) (hp : p.natAbs < 10 ^ k) (hq : q.natAbs < 10 ^ k) : z.length ≤ 2 * k + 3 := by
  show z.cps.toList.length ≤ 2 * k + 3
  have h1 := numT_len k0 hp
  have h2 := numT_len k0 hq
  rw [e]
  unfold ratT
  split
  · omega
  · rw [List.length_append, List.length_cons]; omega

structure Txt (K : PySem.W.Frag) (mg : Str → Option Value) where
  C_Ratio : Addr
  C_BadRatio : Addr
  a_BadRatio_init : Addr
  d_BadRatio_init : FuncData
  m_BadRatio : mg "BadRatio" = some (.ref C_BadRatio)
  e_BadRatio : ErrC K C_BadRatio a_BadRatio_init s_BadRatio_init "BadRatio.__init__" "value" d_BadRatio_init
  b_BadRatio_init : Binds K d_BadRatio_init ["self", "value"] []
  t_BadRatio : PySem.W.exmOne K (.ref C_BadRatio) (.ref C_BadRatio) = some true
  C_BadText : Addr
  a_BadText_init : Addr
  d_BadText_init : FuncData
  m_BadText : mg "BadText" = some (.ref C_BadText)
  e_BadText : ErrC K C_BadText a_BadText_init s_BadText_init "BadText.__init__" "at" d_BadText_init
  b_BadText_init : Binds K d_BadText_init ["self", "at"] []
  t_BadText : PySem.W.exmOne K (.ref C_BadText) (.ref C_BadText) = some true
  C_GameError : Addr
  m_GameError : mg "GameError" = some (.ref C_GameError)
  t_BadRatio_GameError : PySem.W.exmOne K (.ref C_BadRatio) (.ref C_GameError) = some true
  t_BadText_GameError : PySem.W.exmOne K (.ref C_BadText) (.ref C_GameError) = some true
  i_BadRatio : ErrI K C_BadRatio
  kv_BadRatio : PySem.W.kitOne K (.ref C_BadRatio) (.type "ValueError") = some true
  kk_BadRatio_BadRatio : PySem.W.kitOne K (.ref C_BadRatio) (.ref C_BadRatio) = some true
  kk_BadRatio_BadText : PySem.W.kitOne K (.ref C_BadRatio) (.ref C_BadText) = some false
  i_BadText : ErrI K C_BadText
  kv_BadText : PySem.W.kitOne K (.ref C_BadText) (.type "ValueError") = some true
  kk_BadText_BadRatio : PySem.W.kitOne K (.ref C_BadText) (.ref C_BadRatio) = some false
  kk_BadText_BadText : PySem.W.kitOne K (.ref C_BadText) (.ref C_BadText) = some true
  z_super : mg "super" = none
  a_Ratio_init : Addr
  d_Ratio_init : FuncData
  F_Ratio_init : FunD K "__init__" "Ratio.__init__" (defArgs s_Ratio_init) (defBody s_Ratio_init) (defScope s_Ratio_init) [.int 1] [] a_Ratio_init d_Ratio_init
  ds_Ratio_init : List Value
  v_Ratio_init : Vals [.int 1] ds_Ratio_init
  bd_Ratio_init : Binds K d_Ratio_init ["self", "num", "den"] ds_Ratio_init
  b_Ratio_init : Binds K d_Ratio_init ["self", "num", "den"] []
  mk_Ratio : Mk K C_Ratio a_Ratio_init
  a_Ratio_add : Addr
  d_Ratio_add : FuncData
  F_Ratio_add : Fun K "__add__" "Ratio.__add__" s_Ratio_add a_Ratio_add d_Ratio_add
  b_Ratio_add : Binds K d_Ratio_add ["self", "other"] []
  me_Ratio_add : Meth K C_Ratio "__add__" a_Ratio_add
  a_Ratio_sub : Addr
  d_Ratio_sub : FuncData
  F_Ratio_sub : Fun K "__sub__" "Ratio.__sub__" s_Ratio_sub a_Ratio_sub d_Ratio_sub
  b_Ratio_sub : Binds K d_Ratio_sub ["self", "other"] []
  me_Ratio_sub : Meth K C_Ratio "__sub__" a_Ratio_sub
  a_Ratio_mul : Addr
  d_Ratio_mul : FuncData
  F_Ratio_mul : Fun K "__mul__" "Ratio.__mul__" s_Ratio_mul a_Ratio_mul d_Ratio_mul
  b_Ratio_mul : Binds K d_Ratio_mul ["self", "other"] []
  me_Ratio_mul : Meth K C_Ratio "__mul__" a_Ratio_mul
  a_Ratio_neg : Addr
  d_Ratio_neg : FuncData
  F_Ratio_neg : Fun K "__neg__" "Ratio.__neg__" s_Ratio_neg a_Ratio_neg d_Ratio_neg
  b_Ratio_neg : Binds K d_Ratio_neg ["self"] []
  me_Ratio_neg : Meth K C_Ratio "__neg__" a_Ratio_neg
  a_Ratio_eq : Addr
  d_Ratio_eq : FuncData
  F_Ratio_eq : Fun K "__eq__" "Ratio.__eq__" s_Ratio_eq a_Ratio_eq d_Ratio_eq
  b_Ratio_eq : Binds K d_Ratio_eq ["self", "other"] []
  me_Ratio_eq : Meth K C_Ratio "__eq__" a_Ratio_eq
  a_Ratio_ne : Addr
  d_Ratio_ne : FuncData
  F_Ratio_ne : Fun K "__ne__" "Ratio.__ne__" s_Ratio_ne a_Ratio_ne d_Ratio_ne
  b_Ratio_ne : Binds K d_Ratio_ne ["self", "other"] []
  me_Ratio_ne : Meth K C_Ratio "__ne__" a_Ratio_ne
  a_Ratio_str : Addr
  d_Ratio_str : FuncData
  F_Ratio_str : Fun K "__str__" "Ratio.__str__" s_Ratio_str a_Ratio_str d_Ratio_str
  b_Ratio_str : Binds K d_Ratio_str ["self"] []
  me_Ratio_str : Meth K C_Ratio "__str__" a_Ratio_str
  a_Ratio_sign : Addr
  d_Ratio_sign : FuncData
  F_Ratio_sign : Fun K "sign" "Ratio.sign" s_Ratio_sign a_Ratio_sign d_Ratio_sign
  b_Ratio_sign : Binds K d_Ratio_sign ["self"] []
  me_Ratio_sign : Meth K C_Ratio "sign" a_Ratio_sign
  a_has_digits : Addr
  d_has_digits : FuncData
  F_has_digits : Fun K "_has_digits" "_has_digits" s_has_digits a_has_digits d_has_digits
  b_has_digits : Binds K d_has_digits ["word"] []
  m_has_digits : mg "_has_digits" = some (.ref a_has_digits)
  a_read_ratio : Addr
  d_read_ratio : FuncData
  F_read_ratio : Fun K "read_ratio" "read_ratio" s_read_ratio a_read_ratio d_read_ratio
  b_read_ratio : Binds K d_read_ratio ["text"] []
  m_read_ratio : mg "read_ratio" = some (.ref a_read_ratio)
  a_law_cell : Addr
  d_law_cell : FuncData
  F_law_cell : Fun K "_law_cell" "_law_cell" s_law_cell a_law_cell d_law_cell
  b_law_cell : Binds K d_law_cell ["script", "k"] []
  m_law_cell : mg "_law_cell" = some (.ref a_law_cell)
  a_law_is_integer : Addr
  d_law_is_integer : FuncData
  F_law_is_integer : Fun K "_law_is_integer" "_law_is_integer" s_law_is_integer a_law_is_integer d_law_is_integer
  b_law_is_integer : Binds K d_law_is_integer ["actual"] []
  m_law_is_integer : mg "_law_is_integer" = some (.ref a_law_is_integer)
  a_law_gcd : Addr
  d_law_gcd : FuncData
  F_law_gcd : Fun K "_law_gcd" "_law_gcd" s_law_gcd a_law_gcd d_law_gcd
  b_law_gcd : Binds K d_law_gcd ["a", "b"] []
  m_law_gcd : mg "_law_gcd" = some (.ref a_law_gcd)
  a_law_is_ratio : Addr
  d_law_is_ratio : FuncData
  F_law_is_ratio : Fun K "_law_is_ratio" "_law_is_ratio" s_law_is_ratio a_law_is_ratio d_law_is_ratio
  b_law_is_ratio : Binds K d_law_is_ratio ["actual", "num", "den"] []
  m_law_is_ratio : mg "_law_is_ratio" = some (.ref a_law_is_ratio)
  a_law_number : Addr
  d_law_number : FuncData
  F_law_number : Fun K "_law_number" "_law_number" s_law_number a_law_number d_law_number
  b_law_number : Binds K d_law_number ["cell"] []
  m_law_number : mg "_law_number" = some (.ref a_law_number)
  a_law_positive : Addr
  d_law_positive : FuncData
  F_law_positive : Fun K "_law_positive" "_law_positive" s_law_positive a_law_positive d_law_positive
  b_law_positive : Binds K d_law_positive ["cell"] []
  m_law_positive : mg "_law_positive" = some (.ref a_law_positive)
  a_law_written : Addr
  d_law_written : FuncData
  F_law_written : Fun K "_law_written" "_law_written" s_law_written a_law_written d_law_written
  b_law_written : Binds K d_law_written ["num", "den"] []
  m_law_written : mg "_law_written" = some (.ref a_law_written)
  a_law_digits : Addr
  d_law_digits : FuncData
  F_law_digits : Fun K "_law_digits" "_law_digits" s_law_digits a_law_digits d_law_digits
  b_law_digits : Binds K d_law_digits ["text"] []
  m_law_digits : mg "_law_digits" = some (.ref a_law_digits)
  a_law_terms : Addr
  d_law_terms : FuncData
  F_law_terms : Fun K "_law_terms" "_law_terms" s_law_terms a_law_terms d_law_terms
  b_law_terms : Binds K d_law_terms ["text"] []
  m_law_terms : mg "_law_terms" = some (.ref a_law_terms)
  a_law_changed : Addr
  d_law_changed : FuncData
  F_law_changed : Fun K "_law_changed" "_law_changed" s_law_changed a_law_changed d_law_changed
  b_law_changed : Binds K d_law_changed ["text", "way", "num", "den"] []
  m_law_changed : mg "_law_changed" = some (.ref a_law_changed)
  a_law_reads : Addr
  d_law_reads : FuncData
  F_law_reads : Fun K "_law_reads" "_law_reads" s_law_reads a_law_reads d_law_reads
  b_law_reads : Binds K d_law_reads ["text"] []
  m_law_reads : mg "_law_reads" = some (.ref a_law_reads)
  a_law : Addr
  d_law : FuncData
  F_law : Fun K "law" "law" s_law a_law d_law
  b_law : Binds K d_law ["script"] []
  m_law : mg "law" = some (.ref a_law)
  m_Ratio : mg "Ratio" = some (.ref C_Ratio)
  cl_Ratio : Cls K C_Ratio
  n_Ratio_num : NoAttr K C_Ratio "num"
  n_Ratio_den : NoAttr K C_Ratio "den"
  sf_Ratio : PySem.W.selfFirst K C_Ratio = true
  ic_Ratio : C8.InsC K C_Ratio
  g_gcd : mg "gcd" = some (.builtin "math.gcd")
  z_abs : mg "abs" = none
  z_bool : mg "bool" = none
  z_int : mg "int" = none
  z_isinstance : mg "isinstance" = none
  z_len : mg "len" = none
  z_range : mg "range" = none
  z_str : mg "str" = none
section
variable {P : Program} [PrOk P] {w : World} {K : PySem.W.Frag} {mg : Str → Option Value} {base : Heap}
theorem nsc_BadRatio_init : NdefX.NScope ["self", "value", "__class__"] ["self", "value"] ["__class__"] (defScope s_BadRatio_init) := NdefX.nscope_by (by decide +kernel)
theorem ok_BadRatio_init (T : Txt K mg) : FnOk P w K mg base CX0 1 T.a_BadRatio_init T.d_BadRatio_init ["self", "value"] (spErr T.C_BadRatio "value" (fun _ => True)) := by
  obtain ⟨y1, y2, y3, y4, y5, y6, y7, y8, y9, yA, yB, yC, yD, yE, yF, yG, yH, yI, yJ, lk, hcd, hcode, hvs, hcell, hsup, hB, hself, hop⟩ := T.e_BadRatio.fn
  rw [yJ] at lk ⊢
  refine fn_super lk hcd hcode hvs PrOk.file hcell T.e_BadRatio.ox hsup hB hself hop T.z_super PrOk.top rfl rfl nsc_BadRatio_init (by decide +kernel) (fun vs H Q E h => ?_) (fun A outer s H vs Q E hr h => ?_) (fun _ => rfl) (fun _ => rfl) (fun _ => ⟨_, rfl⟩) (fun _ => rfl)
  · obtain ⟨x, v, rfl, _⟩ := h
    rfl
  obtain ⟨x, v, rfl, hx, hv, k⟩ := h
  refine ⟨_, _, x, (pa_cons pe_str pa_nil), (pss_one (ps_ost (pv 0) (pv 1))), rfl, hx, ?_⟩
  refine ⟨by show 1 ≤ 1000; decide, hx, ?_⟩
  refine ⟨_, rfl, _, rfl, x, T.C_BadRatio, rfl, T.e_BadRatio.ox, T.e_BadRatio.no, .inl ⟨hx, k⟩⟩
theorem nsc_BadText_init : NdefX.NScope ["self", "at", "__class__"] ["self", "at"] ["__class__"] (defScope s_BadText_init) := NdefX.nscope_by (by decide +kernel)
theorem ok_BadText_init (T : Txt K mg) : FnOk P w K mg base CX0 1 T.a_BadText_init T.d_BadText_init ["self", "at"] (spErr T.C_BadText "at" okInt) := by
  obtain ⟨y1, y2, y3, y4, y5, y6, y7, y8, y9, yA, yB, yC, yD, yE, yF, yG, yH, yI, yJ, lk, hcd, hcode, hvs, hcell, hsup, hB, hself, hop⟩ := T.e_BadText.fn
  rw [yJ] at lk ⊢
  refine fn_super lk hcd hcode hvs PrOk.file hcell T.e_BadText.ox hsup hB hself hop T.z_super PrOk.top rfl rfl nsc_BadText_init (by decide +kernel) (fun vs H Q E h => ?_) (fun A outer s H vs Q E hr h => ?_) (fun _ => rfl) (fun _ => rfl) (fun _ => ⟨_, rfl⟩) (fun _ => rfl)
  · obtain ⟨x, v, rfl, _⟩ := h
    rfl
  obtain ⟨x, v, rfl, hx, hv, k⟩ := h
  refine ⟨_, _, x, (pa_cons (pe_joined (PJ.cons pe_str (PJ.cons (pe_fmt (pv 1)) PJ.nil))) pa_nil), (pss_one (ps_ost (pv 0) (pv 1))), rfl, hx, ?_⟩
  obtain ⟨i, rfl, hi⟩ := hv
  refine ⟨_, rfl, by first | decide +kernel | exact okInt_len _ hi (by decide +kernel), ⟨_, rfl, .inr ⟨i, rfl, okInt_log hi, _, rfl, okInt_len _ hi (by decide +kernel), ⟨by show 1 ≤ 1000; decide, hx, ?_⟩⟩⟩⟩
  refine ⟨_, rfl, _, rfl, x, T.C_BadText, rfl, T.e_BadText.ox, T.e_BadText.no, .inl ⟨hx, k⟩⟩
/-! ### Ratio.__init__ -/
def sp_Ratio_init (T : Txt K mg) : Sp := fun vs H Q _ => ∃ (x dx : Addr) (n d : Int), vs = [.ref x, .int n, .int d] ∧ H x = some (.ins T.C_Ratio dx []) ∧ d ≠ 0 ∧ d.natAbs < 2 ^ 8000 ∧
  ∀ (p q : Int) (H' : Hp), (∀ b o, b ≠ x → H b = some o → H' b = some o) → H' x = some (.ins T.C_Ratio dx (pf p q)) → Rt p q n d → p.natAbs ≤ n.natAbs → q.natAbs ≤ d.natAbs → Q .non H'

theorem ok_Ratio_init (T : Txt K mg) : FnOk P w K mg base CX0 3 T.a_Ratio_init T.d_Ratio_init ["self", "num", "den"] (sp_Ratio_init T) := by
  refine T.F_Ratio_init.ok sc_Ratio_init (fun vs H Q E h => ?_) (fun cdv A outer s H vs Q E hr h => ?_)
  · obtain ⟨x, dx, n, d, rfl, _⟩ := h
    rfl
  obtain ⟨x, dx, n, d, rfl, hx, hd, hb, q⟩ := h
  refine ⟨_, PSs.nox (pss_cons (ps_if (pt_cmpR op_eq (pv 2) pe_int (nomark _)) (pss_one (ps_never)) pss_nil)
      (pss_cons (ps_set (i := 3) sc_Ratio_init.nd rfl (by first | exact Or.inl rfl | exact Or.inr rfl) (pe_callBfun cr_gcd (by rfl) T.g_gcd (pa_cons (pv 1) (pa_cons (pv 2) pa_nil))))
      (C8.pss_cut (ps_if (pt_cmpR op_lt (pv 2) pe_int (nomark _)) (pss_one (ps_set (i := 3) sc_Ratio_init.nd rfl (by first | exact Or.inl rfl | exact Or.inr rfl) (pe_un un_neg (pv 3)))) pss_nil)
      (pss_cons (ps_fld (pv 0) (pe_op op_fdivX (pv 1) (pv 3)) rfl)
      (pss_one (ps_fld (pv 0) (pe_op op_fdivX (pv 2) (pv 3)) rfl)))))), ?_⟩
  refine ⟨_, rfl, rfl, _, rfl, ite2 (fun c => absurd (V.int.inj (of_decide_eq_true c)) hd) (fun _ => ?_)⟩
  refine ⟨_, rfl, _, rfl, n, d, rfl, ?_⟩
  refine ⟨fun σ' H' => σ' = [some (.ref x), some (.int n), some (.int d), some (.int (fac n d))] ∧ H' = H, ?_, ?_⟩
  · refine ⟨_, rfl, _, _, rfl, rfl, _, rfl, ite2 (fun c => ?_) (fun c => ?_)⟩
    · have c' : d < 0 := of_decide_eq_true c
      refine ⟨_, rfl, _, rfl, ?_, rfl⟩
      unfold fac
      rw [if_pos c']
      rfl
    · have c' : ¬ d < 0 := fun z => c (decide_eq_true z)
      refine ⟨?_, rfl⟩
      unfold fac
      rw [if_neg c']
      rfl
  rintro σ1 H1 ⟨rfl, rfl⟩
  have hf := fac_ne (n := n) hd
  have hg : (fac n d).natAbs < 2 ^ 8000 := by
    rw [fac_abs]
    exact Nat.lt_of_le_of_lt (Nat.le_of_dvd (Int.natAbs_pos.mpr hd) (Nat.gcd_dvd_right _ _)) hb
  have hl := log_lt hg (by omega) (by omega)
  obtain ⟨r1, r2, r3⟩ := rt_made (n := n) hd
  refine ⟨_, rfl, _, rfl, _, _, rfl, rfl, ⟨hf, hl⟩, _, rfl, x, T.C_Ratio, dx, [], rfl, hx, T.cl_Ratio, T.n_Ratio_num, by show 0 < 1000; decide, ?_⟩
  refine ⟨_, rfl, _, rfl, _, _, rfl, rfl, ⟨hf, hl⟩, _, rfl, x, T.C_Ratio, dx, _, rfl, upd_same, T.cl_Ratio, T.n_Ratio_den, by show 1 < 1000; decide, ?_⟩
  rw [upd_upd]
  exact q _ _ _ (fun b o n e => by rw [upd_ne n]; exact e) upd_same r1 r2 r3
/-! ### Ratio.__add__ -/
theorem make_ratio (T : Txt K mg) {H : Hp} {R : Addr → Hp → Prop} {E : XK} {n d : Int} (hd : d ≠ 0) (hb : d.natAbs < 2 ^ 8000)
    (k : ∀ (r : Addr) (p q : Int) (H' : Hp), Same H H' → H r = none → RatAt T.C_Ratio H' r p q → Rt p q n d → p.natAbs ≤ n.natAbs → q.natAbs ≤ d.natAbs → R r H') :
    ∀ x dx, H x = none → H dx = none → dx ≠ x → sp_Ratio_init T [.ref x, .int n, .int d] (upd (upd H dx (.own x)) x (.ins T.C_Ratio dx [])) (fun v H2 => v = .non ∧ R x H2) E := by
  intro x dx nx nd ne
  refine ⟨x, dx, n, d, rfl, upd_same, hd, hb, fun p q H' hk hx hr hp hq => ⟨rfl, ?_⟩⟩
  refine k x p q H' (fun b o e => hk b o (ne_of_none e nx) ?_) nx ⟨dx, hx⟩ hr hp hq
  rw [upd_ne (ne_of_none e nx), upd_ne (ne_of_none e nd)]
  exact e
/-- two ratios given, one made of num and den -/
def sp2 (T : Txt K mg) (num den : Int → Int → Int → Int → Int) : Sp := fun vs H Q _ => ∃ (a b : Addr) (p q u v : Int), vs = [.ref a, .ref b] ∧ RatAt T.C_Ratio H a p q ∧ RatAt T.C_Ratio H b u v ∧ 0 < q ∧ 0 < v ∧ p.natAbs < 2 ^ 2000 ∧ q.natAbs < 2 ^ 2000 ∧ u.natAbs < 2 ^ 2000 ∧ v.natAbs < 2 ^ 2000 ∧
  ∀ (r : Addr) (p' q' : Int) (H' : Hp), Same H H' → H r = none → RatAt T.C_Ratio H' r p' q' → Rt p' q' (num p q u v) (den p q u v) → p'.natAbs ≤ (num p q u v).natAbs → q'.natAbs ≤ (den p q u v).natAbs → Q (.ref r) H'
def sp_Ratio_add (T : Txt K mg) : Sp := sp2 T (fun p q u v => p * v + u * q) (fun _ q _ v => q * v)

theorem ok_Ratio_add (T : Txt K mg) : FnOk P w K mg base CX0 5 T.a_Ratio_add T.d_Ratio_add ["self", "other"] (sp_Ratio_add T) := by
  refine T.F_Ratio_add.ok sc_Ratio_add (fun vs H Q E h => ?_) (fun cdv A outer s H vs Q E hr h => ?_)
  · obtain ⟨a, b, p, q, u, v, rfl, _⟩ := h
    rfl
  obtain ⟨a, b, p, q, u, v, rfl, ⟨da, ha⟩, ⟨db, hb⟩, q0, v0, hp, hq, hu, hv, k⟩ := h
  refine ⟨_, (pss_one (ps_ret (pe_make T.mk_Ratio (ok_Ratio_init T) (hr.mono (by decide)) (by rfl) T.m_Ratio T.b_Ratio_init .nil pass0 (pa_cons (pe_op op_add (pe_op op_mulW (pe_fld (pv 0) rfl) (pe_fld (pv 1) rfl)) (pe_op op_mulW (pe_fld (pv 1) rfl) (pe_fld (pv 0) rfl))) (pa_cons (pe_op op_mulW (pe_fld (pv 0) rfl) (pe_fld (pv 1) rfl)) pa_nil))))), ?_⟩
  refine ⟨_, rfl, a, T.C_Ratio, da, _, _, rfl, ha, T.cl_Ratio, T.n_Ratio_num, pf_num _ _, _, rfl, b, T.C_Ratio, db, _, _, rfl, hb, T.cl_Ratio, T.n_Ratio_den, pf_den _ _, _, _, rfl, rfl, wide_mul hp hv (by decide) (by decide) (by decide), ?_⟩
  refine ⟨_, rfl, b, T.C_Ratio, db, _, _, rfl, hb, T.cl_Ratio, T.n_Ratio_num, pf_num _ _, _, rfl, a, T.C_Ratio, da, _, _, rfl, ha, T.cl_Ratio, T.n_Ratio_den, pf_den _ _, _, _, rfl, rfl, wide_mul hu hq (by decide) (by decide) (by decide), _, _, rfl, rfl, ?_⟩
  refine ⟨_, rfl, a, T.C_Ratio, da, _, _, rfl, ha, T.cl_Ratio, T.n_Ratio_den, pf_den _ _, _, rfl, b, T.C_Ratio, db, _, _, rfl, hb, T.cl_Ratio, T.n_Ratio_den, pf_den _ _, _, _, rfl, rfl, wide_mul hq hv (by decide) (by decide) (by decide), ?_⟩
  exact make_ratio T (Int.mul_ne_zero (by omega) (by omega)) (Nat.lt_of_lt_of_le (wide_lt hq hv) (Nat.pow_le_pow_right (by decide) (by decide))) k
/-! ### Ratio.__sub__ -/
def sp_Ratio_sub (T : Txt K mg) : Sp := sp2 T (fun p q u v => p * v - u * q) (fun _ q _ v => q * v)

theorem ok_Ratio_sub (T : Txt K mg) : FnOk P w K mg base CX0 5 T.a_Ratio_sub T.d_Ratio_sub ["self", "other"] (sp_Ratio_sub T) := by
  refine T.F_Ratio_sub.ok sc_Ratio_sub (fun vs H Q E h => ?_) (fun cdv A outer s H vs Q E hr h => ?_)
  · obtain ⟨a, b, p, q, u, v, rfl, _⟩ := h
    rfl
  obtain ⟨a, b, p, q, u, v, rfl, ⟨da, ha⟩, ⟨db, hb⟩, q0, v0, hp, hq, hu, hv, k⟩ := h
  refine ⟨_, (pss_one (ps_ret (pe_make T.mk_Ratio (ok_Ratio_init T) (hr.mono (by decide)) (by rfl) T.m_Ratio T.b_Ratio_init .nil pass0 (pa_cons (pe_op op_sub (pe_op op_mulW (pe_fld (pv 0) rfl) (pe_fld (pv 1) rfl)) (pe_op op_mulW (pe_fld (pv 1) rfl) (pe_fld (pv 0) rfl))) (pa_cons (pe_op op_mulW (pe_fld (pv 0) rfl) (pe_fld (pv 1) rfl)) pa_nil))))), ?_⟩
  refine ⟨_, rfl, a, T.C_Ratio, da, _, _, rfl, ha, T.cl_Ratio, T.n_Ratio_num, pf_num _ _, _, rfl, b, T.C_Ratio, db, _, _, rfl, hb, T.cl_Ratio, T.n_Ratio_den, pf_den _ _, _, _, rfl, rfl, wide_mul hp hv (by decide) (by decide) (by decide), ?_⟩
  refine ⟨_, rfl, b, T.C_Ratio, db, _, _, rfl, hb, T.cl_Ratio, T.n_Ratio_num, pf_num _ _, _, rfl, a, T.C_Ratio, da, _, _, rfl, ha, T.cl_Ratio, T.n_Ratio_den, pf_den _ _, _, _, rfl, rfl, wide_mul hu hq (by decide) (by decide) (by decide), _, _, rfl, rfl, ?_⟩
  refine ⟨_, rfl, a, T.C_Ratio, da, _, _, rfl, ha, T.cl_Ratio, T.n_Ratio_den, pf_den _ _, _, rfl, b, T.C_Ratio, db, _, _, rfl, hb, T.cl_Ratio, T.n_Ratio_den, pf_den _ _, _, _, rfl, rfl, wide_mul hq hv (by decide) (by decide) (by decide), ?_⟩
  exact make_ratio T (Int.mul_ne_zero (by omega) (by omega)) (Nat.lt_of_lt_of_le (wide_lt hq hv) (Nat.pow_le_pow_right (by decide) (by decide))) k
/-! ### Ratio.__mul__ -/
def sp_Ratio_mul (T : Txt K mg) : Sp := sp2 T (fun p _ u _ => p * u) (fun _ q _ v => q * v)

theorem ok_Ratio_mul (T : Txt K mg) : FnOk P w K mg base CX0 5 T.a_Ratio_mul T.d_Ratio_mul ["self", "other"] (sp_Ratio_mul T) := by
  refine T.F_Ratio_mul.ok sc_Ratio_mul (fun vs H Q E h => ?_) (fun cdv A outer s H vs Q E hr h => ?_)
  · obtain ⟨a, b, p, q, u, v, rfl, _⟩ := h
    rfl
  obtain ⟨a, b, p, q, u, v, rfl, ⟨da, ha⟩, ⟨db, hb⟩, q0, v0, hp, hq, hu, hv, k⟩ := h
  refine ⟨_, (pss_one (ps_ret (pe_make T.mk_Ratio (ok_Ratio_init T) (hr.mono (by decide)) (by rfl) T.m_Ratio T.b_Ratio_init .nil pass0 (pa_cons (pe_op op_mulW (pe_fld (pv 0) rfl) (pe_fld (pv 1) rfl)) (pa_cons (pe_op op_mulW (pe_fld (pv 0) rfl) (pe_fld (pv 1) rfl)) pa_nil))))), ?_⟩
  refine ⟨_, rfl, a, T.C_Ratio, da, _, _, rfl, ha, T.cl_Ratio, T.n_Ratio_num, pf_num _ _, _, rfl, b, T.C_Ratio, db, _, _, rfl, hb, T.cl_Ratio, T.n_Ratio_num, pf_num _ _, _, _, rfl, rfl, wide_mul hp hu (by decide) (by decide) (by decide), ?_⟩
  refine ⟨_, rfl, a, T.C_Ratio, da, _, _, rfl, ha, T.cl_Ratio, T.n_Ratio_den, pf_den _ _, _, rfl, b, T.C_Ratio, db, _, _, rfl, hb, T.cl_Ratio, T.n_Ratio_den, pf_den _ _, _, _, rfl, rfl, wide_mul hq hv (by decide) (by decide) (by decide), ?_⟩
  exact make_ratio T (Int.mul_ne_zero (by omega) (by omega)) (Nat.lt_of_lt_of_le (wide_lt hq hv) (Nat.pow_le_pow_right (by decide) (by decide))) k
/-! ### Ratio.__neg__ -/
def sp_Ratio_neg (T : Txt K mg) : Sp := fun vs H Q _ => ∃ (a : Addr) (p q : Int), vs = [.ref a] ∧ RatAt T.C_Ratio H a p q ∧ 0 < q ∧ q.natAbs < 2 ^ 2000 ∧
  ∀ (r : Addr) (p' q' : Int) (H' : Hp), Same H H' → H r = none → RatAt T.C_Ratio H' r p' q' → Rt p' q' (-p) q → Q (.ref r) H'

theorem ok_Ratio_neg (T : Txt K mg) : FnOk P w K mg base CX0 5 T.a_Ratio_neg T.d_Ratio_neg ["self"] (sp_Ratio_neg T) := by
  refine T.F_Ratio_neg.ok sc_Ratio_neg (fun vs H Q E h => ?_) (fun cdv A outer s H vs Q E hr h => ?_)
  · obtain ⟨a, p, q, rfl, _⟩ := h
    rfl
  obtain ⟨a, p, q, rfl, ⟨da, ha⟩, q0, hq, k⟩ := h
  refine ⟨_, (pss_one (ps_ret (pe_make T.mk_Ratio (ok_Ratio_init T) (hr.mono (by decide)) (by rfl) T.m_Ratio T.b_Ratio_init .nil pass0 (pa_cons (pe_un un_neg (pe_fld (pv 0) rfl)) (pa_cons (pe_fld (pv 0) rfl) pa_nil))))), ?_⟩
  refine ⟨_, rfl, a, T.C_Ratio, da, _, _, rfl, ha, T.cl_Ratio, T.n_Ratio_num, pf_num _ _, _, rfl, _, rfl, a, T.C_Ratio, da, _, _, rfl, ha, T.cl_Ratio, T.n_Ratio_den, pf_den _ _, ?_⟩
  exact make_ratio T (by omega) (Nat.lt_of_lt_of_le hq (Nat.pow_le_pow_right (by decide) (by decide))) fun r p' q' H' s' nr hr' rt _ _ => k r p' q' H' s' nr hr' rt
/-! ### Ratio.__eq__ -/
def sp_Ratio_eq (T : Txt K mg) : Sp := fun vs H Q _ => ∃ (a b : Addr) (p q u v : Int), vs = [.ref a, .ref b] ∧ RatAt T.C_Ratio H a p q ∧ RatAt T.C_Ratio H b u v ∧ ∀ c : Bool, (c = true ↔ (p = u ∧ q = v)) → Q (.bl c) H

theorem ok_Ratio_eq (T : Txt K mg) : FnOk P w K mg base CX0 1 T.a_Ratio_eq T.d_Ratio_eq ["self", "other"] (sp_Ratio_eq T) := by
  refine T.F_Ratio_eq.ok sc_Ratio_eq (fun vs H Q E h => ?_) (fun cdv A outer s H vs Q E hr h => ?_)
  · obtain ⟨a, b, p, q, u, v, rfl, _⟩ := h
    rfl
  obtain ⟨a, b, p, q, u, v, rfl, ⟨da, ha⟩, ⟨db, hb⟩, k⟩ := h
  refine ⟨_, (pss_one (ps_ret (pe_and (pe_callB (C8.call_isC T.ic_Ratio) (by rfl) T.z_isinstance (by first | exact PySem.boot_isinstance | decide +kernel) (pa_cons (pv 1) (pa_cons (pe_glob (v := .ref T.C_Ratio) (by rfl) T.m_Ratio rfl) pa_nil))) (pe_and (pe_cmpR op_eq (pe_fld (pv 0) rfl) (pe_fld (pv 1) rfl) (nomark _)) (pe_one (pe_cmpR op_eq (pe_fld (pv 0) rfl) (pe_fld (pv 1) rfl) (nomark _))))))), ?_⟩
  refine ⟨_, rfl, b, db, _, rfl, hb, _, rfl, ?_⟩
  refine ⟨_, rfl, a, T.C_Ratio, da, _, _, rfl, ha, T.cl_Ratio, T.n_Ratio_num, pf_num _ _, _, rfl, b, T.C_Ratio, db, _, _, rfl, hb, T.cl_Ratio, T.n_Ratio_num, pf_num _ _, rfl, _, rfl, ite2 (fun e => ?_) (fun e => ?_)⟩
  · have e' : p = u := V.int.inj (of_decide_eq_true e)
    refine ⟨_, rfl, a, T.C_Ratio, da, _, _, rfl, ha, T.cl_Ratio, T.n_Ratio_den, pf_den _ _, _, rfl, b, T.C_Ratio, db, _, _, rfl, hb, T.cl_Ratio, T.n_Ratio_den, pf_den _ _, rfl, k _ ?_⟩
    rw [decide_eq_true_iff]
    exact ⟨fun z => ⟨e', V.int.inj z⟩, fun z => congrArg V.int z.2⟩
  · have e' : ¬ p = u := fun z => e (decide_eq_true (congrArg V.int z))
    exact k _ ⟨(fun z => by cases z), fun z => absurd z.1 e'⟩
/-! ### Ratio.__ne__ -/
def sp_Ratio_ne (T : Txt K mg) : Sp := fun vs H Q _ => ∃ (a b : Addr) (p q u v : Int), vs = [.ref a, .ref b] ∧ RatAt T.C_Ratio H a p q ∧ RatAt T.C_Ratio H b u v ∧ ∀ c : Bool, (c = true ↔ ¬ (p = u ∧ q = v)) → Q (.bl c) H

theorem ok_Ratio_ne (T : Txt K mg) : FnOk P w K mg base CX0 3 T.a_Ratio_ne T.d_Ratio_ne ["self", "other"] (sp_Ratio_ne T) := by
  refine T.F_Ratio_ne.ok sc_Ratio_ne (fun vs H Q E h => ?_) (fun cdv A outer s H vs Q E hr h => ?_)
  · obtain ⟨a, b, p, q, u, v, rfl, _⟩ := h
    rfl
  obtain ⟨a, b, p, q, u, v, rfl, ⟨da, ha⟩, ⟨db, hb⟩, k⟩ := h
  refine ⟨_, (pss_one (ps_ret (pe_not (pe_cmpR (op_cmp (fun _ _ => rfl) T.me_Ratio_eq (ok_Ratio_eq T) (hr.mono (by decide)) T.b_Ratio_eq pass0) (pv 0) (pv 1) (nomark _))))), ?_⟩
  refine ⟨_, rfl, _, rfl, a, da, _, b, db, _, rfl, rfl, ha, hb, a, b, p, q, u, v, rfl, ⟨da, ha⟩, ⟨db, hb⟩, fun c hc => ⟨c, rfl, k _ ?_⟩⟩
  rw [← hc]
  cases c <;> simp
/-! ### Ratio.__str__ -/
def sp_Ratio_str (T : Txt K mg) : Sp := fun vs H Q _ => ∃ (a : Addr) (p q : Int), vs = [.ref a] ∧ RatAt T.C_Ratio H a p q ∧ p.natAbs < 10 ^ 100 ∧ q.natAbs < 10 ^ 100 ∧ ∀ z : Str, z.cps.toList = ratT p q → Q (.str z) H

theorem ok_Ratio_str (T : Txt K mg) : FnOk P w K mg base CX0 2 T.a_Ratio_str T.d_Ratio_str ["self"] (sp_Ratio_str T) := by
  refine T.F_Ratio_str.ok sc_Ratio_str (fun vs H Q E h => ?_) (fun cdv A outer s H vs Q E hr h => ?_)
  · obtain ⟨a, p, q, rfl, _⟩ := h
    rfl
  obtain ⟨a, p, q, rfl, ⟨da, ha⟩, hp, hq, k⟩ := h
  refine ⟨_, (pss_cons (ps_if (pt_cmpR op_eq (pe_fld (pv 0) rfl) pe_int (nomark _)) (pss_one (ps_ret (pe_callTy call_str_int (by rfl) T.z_str (by first | exact PySem.boot_str | decide +kernel) (pa_cons (pe_fld (pv 0) rfl) pa_nil)))) pss_nil)
      (pss_one (ps_ret (pe_joined (PJ.cons (pe_fmt (pe_fld (pv 0) rfl)) (PJ.cons pe_str (PJ.cons (pe_fmt (pe_fld (pv 0) rfl)) PJ.nil))))))), ?_⟩
  refine ⟨_, rfl, a, T.C_Ratio, da, _, _, rfl, ha, T.cl_Ratio, T.n_Ratio_den, pf_den _ _, rfl, _, rfl, ite2 (fun c => ?_) (fun c => ?_)⟩
  · have c' : q = 1 := V.int.inj (of_decide_eq_true c)
    refine ⟨_, rfl, a, T.C_Ratio, da, _, _, rfl, ha, T.cl_Ratio, T.n_Ratio_num, pf_num _ _, p, rfl, okInt_log hp, k _ ?_⟩
    unfold ratT
    rw [if_pos c']
    exact str_numT p
  · have c' : q ≠ 1 := fun z => c (decide_eq_true (congrArg V.int z))
    have lp := strI_len (by decide) hp
    have lq := strI_len (by decide) hq
    have l1 : slashS.length = 1 := by decide +kernel
    have l0 : Str.empty.length = 0 := rfl
    refine ⟨_, rfl, a, T.C_Ratio, da, _, _, rfl, ha, T.cl_Ratio, T.n_Ratio_num, pf_num _ _, .inr ⟨p, rfl, okInt_log hp, _, rfl, ?_, ?_⟩⟩
    · rw [app_len]; exact small_le (by omega)
    refine ⟨slashS, rfl, ?_, ?_⟩
    · rw [app_len, app_len]; exact small_le (by omega)
    refine ⟨_, rfl, a, T.C_Ratio, da, _, _, rfl, ha, T.cl_Ratio, T.n_Ratio_den, pf_den _ _, .inr ⟨q, rfl, okInt_log hq, _, rfl, ?_, ?_⟩⟩
    · rw [app_len, app_len, app_len]; exact small_le (by omega)
    refine k _ ?_
    unfold ratT
    rw [if_neg c', app_list, app_list, app_list, str_numT, str_numT, slash_l]
    simp [Str.empty]
/-! ### Ratio.sign -/
def sgn (p : Int) : Int := if p < 0 then -1 else if p > 0 then 1 else 0
def sp_Ratio_sign (T : Txt K mg) : Sp := fun vs H Q _ => ∃ (a : Addr) (p q : Int), vs = [.ref a] ∧ RatAt T.C_Ratio H a p q ∧ Q (.int (sgn p)) H

theorem ok_Ratio_sign (T : Txt K mg) : FnOk P w K mg base CX0 1 T.a_Ratio_sign T.d_Ratio_sign ["self"] (sp_Ratio_sign T) := by
  refine T.F_Ratio_sign.ok sc_Ratio_sign (fun vs H Q E h => ?_) (fun cdv A outer s H vs Q E hr h => ?_)
  · obtain ⟨a, p, q, rfl, _⟩ := h
    rfl
  obtain ⟨a, p, q, rfl, ⟨da, ha⟩, k⟩ := h
  unfold sgn at k
  refine ⟨_, (pss_cons (ps_if (pt_cmpR op_lt (pe_fld (pv 0) rfl) pe_int (nomark _)) (pss_one (ps_ret (pe_un un_neg pe_int))) pss_nil)
      (pss_one (ps_ret (pe_ifExp (pt_cmpR op_gt (pe_fld (pv 0) rfl) pe_int (nomark _)) pe_int pe_int)))), ?_⟩
  refine ⟨_, rfl, a, T.C_Ratio, da, _, _, rfl, ha, T.cl_Ratio, T.n_Ratio_num, pf_num _ _, _, _, rfl, rfl, _, rfl, ite2 (fun e => ?_) (fun e => ?_)⟩
  · have e' : p < 0 := of_decide_eq_true e
    rw [if_pos e'] at k
    exact ⟨_, rfl, k⟩
  · have e' : ¬ p < 0 := fun z => e (decide_eq_true z)
    rw [if_neg e'] at k
    refine ⟨_, rfl, a, T.C_Ratio, da, _, _, rfl, ha, T.cl_Ratio, T.n_Ratio_num, pf_num _ _, _, _, rfl, rfl, _, rfl, ite2 (fun e => ?_) (fun e => ?_)⟩
    · have e' : 0 < p := of_decide_eq_true e
      rw [if_pos e'] at k
      exact k
    · have e' : ¬ 0 < p := fun z => e (decide_eq_true z)
      rw [if_neg e'] at k
      exact k
/-! ### _has_digits -/
def sp_has_digits (T : Txt K mg) : Sp := fun vs H Q _ => ∃ (x : Str), vs = [.str x] ∧ Asc x ∧ x.length ≤ 1000 ∧ ∀ b : Bool, (b = true ↔ Dig x) → Q (.bl b) H

theorem ok_has_digits (T : Txt K mg) : FnOk P w K mg base CX0 1 T.a_has_digits T.d_has_digits ["word"] (sp_has_digits T) := by
  refine T.F_has_digits.ok sc_has_digits (fun vs H Q E h => ?_) (fun cdv A outer s H vs Q E hr h => ?_)
  · obtain ⟨x, rfl, _⟩ := h
    rfl
  obtain ⟨x, rfl, ha, hl, q⟩ := h
  refine ⟨_, (pss_one (ps_ret (pe_and (pe_cmpR op_le (pe_callB call_len_str (by rfl) T.z_len (by first | exact PySem.boot_len | decide +kernel) (pa_cons (pv 0) pa_nil)) pe_int (nomark _)) (pe_and (pe_bm0 PySem.F.plainAttrs_str PySem.F.slot_str_isascii PySem.F.type_str_isascii mt_isascii (pv 0)) (pe_one (pe_bm0 PySem.F.plainAttrs_str PySem.F.slot_str_isdigit PySem.F.type_str_isdigit mt_isdigit (pv 0))))))), ?_⟩
  refine ⟨_, rfl, x, rfl, small_le (by omega), _, _, rfl, rfl, _, rfl, ite2 (fun c1 => ?_) (fun c1 => ?_)⟩
  · have c1' : (x.length : Int) ≤ 60 := of_decide_eq_true c1
    refine ⟨_, rfl, rfl, x, rfl, rfl, trivial, _, rfl, ?_⟩
    rw [asc_isascii ha]
    refine iteT ?_
    refine ⟨_, rfl, rfl, x, rfl, rfl, trivial, q _ ?_⟩
    rw [isdigit_iff ha]
    exact ⟨fun z => ⟨by omega, z.1, z.2⟩, fun z => z.2⟩
  · refine q _ ⟨fun z => (by cases z), fun z => ?_⟩
    exact absurd (decide_eq_true (show (x.length : Int) ≤ 60 by have := z.1; omega)) c1
/-! ### read_ratio -/
def sp_read_ratio (T : Txt K mg) : Sp := fun vs H Q _ => ∃ (x : Str) (p q : Int), vs = [.str x] ∧ Asc x ∧ x.length ≤ 600 ∧ Acc x p q ∧ ∀ r H', Same H H' → RatAt T.C_Ratio H' r p q → Q (.ref r) H'

theorem ok_read_ratio (T : Txt K mg) : FnOk P w K mg base CX0 6 T.a_read_ratio T.d_read_ratio ["text"] (sp_read_ratio T) := by
  refine T.F_read_ratio.ok sc_read_ratio (fun vs H Q E h => ?_) (fun cdv A outer s H vs Q E hr h => ?_)
  · obtain ⟨x, p, q, rfl, _⟩ := h
    rfl
  obtain ⟨x, p0, q0, rfl, hA, hl, hC, k⟩ := h
  refine ⟨_, (pss_cons (ps_asg (pe_bm PySem.F.plainAttrs_str PySem.F.slot_str_partition PySem.F.type_str_partition mt_partition (pv 0) (pa_cons pe_str pa_nil)) (pg_tup rfl (pgs_cons (pg_name (i := 1) sc_read_ratio.nd rfl (by first | exact Or.inl rfl | exact Or.inr rfl)) (pgs_cons (pg_name (i := 2) sc_read_ratio.nd rfl (by first | exact Or.inl rfl | exact Or.inr rfl)) (pgs_cons (pg_name (i := 3) sc_read_ratio.nd rfl (by first | exact Or.inl rfl | exact Or.inr rfl)) pgs_nil)))))
      (C8.pss_cut (ps_if (pt_cmpR op_eq (pv 2) pe_str (nomark _)) (pss_one (ps_set (i := 3) sc_read_ratio.nd rfl (by first | exact Or.inl rfl | exact Or.inr rfl) pe_str)) pss_nil)
      (pss_cons (ps_if (PW.pt (pw_or (pt_not (pt_truth (pe_call (ok_has_digits T) (hr.mono (by decide)) (by rfl) T.m_has_digits T.F_has_digits.kp T.b_has_digits .nil pass0 (pa_cons (pe_bm PySem.F.plainAttrs_str PySem.F.slot_str_removeprefix PySem.F.type_str_removeprefix mt_removeprefix (pv 1) (pa_cons pe_str pa_nil)) pa_nil)) (fun _ => rfl))) (pw_or (pt_not (pt_truth (pe_call (ok_has_digits T) (hr.mono (by decide)) (by rfl) T.m_has_digits T.F_has_digits.kp T.b_has_digits .nil pass0 (pa_cons (pv 3) pa_nil)) (fun _ => rfl))) (pw_or1 (pt_cmpR op_eq (pe_callTy call_int_str (by rfl) T.z_int (by first | exact PySem.boot_int | decide +kernel) (pa_cons (pv 3) pa_nil)) pe_int (nomark _)))))) (pss_one (ps_never)) pss_nil)
      (pss_cons (ps_set (i := 4) sc_read_ratio.nd rfl (by first | exact Or.inl rfl | exact Or.inr rfl) (pe_make T.mk_Ratio (ok_Ratio_init T) (hr.mono (by decide)) (by rfl) T.m_Ratio T.b_Ratio_init .nil pass0 (pa_cons (pe_callTy call_int_str (by rfl) T.z_int (by first | exact PySem.boot_int | decide +kernel) (pa_cons (pv 1) pa_nil)) (pa_cons (pe_callTy call_int_str (by rfl) T.z_int (by first | exact PySem.boot_int | decide +kernel) (pa_cons (pv 3) pa_nil)) pa_nil))))
      (pss_cons (ps_if (pt_cmpR op_ne (pe_callTy (call_strI T.me_Ratio_str (ok_Ratio_str T) T.b_Ratio_str (hr.mono (by decide))) (by rfl) T.z_str (by first | exact PySem.boot_str | decide +kernel) (pa_cons (pv 4) pa_nil)) (pv 0) (nomark _)) (pss_one (ps_never)) pss_nil)
      (pss_one (ps_ret (pv 4)))))))), ?_⟩
  refine ⟨_, rfl, rfl, x, slashS, rfl, rfl, rfl, small_le (by omega), fun t nt => ?_⟩
  refine ⟨t, _, rfl, SqT.of upd_same, rfl, _, _, rfl, _, _, rfl, _, _, rfl, rfl, ?_⟩
  have st := same_upd (o := .tup [.str (Txt.partition x slashS).1, .str (Txt.partition x slashS).2.1, .str (Txt.partition x slashS).2.2]) nt
  generalize upd H t (.tup [.str (Txt.partition x slashS).1, .str (Txt.partition x slashS).2.1, .str (Txt.partition x slashS).2.2]) = H1 at st
  refine ⟨fun σ' H' => ∃ (a m u : Str), σ' = [some (.str x), some (.str a), some (.str m), some (.str u), none] ∧ H' = H1 ∧ CutP x a u, ?_, ?_⟩
  · by_cases h47 : 47 ∈ x.cps.toList
    · obtain ⟨a, b, e, C⟩ := cut_some hA hl h47
      rw [e]
      refine ⟨_, rfl, rfl, _, rfl, ite2 (fun c => ?_) (fun c => ⟨_, _, _, rfl, rfl, C⟩)⟩
      have c' : slashS = ("" : Str) := V.str.inj (of_decide_eq_true c)
      exact absurd c' (by decide +kernel)
    · obtain ⟨e, C⟩ := cut_none hA hl h47
      rw [e]
      refine ⟨_, rfl, rfl, _, rfl, ite2 (fun c => ⟨_, _, _, rfl, rfl, C⟩) (fun c => ?_)⟩
      exact absurd (decide_eq_true (congrArg V.str (show Str.empty = ("" : Str) from by decide +kernel))) c
  rintro σ1 H2 ⟨a, m, u, rfl, rfl, C⟩
  refine ⟨_, rfl, rfl, a, ("-" : Str), rfl, rfl, small_le (by have := C.la; omega), _, rfl, (strip_asc C.aa C.la).1, by have := (strip_asc C.aa C.la).2; omega, fun b1 hb1 => ⟨b1, rfl, ite2 (fun c1 => ?_) (fun c1 => ?_)⟩⟩
  · have no : ∀ p q, ¬ Acc x p q := fun p q g => by
      rw [hb1.mpr (acc_dig C g).1] at c1
      cases c1
    exact no _ _ hC
  have D1 : Dig (Txt.removeprefix a "-") := hb1.mp (by cases b1 with | true => rfl | false => exact absurd rfl c1)
  refine ⟨_, rfl, _, rfl, C.au, by have := C.lu; omega, fun b2 hb2 => ⟨b2, rfl, ite2 (fun c2 => ?_) (fun c2 => ?_)⟩⟩
  · have no : ∀ p q, ¬ Acc x p q := fun p q g => by
      rw [hb2.mpr (acc_dig C g).2] at c2
      cases c2
    exact no _ _ hC
  have D2 : Dig u := hb2.mp (by cases b2 with | true => rfl | false => exact absurd rfl c2)
  obtain ⟨v, hv, bv, la, ev⟩ := above_val D1
  obtain ⟨w, hw, bw, lu, ew⟩ := under_val D2
  refine ⟨_, rfl, u, _, rfl, hw, by omega, rfl, _, rfl, ite2 (fun c3 => ?_) (fun c3 => ?_)⟩
  · have c3' : (w : Int) = 0 := V.int.inj (of_decide_eq_true c3)
    have no : ∀ p q, ¬ Acc x p q := fun p q g => by
      have := ew q g.2.1 (C.ac p q g).2
      have := g.2.1
      omega
    exact no _ _ hC
  have w0 : (w : Int) ≠ 0 := fun z => c3 (decide_eq_true (congrArg V.int z))
  refine ⟨_, rfl, a, _, rfl, hv, by omega, _, rfl, u, _, rfl, hw, by omega, ?_⟩
  refine make_ratio T w0 (lt60 (by rw [Int.natAbs_natCast]; exact bw)) fun r p' q' H3 s3 _ RA rt bp bq => ?_
  obtain ⟨dr, er⟩ := id RA
  have qq := rt.pos
  have bp' : p'.natAbs < 10 ^ 60 := Nat.lt_of_le_of_lt bp bv
  have bq' : q'.natAbs < 10 ^ 60 := Nat.lt_of_le_of_lt bq (by rw [Int.natAbs_natCast]; exact bw)
  refine ⟨_, rfl, r, dr, _, rfl, er, ⟨r, p', q', rfl, RA, lt100 bp', lt100 bq', fun z hz => ⟨z, rfl, _, rfl, rfl, _, rfl, ite2 (fun c4 => ?_) (fun c4 => ?_)⟩⟩⟩
  · have no : ∀ p q, ¬ Acc x p q := fun p q g => by
      have e1 := ev p (C.ac p q g).1
      have e2 := ew q g.2.1 (C.ac p q g).2
      obtain ⟨e3, e4⟩ := rt_uniq rt (rt_self g.2.1 g.2.2.1) w0 (by have := g.2.1; omega) (by rw [e1, e2])
      have : z = x := ext_toList (by rw [hz, g.1, e3, e4])
      rw [decide_eq_true (congrArg V.str this)] at c4
      cases c4
    exact no _ _ hC
  · have ez : z = x := by
      by_cases y : V.str z = V.str x
      · exact V.str.inj y
      · exact absurd (by rw [decide_eq_false y]; rfl) c4
    subst ez
    obtain ⟨rfl, rfl⟩ := acc_uniq hC ⟨hz, qq, rt.2.1, bp', bq'⟩
    exact ⟨_, rfl, k r _ (st.trans s3) RA⟩
/-! ### read_ratio@x -/
def sp_read_ratio_x (T : Txt K mg) : Sp := fun vs H Q E => ∃ (x : Str), vs = [.str x] ∧ Asc x ∧ x.length ≤ 600 ∧ (∀ p q, Acc x p q → ∀ r H', Same H H' → RatAt T.C_Ratio H' r p q → Q (.ref r) H') ∧
  ((∀ p q, ¬ Acc x p q) → ∀ d H', Same H H' → H d = none → H' d = some (.xd [("at", .int 0)]) → E (.ref T.C_BadText) (some d) H')

theorem ok_read_ratio_x (T : Txt K mg) : FnOk P w K mg base (L2.CX P w) 6 T.a_read_ratio T.d_read_ratio ["text"] (sp_read_ratio_x T) := by
  refine T.F_read_ratio.okX sc_read_ratio (fun vs H Q E h => ?_) (fun cdv A outer s H vs Q E hr h => ?_)
  · obtain ⟨x, rfl, _⟩ := h
    rfl
  obtain ⟨x, rfl, hA, hl, kQ, kE⟩ := h
  refine ⟨_, (pss_cons (ps_asg (pe_bm PySem.F.plainAttrs_str PySem.F.slot_str_partition PySem.F.type_str_partition mt_partition (pv 0) (pa_cons pe_str pa_nil)) (pg_tup rfl (pgs_cons (pg_name (i := 1) sc_read_ratio.nd rfl (by first | exact Or.inl rfl | exact Or.inr rfl)) (pgs_cons (pg_name (i := 2) sc_read_ratio.nd rfl (by first | exact Or.inl rfl | exact Or.inr rfl)) (pgs_cons (pg_name (i := 3) sc_read_ratio.nd rfl (by first | exact Or.inl rfl | exact Or.inr rfl)) pgs_nil)))))
      (C8.pss_cut (ps_if (pt_cmpR op_eq (pv 2) pe_str (nomark _)) (pss_one (ps_set (i := 3) sc_read_ratio.nd rfl (by first | exact Or.inl rfl | exact Or.inr rfl) pe_str)) pss_nil)
      (pss_cons (ps_if (PW.pt (pw_or (pt_not (pt_truth (pe_call (ok_has_digits T) (hr.mono (by decide)) (by rfl) T.m_has_digits T.F_has_digits.kp T.b_has_digits .nil pass0 (pa_cons (pe_bm PySem.F.plainAttrs_str PySem.F.slot_str_removeprefix PySem.F.type_str_removeprefix mt_removeprefix (pv 1) (pa_cons pe_str pa_nil)) pa_nil)) (fun _ => rfl))) (pw_or (pt_not (pt_truth (pe_call (ok_has_digits T) (hr.mono (by decide)) (by rfl) T.m_has_digits T.F_has_digits.kp T.b_has_digits .nil pass0 (pa_cons (pv 3) pa_nil)) (fun _ => rfl))) (pw_or1 (pt_cmpR op_eq (pe_callTy call_int_str (by rfl) T.z_int (by first | exact PySem.boot_int | decide +kernel) (pa_cons (pv 3) pa_nil)) pe_int (nomark _)))))) (pss_one (ps_raise rfl (takes_of rfl rfl rfl rfl) (pmk_oex T.e_BadText.ox T.e_BadText.ini T.e_BadText.ty (ok_BadText_init T) (hr.mono (by decide)) T.b_BadText_init .nil pass0 (by rfl) T.m_BadText (pa_cons pe_int pa_nil)))) pss_nil)
      (pss_cons (ps_set (i := 4) sc_read_ratio.nd rfl (by first | exact Or.inl rfl | exact Or.inr rfl) (pe_make T.mk_Ratio (ok_Ratio_init T) (hr.mono (by decide)) (by rfl) T.m_Ratio T.b_Ratio_init .nil pass0 (pa_cons (pe_callTy call_int_str (by rfl) T.z_int (by first | exact PySem.boot_int | decide +kernel) (pa_cons (pv 1) pa_nil)) (pa_cons (pe_callTy call_int_str (by rfl) T.z_int (by first | exact PySem.boot_int | decide +kernel) (pa_cons (pv 3) pa_nil)) pa_nil))))
      (pss_cons (ps_if (pt_cmpR op_ne (pe_callTy (call_strI T.me_Ratio_str (ok_Ratio_str T) T.b_Ratio_str (hr.mono (by decide))) (by rfl) T.z_str (by first | exact PySem.boot_str | decide +kernel) (pa_cons (pv 4) pa_nil)) (pv 0) (nomark _)) (pss_one (ps_raise rfl (takes_of rfl rfl rfl rfl) (pmk_oex T.e_BadText.ox T.e_BadText.ini T.e_BadText.ty (ok_BadText_init T) (hr.mono (by decide)) T.b_BadText_init .nil pass0 (by rfl) T.m_BadText (pa_cons pe_int pa_nil)))) pss_nil)
      (pss_one (ps_ret (pv 4)))))))), ?_⟩
  have kE' : (∀ p q, ¬ Acc x p q) → ∀ H1, Same H H1 → ∀ d H', Same H1 H' → H1 d = none → H' d = some (.xd [("at", .int 0)]) → E (.ref T.C_BadText) (some d) H' := fun no H1 s1 d H' s2 nd hv => kE no d H' (s1.trans s2) (none_back s1 nd) hv
  have z0 : okInt (.int 0) := ⟨0, rfl, by decide +kernel⟩
  refine ⟨_, rfl, rfl, x, slashS, rfl, rfl, rfl, small_le (by omega), fun t nt => ?_⟩
  refine ⟨t, _, rfl, SqT.of upd_same, rfl, _, _, rfl, _, _, rfl, _, _, rfl, rfl, ?_⟩
  have st := same_upd (o := .tup [.str (Txt.partition x slashS).1, .str (Txt.partition x slashS).2.1, .str (Txt.partition x slashS).2.2]) nt
  generalize upd H t (.tup [.str (Txt.partition x slashS).1, .str (Txt.partition x slashS).2.1, .str (Txt.partition x slashS).2.2]) = H1 at st
  refine ⟨fun σ' H' => ∃ (a m u : Str), σ' = [some (.str x), some (.str a), some (.str m), some (.str u), none] ∧ H' = H1 ∧ CutP x a u, ?_, ?_⟩
  · by_cases h47 : 47 ∈ x.cps.toList
    · obtain ⟨a, b, e, C⟩ := cut_some hA hl h47
      rw [e]
      refine ⟨_, rfl, rfl, _, rfl, ite2 (fun c => ?_) (fun c => ⟨_, _, _, rfl, rfl, C⟩)⟩
      have c' : slashS = ("" : Str) := V.str.inj (of_decide_eq_true c)
      exact absurd c' (by decide +kernel)
    · obtain ⟨e, C⟩ := cut_none hA hl h47
      rw [e]
      refine ⟨_, rfl, rfl, _, rfl, ite2 (fun c => ⟨_, _, _, rfl, rfl, C⟩) (fun c => ?_)⟩
      exact absurd (decide_eq_true (congrArg V.str (show Str.empty = ("" : Str) from by decide +kernel))) c
  rintro σ1 H2 ⟨a, m, u, rfl, rfl, C⟩
  refine ⟨_, rfl, rfl, a, ("-" : Str), rfl, rfl, small_le (by have := C.la; omega), _, rfl, (strip_asc C.aa C.la).1, by have := (strip_asc C.aa C.la).2; omega, fun b1 hb1 => ⟨b1, rfl, ite2 (fun c1 => ?_) (fun c1 => ?_)⟩⟩
  · have no : ∀ p q, ¬ Acc x p q := fun p q g => by
      rw [hb1.mpr (acc_dig C g).1] at c1
      cases c1
    exact raise_ok z0 (kE' no _ st)
  have D1 : Dig (Txt.removeprefix a "-") := hb1.mp (by cases b1 with | true => rfl | false => exact absurd rfl c1)
  refine ⟨_, rfl, _, rfl, C.au, by have := C.lu; omega, fun b2 hb2 => ⟨b2, rfl, ite2 (fun c2 => ?_) (fun c2 => ?_)⟩⟩
  · have no : ∀ p q, ¬ Acc x p q := fun p q g => by
      rw [hb2.mpr (acc_dig C g).2] at c2
      cases c2
    exact raise_ok z0 (kE' no _ st)
  have D2 : Dig u := hb2.mp (by cases b2 with | true => rfl | false => exact absurd rfl c2)
  obtain ⟨v, hv, bv, la, ev⟩ := above_val D1
  obtain ⟨w, hw, bw, lu, ew⟩ := under_val D2
  refine ⟨_, rfl, u, _, rfl, hw, by omega, rfl, _, rfl, ite2 (fun c3 => ?_) (fun c3 => ?_)⟩
  · have c3' : (w : Int) = 0 := V.int.inj (of_decide_eq_true c3)
    have no : ∀ p q, ¬ Acc x p q := fun p q g => by
      have := ew q g.2.1 (C.ac p q g).2
      have := g.2.1
      omega
    exact raise_ok z0 (kE' no _ st)
  have w0 : (w : Int) ≠ 0 := fun z => c3 (decide_eq_true (congrArg V.int z))
  refine ⟨_, rfl, a, _, rfl, hv, by omega, _, rfl, u, _, rfl, hw, by omega, ?_⟩
  refine make_ratio T w0 (lt60 (by rw [Int.natAbs_natCast]; exact bw)) fun r p' q' H3 s3 _ RA rt bp bq => ?_
  obtain ⟨dr, er⟩ := id RA
  have q0 := rt.pos
  have bp' : p'.natAbs < 10 ^ 60 := Nat.lt_of_le_of_lt bp bv
  have bq' : q'.natAbs < 10 ^ 60 := Nat.lt_of_le_of_lt bq (by rw [Int.natAbs_natCast]; exact bw)
  refine ⟨_, rfl, r, dr, _, rfl, er, ⟨r, p', q', rfl, RA, lt100 bp', lt100 bq', fun z hz => ⟨z, rfl, _, rfl, rfl, _, rfl, ite2 (fun c4 => ?_) (fun c4 => ?_)⟩⟩⟩
  · have no : ∀ p q, ¬ Acc x p q := fun p q g => by
      have e1 := ev p (C.ac p q g).1
      have e2 := ew q g.2.1 (C.ac p q g).2
      obtain ⟨e3, e4⟩ := rt_uniq rt (rt_self g.2.1 g.2.2.1) w0 (by have := g.2.1; omega) (by rw [e1, e2])
      have : z = x := ext_toList (by rw [hz, g.1, e3, e4])
      rw [decide_eq_true (congrArg V.str this)] at c4
      cases c4
    exact raise_ok z0 (kE' no _ (st.trans s3))
  · have ez : z = x := by
      by_cases y : V.str z = V.str x
      · exact V.str.inj y
      · exact absurd (by rw [decide_eq_false y]; rfl) c4
    subst ez
    refine ⟨_, rfl, kQ p' q' ⟨hz, q0, rt.2.1, bp', bq'⟩ r _ (st.trans s3) RA⟩
/-! ### _law_cell -/
def sp_law_cell (T : Txt K mg) : Sp := fun vs H Q _ => ∃ (a : Addr) (ns : List Int) (k : Int), vs = [.ref a, .int k] ∧ SqL K H a (ns.map V.int) ∧ 0 ≤ k ∧ Q (.int (cell ns k)) H

theorem ok_law_cell (T : Txt K mg) : FnOk P w K mg base CX0 1 T.a_law_cell T.d_law_cell ["script", "k"] (sp_law_cell T) := by
  refine T.F_law_cell.ok sc_law_cell (fun vs H Q E h => ?_) (fun cdv A outer s H vs Q E hr h => ?_)
  · obtain ⟨a, ns, k, rfl, _⟩ := h
    rfl
  obtain ⟨a, ns, k, rfl, hS, hk, q⟩ := h
  refine ⟨_, (pss_cons (ps_if (pt_cmpR op_lt (pv 1) (pe_callB call_len_seq (by rfl) T.z_len (by first | exact PySem.boot_len | decide +kernel) (pa_cons (pv 0) pa_nil)) (nomark _)) (pss_one (ps_ret (pe_ix ix_list (pv 0) (pv 1) (fun _ _ => rfl)))) pss_nil)
      (pss_one (ps_ret pe_int))), ?_⟩
  refine ⟨_, rfl, _, rfl, a, _, rfl, .inl hS, _, _, rfl, rfl, _, rfl, ite2 (fun c => ?_) (fun c => ?_)⟩
  · have c' : k < (((ns.map V.int).length : Nat) : Int) := of_decide_eq_true c
    rw [List.length_map] at c'
    have hlt : k.toNat < ns.length := by omega
    refine ⟨_, rfl, _, rfl, a, _, k, .int (cell ns k), rfl, rfl, hS, at_of (j := k.toNat) (by omega) ?_, q⟩
    rw [List.getElem?_map, List.getElem?_eq_getElem hlt]
    unfold cell
    rw [List.getD_eq_getElem?_getD, List.getElem?_eq_getElem hlt]
    rfl
  · have c' : ¬ k < (((ns.map V.int).length : Nat) : Int) := fun z => c (decide_eq_true z)
    rw [List.length_map] at c'
    have e : cell ns k = 0 := by
      unfold cell
      rw [List.getD_eq_getElem?_getD, List.getElem?_eq_none (by omega)]
      rfl
    rw [e] at q
    exact q
/-! ### _law_is_integer -/
def sp_law_is_integer (T : Txt K mg) : Sp := fun vs H Q _ => ∃ (k : Int), vs = [.int k] ∧ Q (.bl true) H

theorem ok_law_is_integer (T : Txt K mg) : FnOk P w K mg base CX0 1 T.a_law_is_integer T.d_law_is_integer ["actual"] (sp_law_is_integer T) := by
  refine T.F_law_is_integer.ok sc_law_is_integer (fun vs H Q E h => ?_) (fun cdv A outer s H vs Q E hr h => ?_)
  · obtain ⟨k, rfl, _⟩ := h
    rfl
  obtain ⟨k, rfl, q⟩ := h
  refine ⟨_, (pss_one (ps_ret (pe_and (pe_callB call_isi (by rfl) T.z_isinstance (by first | exact PySem.boot_isinstance | decide +kernel) (pa_cons (pv 0) (pa_cons (pe_bltn (v := .ty "int") (by rfl) T.z_int (by decide +kernel) rfl) pa_nil))) (pe_one (pe_not (pe_callB call_isi (by rfl) T.z_isinstance (by first | exact PySem.boot_isinstance | decide +kernel) (pa_cons (pv 0) (pa_cons (pe_bltn (v := .ty "bool") (by rfl) T.z_bool (by decide +kernel) rfl) pa_nil)))))))), ?_⟩
  refine ⟨_, rfl, .int k, .ty "int", .type "int", .type "int", true, rfl, .ty _, .base (.int _), kit_ty (by decide +kernel), true, rfl, ?_⟩
  refine iteT ?_
  refine ⟨_, rfl, .int k, .ty "bool", .type "int", .type "bool", false, rfl, .ty _, .base (.int _), kit_ty (by decide +kernel), false, rfl, ?_⟩
  exact q
/-! ### _law_is_integer@q -/

theorem ok_law_is_integer_q (T : Txt K mg) : FnQ P w K mg base 1 T.a_law_is_integer T.d_law_is_integer ["actual"] (sp_law_is_integer T) := by
  refine fun_okQ T.F_law_is_integer sc_law_is_integer (fun vs H Q E h => ?_) (fun cdv A outer s H vs Q E hr h => ?_)
  · obtain ⟨k, rfl, _⟩ := h
    rfl
  obtain ⟨k, rfl, q⟩ := h
  refine ⟨_, (pss_one (ps_ret (pe_and (pe_callB call_isi (by rfl) T.z_isinstance (by first | exact PySem.boot_isinstance | decide +kernel) (pa_cons (pv 0) (pa_cons (pe_bltn (v := .ty "int") (by rfl) T.z_int (by decide +kernel) rfl) pa_nil))) (pe_one (pe_not (pe_callB call_isi (by rfl) T.z_isinstance (by first | exact PySem.boot_isinstance | decide +kernel) (pa_cons (pv 0) (pa_cons (pe_bltn (v := .ty "bool") (by rfl) T.z_bool (by decide +kernel) rfl) pa_nil)))))))), ?_⟩
  refine ⟨_, rfl, .int k, .ty "int", .type "int", .type "int", true, rfl, .ty _, .base (.int _), kit_ty (by decide +kernel), true, rfl, ?_⟩
  refine iteT ?_
  refine ⟨_, rfl, .int k, .ty "bool", .type "int", .type "bool", false, rfl, .ty _, .base (.int _), kit_ty (by decide +kernel), false, rfl, ?_⟩
  exact q
/-! ### _law_gcd -/
theorem gcd_pow {i N m : Nat} (h : 2 ^ i * m < 2 ^ N) (hi : N ≤ i) : m = 0 := by
  refine Nat.eq_zero_of_not_pos fun z => ?_
  have h1 : 2 ^ N ≤ 2 ^ i := Nat.pow_le_pow_right (by decide) hi
  have h2 : 2 ^ i * 1 ≤ 2 ^ i * m := Nat.mul_le_mul_left _ z
  omega
theorem gcd_half {x y j M : Nat} (hy : 0 < y) (hx : y < x) (h : 2 ^ j * (x * y) < M) : x % y = 0 ∨ 2 ^ (j + 1) * (y * (x % y)) < M := by
  refine .inr (Nat.lt_of_le_of_lt ?_ h)
  have h1 : 2 * (x % y) ≤ x := by
    have h2 := Nat.mod_lt x hy
    have h3 := Nat.div_add_mod x y
    have h4 : 1 ≤ x / y := (Nat.le_div_iff_mul_le hy).mpr (by omega)
    have h5 : y * 1 ≤ y * (x / y) := Nat.mul_le_mul_left _ h4
    omega
  have h6 : 2 ^ (j + 1) * (y * (x % y)) = 2 ^ j * (y * (2 * (x % y))) := by
    rw [Nat.pow_succ]
    simp only [Nat.mul_assoc, Nat.mul_left_comm]
  rw [h6, Nat.mul_comm x y]
  exact Nat.mul_le_mul_left _ (Nat.mul_le_mul_left _ h1)
def sp_law_gcd (T : Txt K mg) : Sp := fun vs H Q _ => ∃ (a b : Int), vs = [.int a, .int b] ∧ a.natAbs < 2 ^ 1900 ∧ b.natAbs < 2 ^ 1900 ∧ Q (.int ((Nat.gcd a.natAbs b.natAbs : Nat) : Int)) H

theorem ok_law_gcd (T : Txt K mg) : FnOk P w K mg base CX0 1 T.a_law_gcd T.d_law_gcd ["a", "b"] (sp_law_gcd T) := by
  refine T.F_law_gcd.ok sc_law_gcd (fun vs H Q E h => ?_) (fun cdv A outer s H vs Q E hr h => ?_)
  · obtain ⟨a, b, rfl, _⟩ := h
    rfl
  obtain ⟨a, b, rfl, ha, hb, q⟩ := h
  refine ⟨_, (pss_cons (ps_set (i := 0) sc_law_gcd.nd rfl (by first | exact Or.inl rfl | exact Or.inr rfl) (pe_callB call_abs (by rfl) T.z_abs (by first | exact PySem.boot_abs | decide +kernel) (pa_cons (pv 0) pa_nil)))
      (pss_cons (ps_set (i := 1) sc_law_gcd.nd rfl (by first | exact Or.inl rfl | exact Or.inr rfl) (pe_callB call_abs (by rfl) T.z_abs (by first | exact PySem.boot_abs | decide +kernel) (pa_cons (pv 1) pa_nil)))
      (pss_cons (ps_for PassesOwn.never rfl (pi_range1 (by rfl) T.z_range (pa_cons pe_int pa_nil)) (pg_name (i := 2) sc_law_gcd.nd rfl (by first | exact Or.inl rfl | exact Or.inr rfl)) (pss_cons (ps_if (pt_cmpR op_eq (pv 1) pe_int (nomark _)) (pss_one (ps_ret (pv 0))) pss_nil)
      (pss_cons (ps_set (i := 3) sc_law_gcd.nd rfl (by first | exact Or.inl rfl | exact Or.inr rfl) (pe_op op_mod (pe_callTy call_int1 (by rfl) T.z_int (by first | exact PySem.boot_int | decide +kernel) (pa_cons (pv 0) pa_nil)) (pv 1)))
      (pss_cons (ps_set (i := 0) sc_law_gcd.nd rfl (by first | exact Or.inl rfl | exact Or.inr rfl) (pv 1))
      (pss_one (ps_set (i := 1) sc_law_gcd.nd rfl (by first | exact Or.inl rfl | exact Or.inr rfl) (pv 3)))))))
      (pss_one (ps_ret (pv 0)))))), ?_⟩
  have absn : ∀ z : Int, (if z < 0 then -z else z) = ((z.natAbs : Nat) : Int) := fun z => by split <;> omega
  refine ⟨_, rfl, a, rfl, _, rfl, b, rfl, ?_⟩
  rw [absn, absn]
  have hab : a.natAbs * b.natAbs < 2 ^ 3800 := by
    have e : (2 : Nat) ^ 3800 = 2 ^ 1900 * 2 ^ 1900 := by rw [← Nat.pow_add]
    rw [e]
    exact Nat.mul_lt_mul'' ha hb
  obtain ⟨N, hN, hab⟩ : ∃ N, N ≤ 3800 ∧ a.natAbs * b.natAbs < 2 ^ N := ⟨3800, Nat.le_refl _, hab⟩
  clear ha hb
  generalize eg : Nat.gcd a.natAbs b.natAbs = g at q
  refine ⟨4000, rfl, by decide, by decide, for_range (n := 4000) (fun i σ' H' => ∃ (x y : Nat) (yk yc : Option V), σ' = [some (.int (x : Int)), some (.int (y : Int)), yk, yc] ∧ H' = H ∧ Nat.gcd x y = g ∧ ((i = 0 ∧ x * y < 2 ^ N) ∨ ∃ j, i = j + 1 ∧ (y = 0 ∨ (y < x ∧ 2 ^ j * (x * y) < 2 ^ N))))
    ⟨a.natAbs, b.natAbs, none, none, rfl, rfl, eg, .inl ⟨rfl, hab⟩⟩ ?_ ?_⟩
  · rintro i σ1 H1 hi ⟨x, y, yk, yc, rfl, rfl, hg, hv⟩
    refine ⟨_, rfl, rfl, _, rfl, ite2 (fun c => ?_) (fun c => ?_)⟩
    · have c' : (y : Int) = 0 := V.int.inj (of_decide_eq_true c)
      have y0 : y = 0 := by omega
      subst y0
      rw [Nat.gcd_zero_right] at hg
      subst hg
      exact ⟨_, rfl, q⟩
    · have y0 : y ≠ 0 := fun z => c (by rw [z]; exact decide_eq_true rfl)
      have yp : 0 < y := Nat.pos_of_ne_zero y0
      refine ⟨_, rfl, .inl ⟨_, rfl, _, rfl, _, _, rfl, rfl, by show (0 : Int) < (y : Int); omega, _, rfl, _, rfl, ?_⟩⟩
      refine ⟨y, x % y, _, _, rfl, rfl, ?_, .inr ⟨i, rfl, ?_⟩⟩
      · rw [Nat.gcd_comm y, ← Nat.gcd_rec, Nat.gcd_comm]
        exact hg
      · rcases hv with ⟨rfl, h1⟩ | ⟨j, rfl, h1 | ⟨h1, h2⟩⟩
        · refine .inr ⟨Nat.mod_lt _ yp, Nat.lt_of_le_of_lt ?_ h1⟩
          rw [Nat.pow_zero, Nat.one_mul, Nat.mul_comm x y]
          exact Nat.mul_le_mul_left _ (Nat.mod_le _ _)
        · exact absurd h1 y0
        · rcases gcd_half yp h1 h2 with h3 | h3
          · exact .inl h3
          · exact .inr ⟨Nat.mod_lt _ yp, h3⟩
  · rintro σ1 H1 ⟨x, y, yk, yc, rfl, rfl, hg, hv⟩
    have y0 : y = 0 := by
      rcases hv with ⟨h, _⟩ | ⟨j, hj, h1 | ⟨h1, h2⟩⟩
      · cases h
      · exact h1
      · have h3 := gcd_pow h2 (by omega)
        rcases Nat.mul_eq_zero.mp h3 with h4 | h4
        · omega
        · exact h4
    subst y0
    rw [Nat.gcd_zero_right] at hg
    subst hg
    exact ⟨_, rfl, q⟩
/-! ### _law_is_ratio -/
def sp_law_is_ratio (T : Txt K mg) : Sp := fun vs H Q _ => ∃ (r : Addr) (p q n d : Int), vs = [.ref r, .int n, .int d] ∧ RatAt T.C_Ratio H r p q ∧ Rt p q n d ∧ d ≠ 0 ∧ n.natAbs < 2 ^ 1900 ∧ d.natAbs < 2 ^ 1900 ∧ Q (.bl true) H

theorem ok_law_is_ratio (T : Txt K mg) : FnOk P w K mg base CX0 2 T.a_law_is_ratio T.d_law_is_ratio ["actual", "num", "den"] (sp_law_is_ratio T) := by
  refine T.F_law_is_ratio.ok sc_law_is_ratio (fun vs H Q E h => ?_) (fun cdv A outer s H vs Q E hr h => ?_)
  · obtain ⟨r, p, q, n, d, rfl, _⟩ := h
    rfl
  obtain ⟨r, p, q, n, d, rfl, ⟨dx, er⟩, hR, hd, hn, hdb, k⟩ := h
  refine ⟨_, (pss_cons (ps_if (pt_not (pt_truth (pe_callB (C8.call_isC T.ic_Ratio) (by rfl) T.z_isinstance (by first | exact PySem.boot_isinstance | decide +kernel) (pa_cons (pv 0) (pa_cons (pe_glob (v := .ref T.C_Ratio) (by rfl) T.m_Ratio rfl) pa_nil))) (fun _ => rfl))) (pss_one (ps_ret pe_bl)) pss_nil)
      (pss_cons (ps_if (PW.pt (pw_or (pt_not (pt_truth (pe_call (ok_law_is_integer T) (hr.mono (by decide)) (by rfl) T.m_law_is_integer T.F_law_is_integer.kp T.b_law_is_integer .nil pass0 (pa_cons (pe_fld (pv 0) rfl) pa_nil)) (fun _ => rfl))) (pw_or1 (pt_not (pt_truth (pe_call (ok_law_is_integer T) (hr.mono (by decide)) (by rfl) T.m_law_is_integer T.F_law_is_integer.kp T.b_law_is_integer .nil pass0 (pa_cons (pe_fld (pv 0) rfl) pa_nil)) (fun _ => rfl)))))) (pss_one (ps_ret pe_bl)) pss_nil)
      (pss_cons (ps_set (i := 3) sc_law_is_ratio.nd rfl (by first | exact Or.inl rfl | exact Or.inr rfl) (pe_call (ok_law_gcd T) (hr.mono (by decide)) (by rfl) T.m_law_gcd T.F_law_gcd.kp T.b_law_gcd .nil pass0 (pa_cons (pv 1) (pa_cons (pv 2) pa_nil))))
      (C8.pss_cut (ps_if (pt_cmpR op_lt (pv 2) pe_int (nomark _)) (pss_one (ps_set (i := 3) sc_law_is_ratio.nd rfl (by first | exact Or.inl rfl | exact Or.inr rfl) (pe_un un_neg (pv 3)))) pss_nil)
      (pss_one (ps_ret (pe_and (pe_cmpR op_eq (pe_fld (pv 0) rfl) (pe_op op_fdivX (pv 1) (pv 3)) (nomark _)) (pe_one (pe_cmpR op_eq (pe_fld (pv 0) rfl) (pe_op op_fdivX (pv 2) (pv 3)) (nomark _)))))))))), ?_⟩
  obtain ⟨m1, _, _⟩ := rt_made (n := n) hd
  obtain ⟨ep, eq⟩ := rt_uniq hR m1 hd hd rfl
  have hf := fac_ne (n := n) hd
  have hg : (fac n d).natAbs < 2 ^ 1900 := by
    rw [fac_abs]
    exact Nat.lt_of_le_of_lt (Nat.le_of_dvd (Int.natAbs_pos.mpr hd) (Nat.gcd_dvd_right _ _)) hdb
  have hl := log_lt hg (by decide) (by decide)
  refine ⟨_, rfl, r, dx, _, rfl, er, true, rfl, ?_⟩
  refine ⟨_, rfl, r, T.C_Ratio, dx, _, _, rfl, er, T.cl_Ratio, T.n_Ratio_num, pf_num _ _, p, rfl, true, rfl, ?_⟩
  refine ⟨_, rfl, r, T.C_Ratio, dx, _, _, rfl, er, T.cl_Ratio, T.n_Ratio_den, pf_den _ _, q, rfl, true, rfl, ?_⟩
  refine ⟨_, rfl, _, rfl, n, d, rfl, hn, hdb, ?_⟩
  refine ⟨fun σ' H' => σ' = [some (.ref r), some (.int n), some (.int d), some (.int (fac n d))] ∧ H' = H, ?_, ?_⟩
  · refine ⟨_, rfl, _, _, rfl, rfl, _, rfl, ite2 (fun c => ?_) (fun c => ?_)⟩
    · have c' : d < 0 := of_decide_eq_true c
      refine ⟨_, rfl, _, rfl, ?_, rfl⟩
      unfold fac
      rw [if_pos c']
      rfl
    · have c' : ¬ d < 0 := fun z => c (decide_eq_true z)
      refine ⟨?_, rfl⟩
      unfold fac
      rw [if_neg c']
      rfl
  rintro σ1 H1 ⟨rfl, rfl⟩
  refine ⟨_, rfl, r, T.C_Ratio, dx, _, _, rfl, er, T.cl_Ratio, T.n_Ratio_num, pf_num _ _, _, rfl, _, rfl, _, _, rfl, rfl, ⟨hf, hl⟩, rfl, _, rfl, ?_⟩
  show if decide (V.int p = V.int (n.fdiv (fac n d))) = true then _ else _
  rw [← ep, decide_eq_true rfl]
  refine ⟨_, rfl, r, T.C_Ratio, dx, _, _, rfl, er, T.cl_Ratio, T.n_Ratio_den, pf_den _ _, _, rfl, _, rfl, _, _, rfl, rfl, ⟨hf, hl⟩, rfl, ?_⟩
  show Q (.bl (decide (V.int q = V.int (d.fdiv (fac n d))))) _
  rw [← eq, decide_eq_true rfl]
  exact k
/-! ### _law_number -/
def lawNum (c : Int) : Int := if c % 3 = 0 then c / 3 % 9 - 4 else if c % 3 = 1 then c / 3 % 2001 - 1000 else c % (2 * 10 ^ 30) - 10 ^ 30
theorem lawNum_lt (c : Int) : (lawNum c).natAbs < 2 ^ 100 := by
  unfold lawNum
  have h1 : 0 ≤ c / 3 % 9 := Int.emod_nonneg _ (by decide)
  have h2 : c / 3 % 9 < 9 := Int.emod_lt_of_pos _ (by decide)
  have h3 : 0 ≤ c / 3 % 2001 := Int.emod_nonneg _ (by decide)
  have h4 : c / 3 % 2001 < 2001 := Int.emod_lt_of_pos _ (by decide)
  have h5 : 0 ≤ c % (2 * 10 ^ 30) := Int.emod_nonneg _ (by decide)
  have h6 : c % (2 * 10 ^ 30) < 2 * 10 ^ 30 := Int.emod_lt_of_pos _ (by decide)
  have h7 : (2 : Nat) ^ 100 = 1267650600228229401496703205376 := by decide
  rw [h7]
  split
  · omega
  · split <;> omega
def sp_law_number (T : Txt K mg) : Sp := fun vs H Q _ => ∃ (c : Int), vs = [.int c] ∧ Q (.int (lawNum c)) H

theorem ok_law_number (T : Txt K mg) : FnOk P w K mg base CX0 1 T.a_law_number T.d_law_number ["cell"] (sp_law_number T) := by
  refine T.F_law_number.ok sc_law_number (fun vs H Q E h => ?_) (fun cdv A outer s H vs Q E hr h => ?_)
  · obtain ⟨c, rfl, _⟩ := h
    rfl
  obtain ⟨c, rfl, q⟩ := h
  refine ⟨_, (pss_cons (ps_if (pt_cmpR op_eq (pe_op op_mod (pe_callTy call_int1 (by rfl) T.z_int (by first | exact PySem.boot_int | decide +kernel) (pa_cons (pv 0) pa_nil)) pe_int) pe_int (nomark _)) (pss_one (ps_ret (pe_op op_sub (pe_op op_mod (pe_op op_fdiv (pv 0) pe_int) pe_int) pe_int))) pss_nil)
      (pss_cons (ps_if (pt_cmpR op_eq (pe_op op_mod (pe_callTy call_int1 (by rfl) T.z_int (by first | exact PySem.boot_int | decide +kernel) (pa_cons (pv 0) pa_nil)) pe_int) pe_int (nomark _)) (pss_one (ps_ret (pe_op op_sub (pe_op op_mod (pe_op op_fdiv (pv 0) pe_int) pe_int) pe_int))) pss_nil)
      (pss_one (ps_ret (pe_op op_sub (pe_op op_mod (pe_callTy call_int1 (by rfl) T.z_int (by first | exact PySem.boot_int | decide +kernel) (pa_cons (pv 0) pa_nil)) (pe_op op_mul pe_int (pe_op op_pow pe_int pe_int))) (pe_op op_pow pe_int pe_int)))))), ?_⟩
  unfold lawNum at q
  refine ⟨_, rfl, .inl ⟨_, rfl, _, _, rfl, rfl, by show (0 : Int) < 3; decide, rfl, _, rfl, ite2 (fun e => ?_) (fun e => ?_)⟩⟩
  · have e' : c % 3 = 0 := V.int.inj (of_decide_eq_true e)
    rw [if_pos e'] at q
    exact ⟨_, rfl, _, _, rfl, rfl, ⟨by decide, by decide⟩, _, _, rfl, rfl, by show (0 : Int) < 9; decide, _, _, rfl, rfl, q⟩
  have e' : ¬ c % 3 = 0 := fun z => e (decide_eq_true (congrArg V.int z))
  rw [if_neg e'] at q
  refine ⟨_, rfl, .inl ⟨_, rfl, _, _, rfl, rfl, by show (0 : Int) < 3; decide, rfl, _, rfl, ite2 (fun e => ?_) (fun e => ?_)⟩⟩
  · have e' : c % 3 = 1 := V.int.inj (of_decide_eq_true e)
    rw [if_pos e'] at q
    exact ⟨_, rfl, _, _, rfl, rfl, ⟨by decide, by decide⟩, _, _, rfl, rfl, by show (0 : Int) < 2001; decide, _, _, rfl, rfl, q⟩
  have e' : ¬ c % 3 = 1 := fun z => e (decide_eq_true (congrArg V.int z))
  rw [if_neg e'] at q
  exact ⟨_, rfl, .inl ⟨_, rfl, _, _, rfl, rfl, ⟨by decide, by decide, by decide⟩, _, _, rfl, rfl, .inl ⟨by decide, by decide⟩, _, _, rfl, rfl, by show (0 : Int) < 2 * 10 ^ 30; decide, _, _, rfl, rfl, ⟨by decide, by decide, by decide⟩, _, _, rfl, rfl, q⟩⟩
/-! ### _law_positive -/
def lawPos (c : Int) : Int := 1 + ((lawNum c).natAbs : Int)
theorem lawPos_lt (c : Int) : 0 < lawPos c ∧ (lawPos c).natAbs < 2 ^ 101 := by
  have h := lawNum_lt c
  have h7 : (2 : Nat) ^ 101 = 2 ^ 100 + 2 ^ 100 := by decide
  unfold lawPos
  rw [h7]
  constructor
  · omega
  · omega
def sp_law_positive (T : Txt K mg) : Sp := fun vs H Q _ => ∃ (c : Int), vs = [.int c] ∧ Q (.int (lawPos c)) H

theorem ok_law_positive (T : Txt K mg) : FnOk P w K mg base CX0 2 T.a_law_positive T.d_law_positive ["cell"] (sp_law_positive T) := by
  refine T.F_law_positive.ok sc_law_positive (fun vs H Q E h => ?_) (fun cdv A outer s H vs Q E hr h => ?_)
  · obtain ⟨c, rfl, _⟩ := h
    rfl
  obtain ⟨c, rfl, q⟩ := h
  refine ⟨_, (pss_one (ps_ret (pe_op op_add pe_int (pe_callB call_abs (by rfl) T.z_abs (by first | exact PySem.boot_abs | decide +kernel) (pa_cons (pe_call (ok_law_number T) (hr.mono (by decide)) (by rfl) T.m_law_number T.F_law_number.kp T.b_law_number .nil pass0 (pa_cons (pv 0) pa_nil)) pa_nil))))), ?_⟩
  refine ⟨_, rfl, c, rfl, _, rfl, _, _, rfl, rfl, ?_⟩
  have absn : (if lawNum c < 0 then -(lawNum c) else lawNum c) = (((lawNum c).natAbs : Nat) : Int) := by split <;> omega
  rw [absn]
  exact q
/-! ### _law_written -/
def sp_law_written (T : Txt K mg) : Sp := fun vs H Q _ => ∃ (n d p q : Int), vs = [.int n, .int d] ∧ Rt p q n d ∧ 0 < d ∧ n.natAbs < 10 ^ 99 ∧ d.natAbs < 10 ^ 99 ∧ ∀ z : Str, z.cps.toList = ratT p q → Q (.str z) H

theorem ok_law_written (T : Txt K mg) : FnOk P w K mg base CX0 2 T.a_law_written T.d_law_written ["num", "den"] (sp_law_written T) := by
  refine T.F_law_written.ok sc_law_written (fun vs H Q E h => ?_) (fun cdv A outer s H vs Q E hr h => ?_)
  · obtain ⟨n, d, p, q, rfl, _⟩ := h
    rfl
  obtain ⟨n, d, p, q, rfl, hR, hd, hn, hdb, k⟩ := h
  refine ⟨_, (pss_cons (ps_set (i := 2) sc_law_written.nd rfl (by first | exact Or.inl rfl | exact Or.inr rfl) (pe_call (ok_law_gcd T) (hr.mono (by decide)) (by rfl) T.m_law_gcd T.F_law_gcd.kp T.b_law_gcd .nil pass0 (pa_cons (pv 0) (pa_cons (pv 1) pa_nil))))
      (pss_cons (ps_if (pt_cmpR op_eq (pe_op op_fdivX (pv 1) (pv 2)) pe_int (nomark _)) (pss_one (ps_ret (pe_callTy call_str_int (by rfl) T.z_str (by first | exact PySem.boot_str | decide +kernel) (pa_cons (pe_op op_fdivX (pv 0) (pv 2)) pa_nil)))) pss_nil)
      (pss_one (ps_ret (pe_op op_add_str (pe_op op_add_str (pe_callTy call_str_int (by rfl) T.z_str (by first | exact PySem.boot_str | decide +kernel) (pa_cons (pe_op op_fdivX (pv 0) (pv 2)) pa_nil)) pe_str) (pe_callTy call_str_int (by rfl) T.z_str (by first | exact PySem.boot_str | decide +kernel) (pa_cons (pe_op op_fdivX (pv 1) (pv 2)) pa_nil))))))), ?_⟩
  have d0 : d ≠ 0 := by omega
  obtain ⟨m1, m2, m3⟩ := rt_made (n := n) d0
  obtain ⟨ep, eq⟩ := rt_uniq hR m1 d0 d0 rfl
  have hf := fac_ne (n := n) d0
  have hg : (fac n d).natAbs < 10 ^ 99 := by
    rw [fac_abs]
    exact Nat.lt_of_le_of_lt (Nat.le_of_dvd (Int.natAbs_pos.mpr d0) (Nat.gcd_dvd_right _ _)) hdb
  have hl : (fac n d).natAbs.log2 < 1920 := okInt_log (Nat.lt_trans hg (by decide +kernel))
  have up : ∀ {m : Nat}, m < 10 ^ 99 → m < 2 ^ 1900 := fun h => Nat.lt_of_lt_of_le h (Nat.le_trans (show 10 ^ 99 ≤ 2 ^ 400 by decide +kernel) (Nat.pow_le_pow_right (by decide) (by decide)))
  have ef : fac n d = ((Nat.gcd n.natAbs d.natAbs : Nat) : Int) := by
    unfold fac
    rw [if_neg (by omega)]
  have hp : p.natAbs < 10 ^ 99 := by rw [ep]; exact Nat.lt_of_le_of_lt m2 hn
  have hq : q.natAbs < 10 ^ 99 := by rw [eq]; exact Nat.lt_of_le_of_lt m3 hdb
  have hp' : p.natAbs < 10 ^ 100 := Nat.lt_trans hp (by decide +kernel)
  have hq' : q.natAbs < 10 ^ 100 := Nat.lt_trans hq (by decide +kernel)
  refine ⟨_, rfl, _, rfl, n, d, rfl, up hn, up hdb, ?_⟩
  rw [← ef]
  have hl9 : (fac n d).natAbs.log2 < 9000 := Nat.lt_trans hl (by decide)
  have lp := strI_len (by decide) hp'
  have lq := strI_len (by decide) hq'
  have l1 : slashS.length = 1 := by decide +kernel
  have gp := okInt_log hp'
  have gq := okInt_log hq'
  have sp := str_numT p
  have sq := str_numT q
  refine ⟨_, rfl, _, rfl, _, _, rfl, rfl, ⟨hf, hl9⟩, rfl, _, rfl, ite2 (fun c => ?_) (fun c => ?_)⟩
  · have c' : q = 1 := by rw [eq]; exact V.int.inj (of_decide_eq_true c)
    have key : Q (.str (Str.ofString (toString p))) H := k _ (by rw [sp]; unfold ratT; rw [if_pos c'])
    rw [ep] at gp key
    exact ⟨_, rfl, _, rfl, _, _, rfl, rfl, ⟨hf, hl9⟩, _, rfl, gp, key⟩
  · have c' : q ≠ 1 := fun z => c (decide_eq_true (congrArg V.int (by rw [← eq]; exact z)))
    have key : Q (.str ((Str.ofString (toString p) ++ slashS) ++ Str.ofString (toString q))) H := k _ (by
      rw [app_list, app_list, sp, sq, slash_l]
      unfold ratT
      rw [if_neg c', List.append_assoc]
      rfl)
    have b1 : (Str.ofString (toString p)).length + slashS.length ≤ sizeLine := small_le (by omega)
    have b2 : (Str.ofString (toString p) ++ slashS).length + (Str.ofString (toString q)).length ≤ sizeLine := by rw [app_len]; exact small_le (by omega)
    rw [eq, ep] at key b2
    rw [ep] at b1 gp
    rw [eq] at gq
    exact ⟨_, rfl, _, rfl, _, _, rfl, rfl, ⟨hf, hl9⟩, _, rfl, gp, _, _, rfl, rfl, b1, _, rfl, _, rfl, _, _, rfl, rfl, ⟨hf, hl9⟩, _, rfl, gq, _, _, rfl, rfl, b2, key⟩
/-! ### _law_digits -/
def sp_law_digits (T : Txt K mg) : Sp := fun vs H Q _ => ∃ (x : Str), vs = [.str x] ∧ x.length ≤ 700 ∧ ∀ b : Bool, (b = true ↔ Canon x) → Q (.bl b) H

theorem ok_law_digits (T : Txt K mg) : FnOk P w K mg base CX0 1 T.a_law_digits T.d_law_digits ["text"] (sp_law_digits T) := by
  refine T.F_law_digits.ok sc_law_digits (fun vs H Q E h => ?_) (fun cdv A outer s H vs Q E hr h => ?_)
  · obtain ⟨x, rfl, _⟩ := h
    rfl
  obtain ⟨x, rfl, hl, q⟩ := h
  refine ⟨_, (pss_cons (ps_if (PW.pt (pw_or (pt_cmpR op_eq (pv 0) pe_str (nomark _)) (pw_or1 (pt_cmpR op_gt (pe_callB call_len_str (by rfl) T.z_len (by first | exact PySem.boot_len | decide +kernel) (pa_cons (pv 0) pa_nil)) pe_int (nomark _))))) (pss_one (ps_ret pe_bl)) pss_nil)
      (pss_cons (ps_for PassesOwn.never rfl (pi_str (pv 0)) (pg_name (i := 1) sc_law_digits.nd rfl (by first | exact Or.inl rfl | exact Or.inr rfl)) (pss_one (ps_if (pt_cmpR op_notIn_sign (pv 1) pe_str (by with_unfolding_all rfl)) (pss_one (ps_ret pe_bl)) pss_nil)))
      (pss_one (ps_ret (pe_or (pe_cmpR op_eq (pv 0) pe_str (nomark _)) (pe_one (pe_cmpR op_ne (pe_ix ix_str (pv 0) pe_int (fun _ _ => rfl)) pe_str (nomark _)))))))), ?_⟩
  have hx0 : x.length = x.cps.toList.length := rfl
  have tkA : x.cps.toList.take x.cps.size = x.cps.toList := List.take_of_length_le (Nat.le_refl _)
  have eE : ("" : Str) = Str.empty := by decide +kernel
  have eZ : ("0" : Str).cps.toList = [48] := by decide +kernel
  have eD : ("0123456789" : Str).cps.toList = [48, 49, 50, 51, 52, 53, 54, 55, 56, 57] := by decide +kernel
  refine ⟨_, rfl, rfl, _, rfl, ite2 (fun c1 => ?_) (fun c1 => ?_)⟩
  · have c1' : x = ("" : Str) := V.str.inj (of_decide_eq_true c1)
    refine iteT (q false ⟨fun z => (by cases z), fun z => ?_⟩)
    refine absurd ?_ (canon_to z).2.2.1
    rw [c1']
    decide +kernel
  have xne : x.cps.toList ≠ [] := fun z => c1 (decide_eq_true (congrArg V.str (ext_toList (by rw [z, eE]; rfl))))
  refine ⟨_, rfl, x, rfl, small_le (by omega), _, _, rfl, rfl, _, rfl, ite2 (fun c2 => ?_) (fun c2 => ?_)⟩
  · have c2' : (60 : Int) < (x.length : Int) := of_decide_eq_true c2
    refine q false ⟨fun z => (by cases z), fun z => ?_⟩
    have := (canon_to z).1
    omega
  have c2' : ¬ (60 : Int) < (x.length : Int) := fun z => c2 (decide_eq_true z)
  refine ⟨_, rfl, x, rfl, for_it (walk_str (z := x)) (fun i σ' H' => ∃ (y : Option V), σ' = [some (.str x), y] ∧ H' = H ∧ NumText.AllDigits (x.cps.toList.take i))
    ⟨none, rfl, rfl, by rw [List.take_zero]; exact fun c m => (by cases m)⟩ (fun _ _ _ _ _ => trivial) ?_ ?_⟩
  · rintro i ch σ1 H1 H2 hi ⟨y, rfl, rfl, dv⟩ ⟨rfl, c, gc, rfl⟩
    have gl : x.cps.toList[i]? = some c := by rw [Array.getElem?_toList]; exact gc
    have tk : x.cps.toList.take (i + 1) = x.cps.toList.take i ++ [c] := by rw [List.take_add_one, gl]; rfl
    refine ⟨_, rfl, c, _, rfl, rfl, _, rfl, ite2 (fun c3 => ?_) (fun c3 => ?_)⟩
    · refine q false ⟨fun z => (by cases z), fun z => ?_⟩
      have hc := (canon_to z).2.1 c (List.mem_of_getElem? gl)
      have : c ∈ ("0123456789" : Str).cps.toList := by
        rw [eD]
        simp only [List.mem_cons, List.not_mem_nil, or_false]
        omega
      rw [decide_eq_true this] at c3
      cases c3
    · have hc : c ∈ ("0123456789" : Str).cps.toList := by
        by_cases z : c ∈ ("0123456789" : Str).cps.toList
        · exact z
        · exact absurd (by rw [decide_eq_false z]; rfl) c3
      rw [eD] at hc
      simp only [List.mem_cons, List.not_mem_nil, or_false] at hc
      refine ⟨_, rfl, rfl, fun d m => ?_⟩
      rw [tk] at m
      rcases List.mem_append.mp m with m | m
      · exact dv d m
      · rw [List.mem_singleton.mp m]
        omega
  · rintro σ1 H1 ⟨y, rfl, rfl, dv⟩
    rw [tkA] at dv
    refine ⟨_, rfl, rfl, _, rfl, ite2 (fun c3 => ?_) (fun c3 => ?_)⟩
    · have c3' : x = ("0" : Str) := V.str.inj (of_decide_eq_true c3)
      refine q true ⟨fun _ => canon_of (by omega) dv xne (.inl (by rw [c3', eZ])), fun _ => rfl⟩
    · have hlen : 0 < x.cps.toList.length := List.length_pos_iff.mpr xne
      have g0 : x.cps.toList[0]? = some (x.cps.toList[0]) := List.getElem?_eq_getElem hlen
      generalize x.cps.toList[0] = c0 at g0
      have eh : x.cps.toList.head? = some c0 := by rw [List.head?_eq_getElem?]; exact g0
      refine ⟨_, rfl, x, 0, c0, rfl, rfl, small_le (by omega), at_ofG (j := 0) rfl g0, rfl, q _ ⟨fun z => ?_, fun z => ?_⟩⟩
      · refine canon_of (by omega) dv xne (.inr fun w => ?_)
        have e : c0 = 48 := Option.some.inj (eh.symm.trans w)
        have : V.str ⟨#[c0]⟩ = V.str ("0" : Str) := congrArg V.str (ext_toList (by rw [eZ, e]))
        rw [decide_eq_true this] at z
        cases z
      · have h4 := (canon_to z).2.2.2
        have ne : ¬ V.str ⟨#[c0]⟩ = V.str ("0" : Str) := fun w => by
          have e : (⟨#[c0]⟩ : Str).cps.toList = ("0" : Str).cps.toList := congrArg (fun s => s.cps.toList) (V.str.inj w)
          rw [eZ] at e
          have e1 : [c0] = [48] := e
          injection e1 with e1
          rcases h4 with h4 | h4
          · exact c3 (decide_eq_true (congrArg V.str (ext_toList (by rw [h4, eZ]))))
          · exact h4 (by rw [eh, e1])
        rw [decide_eq_false ne]
        rfl
/-! ### _law_terms -/
def sp_law_terms (T : Txt K mg) : Sp := fun vs H Q _ => ∃ (x : Str), vs = [.str x] ∧ Asc x ∧ x.length ≤ 600 ∧ (∀ p q, Acc x p q → ∀ t H', Same H H' → H' t = some (.tup [.int p, .int q]) → Q (.ref t) H') ∧ ((∀ p q, ¬ Acc x p q) → ∀ H', Same H H' → Q .non H')

theorem ok_law_terms (T : Txt K mg) : FnOk P w K mg base CX0 2 T.a_law_terms T.d_law_terms ["text"] (sp_law_terms T) := by
  refine T.F_law_terms.ok sc_law_terms (fun vs H Q E h => ?_) (fun cdv A outer s H vs Q E hr h => ?_)
  · obtain ⟨x, rfl, _⟩ := h
    rfl
  obtain ⟨x, rfl, hA, hl, kQ, kN⟩ := h
  refine ⟨_, (pss_cons (ps_set (i := 1) sc_law_terms.nd rfl (by first | exact Or.inl rfl | exact Or.inr rfl) pe_int)
      (C8.pss_cut (ps_if (pt_cmpR op_eq (pe_slice sl_str (pv 0) po_none (po_some pe_int)) pe_str (nomark _)) (pss_cons (ps_set (i := 1) sc_law_terms.nd rfl (by first | exact Or.inl rfl | exact Or.inr rfl) (pe_un un_neg pe_int))
      (pss_one (ps_set (i := 0) sc_law_terms.nd rfl (by first | exact Or.inl rfl | exact Or.inr rfl) (pe_slice sl_str (pv 0) (po_some pe_int) po_none)))) pss_nil)
      (pss_cons (ps_set (i := 2) sc_law_terms.nd rfl (by first | exact Or.inl rfl | exact Or.inr rfl) (pe_bm PySem.F.plainAttrs_str PySem.F.slot_str_split PySem.F.type_str_split mt_split (pv 0) (pa_cons pe_str pa_nil)))
      (pss_cons (ps_if (pt_cmpR op_gt (pe_callB call_len_seq (by rfl) T.z_len (by first | exact PySem.boot_len | decide +kernel) (pa_cons (pv 2) pa_nil)) pe_int (nomark _)) (pss_one (ps_ret pe_non)) pss_nil)
      (pss_cons (ps_for PassesOwn.never rfl (pi_list (pv 2)) (pg_name (i := 3) sc_law_terms.nd rfl (by first | exact Or.inl rfl | exact Or.inr rfl)) (pss_one (ps_if (pt_not (pt_truth (pe_call (ok_law_digits T) (hr.mono (by decide)) (by rfl) T.m_law_digits T.F_law_digits.kp T.b_law_digits .nil pass0 (pa_cons (pv 3) pa_nil)) (fun _ => rfl))) (pss_one (ps_ret pe_non)) pss_nil)))
      (pss_cons (ps_set (i := 4) sc_law_terms.nd rfl (by first | exact Or.inl rfl | exact Or.inr rfl) (pe_op op_mulW (pv 1) (pe_callTy call_int_str (by rfl) T.z_int (by first | exact PySem.boot_int | decide +kernel) (pa_cons (pe_ix ix_list (pv 2) pe_int (fun _ _ => rfl)) pa_nil))))
      (pss_cons (ps_set (i := 5) sc_law_terms.nd rfl (by first | exact Or.inl rfl | exact Or.inr rfl) pe_int)
      (C8.pss_cut (ps_if (pt_cmpR op_eq (pe_callB call_len_seq (by rfl) T.z_len (by first | exact PySem.boot_len | decide +kernel) (pa_cons (pv 2) pa_nil)) pe_int (nomark _)) (pss_cons (ps_set (i := 5) sc_law_terms.nd rfl (by first | exact Or.inl rfl | exact Or.inr rfl) (pe_callTy call_int_str (by rfl) T.z_int (by first | exact PySem.boot_int | decide +kernel) (pa_cons (pe_ix ix_list (pv 2) pe_int (fun _ _ => rfl)) pa_nil)))
      (pss_one (ps_if (PW.pt (pw_or (pt_cmpR op_lt (pv 5) pe_int (nomark _)) (pw_or1 (pt_cmpR op_ne (pe_call (ok_law_gcd T) (hr.mono (by decide)) (by rfl) T.m_law_gcd T.F_law_gcd.kp T.b_law_gcd .nil pass0 (pa_cons (pv 4) (pa_cons (pv 5) pa_nil))) pe_int (nomark _))))) (pss_one (ps_ret pe_non)) pss_nil))) pss_nil)
      (pss_cons (ps_if (PW.pt (pw_and (pt_cmpR op_eq (pv 4) pe_int (nomark _)) (pw_and1 (pt_cmpR op_eq (pv 1) (pe_un un_neg pe_int) (nomark _))))) (pss_one (ps_ret pe_non)) pss_nil)
      (pss_one (ps_ret (pe_tup (pa_cons (pv 4) (pa_cons (pv 5) pa_nil)))))))))))))), ?_⟩
  have hx0 : x.length = x.cps.toList.length := rfl
  have eM : ("-" : Str).cps.toList = [45] := by decide +kernel
  refine ⟨fun σ' H' => ∃ (s : Int) (t : Str), σ' = [some (.str t), some (.int s), none, none, none, none] ∧ H' = H ∧ CutS x s t, ?_, ?_⟩
  · refine ⟨_, rfl, 1, rfl, x, rfl, small_le (by omega), rfl, _, rfl, ite2 (fun c => ?_) (fun c => ?_)⟩
    · have c' : (cutS x none (some 1)).cps.toList = ("-" : Str).cps.toList := congrArg (fun s : Str => s.cps.toList) (V.str.inj (of_decide_eq_true c))
      rw [cut_take, eM] at c'
      refine ⟨1, rfl, _, rfl, 1, rfl, x, rfl, small_le (by omega), ?_⟩
      have ed := cut_drop x
      refine ⟨_, _, rfl, rfl, .inr ⟨rfl, ?_⟩, ?_⟩
      · rw [ed]
        cases h : x.cps.toList with
        | nil => rw [h] at c'; cases c'
        | cons a r =>
          rw [h] at c'
          have : [a] = [45] := c'
          injection this with this
          rw [this]
          rfl
      · show (cutS x (some 1) none).cps.toList.length ≤ 600
        rw [ed, List.length_drop]
        omega
    · refine ⟨_, _, rfl, rfl, .inl ⟨rfl, rfl, fun r e => c (decide_eq_true (congrArg V.str (ext_toList ?_)))⟩, hl⟩
      rw [cut_take, eM, e]
      rfl
  rintro σ1 H1 ⟨s, t, rfl, rfl, C⟩
  have D := parts_s t
  have lt := C.lt
  refine ⟨_, rfl, rfl, t, slashS, rfl, rfl, rfl, small_le (by omega), fun pl np => ?_⟩
  generalize Txt.split t slashS = ps at D
  have s1 := same_upd (o := .lst (ps.map V.str)) np
  have el : upd H1 pl (.lst (ps.map V.str)) pl = some (.lst (ps.map V.str)) := upd_same
  generalize upd H1 pl (.lst (ps.map V.str)) = H2 at s1 el
  refine ⟨_, rfl, pl, _, rfl, .inl (SqL.of el), _, _, rfl, rfl, _, rfl, ite2 (fun c1 => ?_) (fun c1 => ?_)⟩
  · have c1' : (2 : Int) < (((ps.map V.str).length : Nat) : Int) := of_decide_eq_true c1
    rw [List.length_map] at c1'
    exact kN (fun p q g => by have := acc_len C D g; omega) _ s1
  have c1' : ps.length ≤ 2 := by
    have : ¬ (2 : Int) < (((ps.map V.str).length : Nat) : Int) := fun z => c1 (decide_eq_true z)
    rw [List.length_map] at this
    omega
  refine ⟨_, rfl, pl, rfl, ⟨_, SqL.of el⟩, for_list (K := K) (a := pl) (xs := ps.map V.str) (fun i σ' H' => ∃ (y : Option V), σ' = [some (.str t), some (.int s), some (.ref pl), y, none, none] ∧ H' = H2 ∧ ∀ (j : Nat) w, j < i → ps[j]? = some w → Canon w) ⟨none, rfl, rfl, fun j w hj => absurd hj (Nat.not_lt_zero j)⟩ ?_ ?_ ?_⟩
  · rintro i σ' H' _ ⟨y, rfl, rfl, _⟩
    exact SqL.of el
  · rintro i y0 σ' H' hi ⟨y, rfl, rfl, hc⟩
    obtain ⟨w, hw, rfl⟩ : ∃ w, ps[i]? = some w ∧ y0 = V.str w := by
      rw [List.getElem?_map] at hi
      cases e : ps[i]? with
      | none => rw [e] at hi; cases hi
      | some u => rw [e] at hi; exact ⟨u, rfl, (Option.some.inj hi).symm⟩
    have mw := List.mem_of_getElem? hw
    refine ⟨_, rfl, w, rfl, by have := part_len D mw; omega, fun b hb => ⟨b, rfl, ite2 (fun c2 => ?_) (fun c2 => ?_)⟩⟩
    · refine kN (fun p q g => ?_) _ s1
      rw [hb.mpr (acc_canon C D g mw)] at c2
      cases c2
    · have cw : Canon w := hb.mp (by cases b with | true => rfl | false => exact absurd rfl c2)
      refine ⟨_, rfl, rfl, fun j u hj hu => ?_⟩
      rcases Nat.lt_succ_iff_lt_or_eq.mp hj with hj | rfl
      · exact hc j u hj hu
      · rw [hw] at hu
        cases hu
        exact cw
  · rintro σ' H' ⟨y, rfl, rfl, hc⟩
    obtain ⟨w, ps', rfl⟩ : ∃ w ps', ps = w :: ps' := by
      cases h : ps with
      | nil => exact absurd h D.ne
      | cons a b => exact ⟨a, b, rfl⟩
    obtain ⟨n, hn, ew⟩ := hc 0 w (by simp) rfl
    obtain ⟨iw, lw⟩ := canon_int hn ew
    have sb : s.natAbs < 2 ^ 1 := by
      rcases C.sg with ⟨rfl, _⟩ | ⟨rfl, _⟩ <;> decide
    have nb : ((n : Nat) : Int).natAbs < 2 ^ 200 := by
      rw [Int.natAbs_natCast]
      exact Nat.lt_of_lt_of_le hn (by decide +kernel)
    refine ⟨_, rfl, _, rfl, pl, _, 0, _, rfl, rfl, SqL.of el, at_ofG (j := 0) rfl rfl, w, _, rfl, iw, by omega, _, _, rfl, rfl, wide_mul sb nb (by decide) (by decide) (by decide), ?_⟩
    refine ⟨fun σ' H'' => ∃ (y : Option V) (dn : Int), σ' = [some (.str t), some (.int s), some (.ref pl), y, some (.int (s * (n : Int))), some (.int dn)] ∧ H'' = H' ∧ (¬ (n = 0 ∧ s = -1) → Acc x (s * n) dn), ?_, ?_⟩
    · refine ⟨_, rfl, pl, _, rfl, .inl (SqL.of el), rfl, _, rfl, ite2 (fun c3 => ?_) (fun c3 => ?_)⟩
      · have c3' : ((((w :: ps').map V.str).length : Nat) : Int) = 2 := V.int.inj (of_decide_eq_true c3)
        rw [List.length_map, List.length_cons] at c3'
        obtain ⟨u, rfl⟩ : ∃ u, ps' = [u] := by
          cases h : ps' with
          | nil => rw [h] at c3'; simp at c3'
          | cons a b =>
            cases b with
            | nil => exact ⟨a, rfl⟩
            | cons a2 b2 => rw [h] at c3'; simp only [List.length_cons] at c3'; omega
        obtain ⟨m, hm, eu⟩ := hc 1 u (by simp) rfl
        obtain ⟨iu, lu⟩ := canon_int hm eu
        have mb : ((m : Nat) : Int).natAbs < 2 ^ 200 := by
          rw [Int.natAbs_natCast]
          exact Nat.lt_of_lt_of_le hm (by decide +kernel)
        have sn : (s * (n : Int)).natAbs < 2 ^ 1900 := by
          have e1 := wide_lt sb nb
          exact Nat.lt_of_lt_of_le e1 (Nat.pow_le_pow_right (by decide) (by decide))
        refine ⟨_, rfl, pl, _, 1, _, rfl, rfl, SqL.of el, at_ofG (j := 1) rfl rfl, u, _, rfl, iu, by omega, ?_⟩
        refine ⟨_, rfl, _, _, rfl, rfl, _, rfl, ite2 (fun c4 => ?_) (fun c4 => ?_)⟩
        · have c4' : (m : Int) < 2 := of_decide_eq_true c4
          refine kN (fun p q g => ?_) _ s1
          obtain ⟨e1, e2⟩ := acc_one C D g rfl eu
          have := g.2.1
          omega
        · have c4' : ¬ (m : Int) < 2 := fun z => c4 (decide_eq_true z)
          refine ⟨_, rfl, _, rfl, _, _, rfl, sn, Nat.lt_of_lt_of_le mb (Nat.pow_le_pow_right (by decide) (by decide)), rfl, _, rfl, ite2 (fun c5 => ?_) (fun c5 => ?_)⟩
          · refine kN (fun p q g => ?_) _ s1
            obtain ⟨e1, e2⟩ := acc_one C D g rfl eu
            have e3 := acc_zero C D g rfl ew
            have e4 := g.2.2.1
            rw [e3, e1] at e4
            rw [e4] at c5
            cases c5
          · have hg : Nat.gcd (s * (n : Int)).natAbs ((m : Nat) : Int).natAbs = 1 := by
              by_cases z : Nat.gcd (s * (n : Int)).natAbs ((m : Nat) : Int).natAbs = 1
              · exact z
              · refine absurd ?_ c5
                show (!decide (V.int _ = V.int 1)) = true
                rw [decide_eq_false (fun y => z (by have := V.int.inj y; omega))]
                rfl
            rw [Int.natAbs_natCast] at hg
            exact ⟨_, _, rfl, rfl, fun h => terms_two C D hn hm ew eu (by omega) hg h⟩
      · have c3' : ¬ ((((w :: ps').map V.str).length : Nat) : Int) = 2 := fun z => c3 (decide_eq_true (congrArg V.int z))
        rw [List.length_map, List.length_cons] at c3'
        rw [List.length_cons] at c1'
        obtain rfl : ps' = [] := List.eq_nil_of_length_eq_zero (by omega)
        exact ⟨_, _, rfl, rfl, fun h => terms_one C D hn ew h⟩
    · rintro σ2 H3 ⟨y2, dn, rfl, rfl, ha⟩
      have fin : ¬ (n = 0 ∧ s = -1) → tRet (tTup (tCons (tVar 4) (tCons (tVar 5) tNil))) { nx := fun x H' => Q V.non H', rt := Q } [some (.str t), some (.int s), some (.ref pl), y2, some (.int (s * (n : Int))), some (.int dn)] H3 := fun h => by
        refine ⟨_, rfl, _, rfl, by show 2 ≤ sizeLine; decide, fun tt nt => kQ _ _ (ha h) tt _ (s1.trans (same_upd nt)) upd_same⟩
      refine ⟨_, rfl, rfl, _, rfl, ite2 (fun c6 => ?_) (fun c6 => ?_)⟩
      · have c6' : s * (n : Int) = 0 := V.int.inj (of_decide_eq_true c6)
        refine ⟨_, rfl, 1, rfl, rfl, _, rfl, ite2 (fun c7 => ?_) (fun c7 => ?_)⟩
        · have c7' : s = -1 := V.int.inj (of_decide_eq_true c7)
          refine kN (fun p q g => ?_) _ s1
          have e1 := acc_zero C D g rfl ew
          have e2 := (terms_acc C D g).1
          rw [e1, c6', if_neg (by decide), c7'] at e2
          exact absurd e2 (by decide)
        · exact fin fun z => c7 (decide_eq_true (congrArg V.int z.2))
      · exact fin fun z => c6 (decide_eq_true (congrArg V.int (by rw [z.1]; exact Int.mul_zero s)))
/-! ### _law_changed -/
def sp_law_changed (T : Txt K mg) : Sp := fun vs H Q _ => ∃ (x : Str) (way num den : Int), vs = [.str x, .int way, .int num, .int den] ∧ Asc x ∧ x.length ≤ 200 ∧ 0 ≤ way ∧ num.natAbs < 10 ^ 60 ∧ den.natAbs < 10 ^ 60 ∧ ∀ z : Str, Asc z → z.length ≤ 500 → Q (.str z) H

theorem ok_law_changed (T : Txt K mg) : FnOk P w K mg base CX0 1 T.a_law_changed T.d_law_changed ["text", "way", "num", "den"] (sp_law_changed T) := by
  refine T.F_law_changed.ok sc_law_changed (fun vs H Q E h => ?_) (fun cdv A outer s H vs Q E hr h => ?_)
  · obtain ⟨x, way, num, den, rfl, _⟩ := h
    rfl
  obtain ⟨x, way, num, den, rfl, hA, hl, hw, hn, hd, q⟩ := h
  refine ⟨_, (pss_cons (ps_if (pt_cmpR op_eq (pe_op op_mod (pe_op op_fdiv (pv 1) pe_int) pe_int) pe_int (nomark _)) (pss_one (ps_ret (pe_op op_add_str (pe_op op_add_str (pe_callTy call_str_int (by rfl) T.z_str (by first | exact PySem.boot_str | decide +kernel) (pa_cons (pv 2) pa_nil)) pe_str) (pe_op op_mulS pe_str (pe_op op_add pe_int (pe_op op_mod (pe_op op_fdiv (pv 1) pe_int) pe_int)))))) pss_nil)
      (pss_cons (ps_set (i := 4) sc_law_changed.nd rfl (by first | exact Or.inl rfl | exact Or.inr rfl) (pe_op op_mod (pe_op op_fdiv (pv 1) pe_int) (pe_op op_add (pe_callB call_len_str (by rfl) T.z_len (by first | exact PySem.boot_len | decide +kernel) (pa_cons (pv 0) pa_nil)) pe_int)))
      (pss_cons (ps_if (pt_cmpR op_eq (pe_op op_mod (pe_callTy call_int1 (by rfl) T.z_int (by first | exact PySem.boot_int | decide +kernel) (pa_cons (pv 1) pa_nil)) pe_int) pe_int (nomark _)) (pss_one (ps_ret (pe_op op_add_str (pe_op op_add_str (pe_slice sl_str (pv 0) po_none (po_some (pv 4))) (pe_ix ix_str pe_str (pe_op op_mod (pe_op op_fdiv (pv 1) pe_int) pe_int) (fun _ _ => rfl))) (pe_slice sl_str (pv 0) (po_some (pv 4)) po_none)))) pss_nil)
      (pss_cons (ps_if (pt_cmpR op_eq (pe_op op_mod (pe_callTy call_int1 (by rfl) T.z_int (by first | exact PySem.boot_int | decide +kernel) (pa_cons (pv 1) pa_nil)) pe_int) pe_int (nomark _)) (pss_one (ps_ret (pe_op op_add_str (pe_op op_add_str (pe_slice sl_str (pv 0) po_none (po_some (pv 4))) (pe_ix ix_str pe_str (pe_op op_mod (pe_op op_fdiv (pv 1) pe_int) pe_int) (fun _ _ => rfl))) (pe_slice sl_str (pv 0) (po_some (pv 4)) po_none)))) pss_nil)
      (pss_cons (ps_if (pt_cmpR op_eq (pe_op op_mod (pe_callTy call_int1 (by rfl) T.z_int (by first | exact PySem.boot_int | decide +kernel) (pa_cons (pv 1) pa_nil)) pe_int) pe_int (nomark _)) (pss_one (ps_ret (pe_op op_add_str (pe_slice sl_str (pv 0) po_none (po_some (pv 4))) (pe_slice sl_str (pv 0) (po_some (pe_op op_add (pv 4) pe_int)) po_none)))) pss_nil)
      (pss_cons (ps_if (pt_cmpR op_eq (pe_op op_mod (pe_callTy call_int1 (by rfl) T.z_int (by first | exact PySem.boot_int | decide +kernel) (pa_cons (pv 1) pa_nil)) pe_int) pe_int (nomark _)) (pss_one (ps_ret (pe_op op_add_str (pe_op op_add_str (pe_callTy call_str_int (by rfl) T.z_str (by first | exact PySem.boot_str | decide +kernel) (pa_cons (pe_op op_mulW (pv 2) (pe_op op_add pe_int (pe_op op_mod (pe_op op_fdiv (pv 1) pe_int) pe_int))) pa_nil)) pe_str) (pe_callTy call_str_int (by rfl) T.z_str (by first | exact PySem.boot_str | decide +kernel) (pa_cons (pe_op op_mulW (pv 3) (pe_op op_add pe_int (pe_op op_mod (pe_op op_fdiv (pv 1) pe_int) pe_int))) pa_nil))))) pss_nil)
      (pss_one (ps_ret (pe_op op_add_str pe_str (pv 0)))))))))), ?_⟩
  have l1 : slashS.length = 1 := by decide +kernel
  have hx0 : x.length = x.cps.toList.length := rfl
  have ha : ∀ c, c < 128 → Asc ⟨#[c]⟩ := fun c h => one_asc h
  have one : ∀ d : Nat, (⟨#[d]⟩ : Str).length = 1 := fun _ => rfl
  have rng : ∀ (a b : Int), 0 < b → 0 ≤ a % b ∧ a % b < b := fun a b h => ⟨Int.emod_nonneg a (by omega), Int.emod_lt_of_pos a h⟩
  have numlog : ∀ {i : Int}, i.natAbs < 10 ^ 60 → (Str.ofString (toString i)).length ≤ 61 ∧ i.natAbs.log2 < 1920 := fun h => ⟨strI_len (by decide) h, okInt_log (lt100 h)⟩
  refine ⟨_, rfl, _, _, rfl, rfl, ⟨by decide, by decide⟩, _, _, rfl, rfl, by show (0 : Int) < 6; decide, rfl, _, rfl, ite2 (fun _ => ?_) (fun _ => ?_)⟩
  · obtain ⟨ln, gn⟩ := numlog hn
    obtain ⟨r0, r1⟩ := rng (way / 42) 5 (by decide)
    refine ⟨_, rfl, _, rfl, gn, _, slashS, rfl, rfl, small_le (by omega), _, rfl, _, _, rfl, rfl, ⟨by decide, by decide⟩, _, _, rfl, rfl, by show (0 : Int) < 5; decide, _, _, rfl, rfl, ("7" : Str), _, rfl, rfl, by decide +kernel, by omega, by omega, fun u lu mu => ?_⟩
    have la : (Str.ofString (toString num) ++ slashS).length ≤ 62 := by rw [app_len]; omega
    have u62 : u.length ≤ 62 := by omega
    have e7 : ("7" : Str).cps.toList = [55] := by decide +kernel
    refine ⟨_, _, rfl, rfl, small_le (by omega), q _ (app_asc (app_asc str_asc slash_asc) fun c m => ?_) (by rw [app_len]; omega)⟩
    have := mu c m
    rw [e7] at this
    rw [List.mem_singleton.mp this]
    decide
  refine ⟨_, rfl, _, _, rfl, rfl, ⟨by decide, by decide⟩, _, rfl, x, rfl, small_le (by omega), _, _, rfl, rfl, _, _, rfl, rfl, by show (0 : Int) < (x.length : Int) + 1; omega, ?_⟩
  obtain ⟨k0, k1⟩ := rng (way / 5) ((x.length : Int) + 1) (by omega)
  obtain ⟨k, ek⟩ : ∃ k : Int, k = way / 5 % ((x.length : Int) + 1) := ⟨_, rfl⟩
  rw [← ek] at k0 k1
  have cl1 := cutS_length x none (some k)
  have cl2 := cutS_length x (some k) none
  have cl3 := cutS_length x (some (k + 1)) none
  have add3 : ∀ d : Nat, d < 128 → Q (.str ((cutS x none (some k) ++ ⟨#[d]⟩) ++ cutS x (some k) none)) H := fun d hd => q _ (app_asc (app_asc (cutS_asc hA _ _) (one_asc hd)) (cutS_asc hA _ _)) (by rw [app_len, app_len, one]; omega)
  subst ek
  refine ⟨_, rfl, .inl ⟨_, rfl, _, _, rfl, rfl, by show (0 : Int) < 5; decide, rfl, _, rfl, ite2 (fun _ => ?_) (fun _ => ?_)⟩⟩
  · obtain ⟨r0, r1⟩ := rng (way / 500) 14 (by decide)
    obtain ⟨d, d1, ad⟩ := pickA (z := wayS) (n := 14) (by decide +kernel) (by decide +kernel) r0 r1
    exact ⟨_, rfl, _, rfl, _, rfl, x, rfl, small_le (by omega), _, rfl, _, _, rfl, rfl, ⟨by decide, by decide⟩, _, _, rfl, rfl, by show (0 : Int) < 14; decide, wayS, _, d, rfl, rfl, by decide +kernel, ad, _, _, rfl, rfl, by rw [one]; exact small_le (by omega), _, rfl, _, rfl, _, rfl, x, rfl, small_le (by omega), _, _, rfl, rfl, by rw [app_len, one]; exact small_le (by omega), add3 d d1⟩
  refine ⟨_, rfl, .inl ⟨_, rfl, _, _, rfl, rfl, by show (0 : Int) < 5; decide, rfl, _, rfl, ite2 (fun _ => ?_) (fun _ => ?_)⟩⟩
  · obtain ⟨r0, r1⟩ := rng (way / 500) 10 (by decide)
    obtain ⟨d, d1, ad⟩ := pickA (z := digS) (n := 10) (by decide +kernel) (by decide +kernel) r0 r1
    exact ⟨_, rfl, _, rfl, _, rfl, x, rfl, small_le (by omega), _, rfl, _, _, rfl, rfl, ⟨by decide, by decide⟩, _, _, rfl, rfl, by show (0 : Int) < 10; decide, digS, _, d, rfl, rfl, by decide +kernel, ad, _, _, rfl, rfl, by rw [one]; exact small_le (by omega), _, rfl, _, rfl, _, rfl, x, rfl, small_le (by omega), _, _, rfl, rfl, by rw [app_len, one]; exact small_le (by omega), add3 d d1⟩
  refine ⟨_, rfl, .inl ⟨_, rfl, _, _, rfl, rfl, by show (0 : Int) < 5; decide, rfl, _, rfl, ite2 (fun _ => ?_) (fun _ => ?_)⟩⟩
  · exact ⟨_, rfl, _, rfl, _, rfl, x, rfl, small_le (by omega), _, rfl, _, rfl, _, _, rfl, rfl, _, rfl, x, rfl, small_le (by omega), _, _, rfl, rfl, small_le (by omega), q _ (app_asc (cutS_asc hA _ _) (cutS_asc hA _ _)) (by rw [app_len]; omega)⟩
  refine ⟨_, rfl, .inl ⟨_, rfl, _, _, rfl, rfl, by show (0 : Int) < 5; decide, rfl, _, rfl, ite2 (fun _ => ?_) (fun _ => ?_)⟩⟩
  · obtain ⟨r0, r1⟩ := rng (way / 500) 9 (by decide)
    obtain ⟨m, em⟩ : ∃ m : Int, m = 2 + way / 500 % 9 := ⟨_, rfl⟩
    have mb : m.natAbs < 2 ^ 4 := by
      show m.natAbs < 16
      omega
    have up : ∀ {i : Int}, i.natAbs < 10 ^ 60 → i.natAbs < 2 ^ 200 := fun h => Nat.lt_of_lt_of_le h (by decide +kernel)
    have big : ∀ {i : Int}, i.natAbs < 10 ^ 60 → (i * m).natAbs < 10 ^ 62 := fun {i} h => by
      rw [Int.natAbs_mul]
      have h2 : m.natAbs < 100 := Nat.lt_trans mb (by decide)
      have h3 := Nat.mul_lt_mul'' h h2
      exact Nat.lt_of_lt_of_le h3 (by decide +kernel)
    have bigl : ∀ {i : Int}, i.natAbs < 10 ^ 60 → (Str.ofString (toString (i * m))).length ≤ 63 ∧ (i * m).natAbs.log2 < 1920 := fun h => ⟨strI_len (by decide) (big h), okInt_log (Nat.lt_trans (big h) (by decide +kernel))⟩
    obtain ⟨ln, gn⟩ := bigl hn
    obtain ⟨ld, gd⟩ := bigl hd
    subst em
    refine ⟨_, rfl, _, rfl, _, _, rfl, rfl, ⟨by decide, by decide⟩, _, _, rfl, rfl, by show (0 : Int) < 9; decide, _, _, rfl, rfl, _, _, rfl, rfl, wide_mul (up hn) mb (by decide) (by decide) (by decide), _, rfl, gn, _, slashS, rfl, rfl, small_le (by omega), _, rfl, _, rfl, _, _, rfl, rfl, ⟨by decide, by decide⟩, _, _, rfl, rfl, by show (0 : Int) < 9; decide, _, _, rfl, rfl, ?_⟩
    have la : (Str.ofString (toString (num * (2 + way / 500 % 9))) ++ slashS).length ≤ 64 := by rw [app_len]; omega
    exact ⟨_, _, rfl, rfl, wide_mul (up hd) mb (by decide) (by decide) (by decide), _, rfl, gd, _, _, rfl, rfl, small_le (by omega), q _ (app_asc (app_asc str_asc slash_asc) str_asc) (by rw [app_len]; omega)⟩
  have lp : ("+" : Str).length = 1 := by decide +kernel
  have ap : Asc ("+" : Str) := (asc_of (n := 100) (ss := ["+"]) (by decide +kernel) (List.mem_singleton.mpr rfl)).1
  exact ⟨_, rfl, ("+" : Str), x, rfl, rfl, small_le (by omega), q _ (app_asc ap hA) (by rw [app_len]; omega)⟩
/-! ### _law_reads -/
def sp_law_reads (T : Txt K mg) : Sp := fun vs H Q _ => ∃ (x : Str), vs = [.str x] ∧ Asc x ∧ x.length ≤ 600 ∧ ∀ H', Same H H' → Q (.bl true) H'

theorem ok_law_reads (T : Txt K mg) : FnOk P w K mg base CX0 10 T.a_law_reads T.d_law_reads ["text"] (sp_law_reads T) := by
  refine T.F_law_reads.ok sc_law_reads (fun vs H Q E h => ?_) (fun cdv A outer s H vs Q E hr h => ?_)
  · obtain ⟨x, rfl, _⟩ := h
    rfl
  obtain ⟨x, rfl, hA, hl, q'⟩ := h
  refine ⟨_, (pss_cons (ps_set (i := 1) sc_law_reads.nd rfl (by first | exact Or.inl rfl | exact Or.inr rfl) (pe_call (ok_law_terms T) (hr.mono (by decide)) (by rfl) T.m_law_terms T.F_law_terms.kp T.b_law_terms .nil pass0 (pa_cons (pv 0) pa_nil)))
      (pss_cons (ps_try_asN (i := 3) rfl rfl sc_law_reads.nd rfl rfl ⟨rfl, by decide, .inl T.m_GameError⟩ takes0 (fun W pn xe tk ow => (by exact (pss_one (ps_set (i := 2) sc_law_reads.nd rfl (by first | exact Or.inl rfl | exact Or.inr rfl) (pe_callSD (ok_read_ratio_x T) (hr.mono (by decide)) (by rfl) T.m_read_ratio T.F_read_ratio.kp T.b_read_ratio .nil (fun σ => passAt tk σ) (pa_cons (pv 0) pa_nil)))))) (fun ae oe cls d pn hz hf => (by exact (by exact (pss_one (by exact (ps_ret (by exact (by exact (pe_and (by exact (pe_cmpR op_isN (by exact (pv 1)) pe_non (nomark _))) (by exact (pe_and (by exact (pe_callB (call_isX hz hf) (by rfl) T.z_isinstance (by first | exact PySem.boot_isinstance | decide +kernel) (by exact (pa_cons (by exact (pv 3)) (pa_cons (by exact (pe_glob (v := .ref T.C_BadText) (by rfl) T.m_BadText rfl)) pa_nil))))) (by exact (pe_and (by exact (pe_callQ (ok_law_is_integer_q T) (roomS hr (by decide)) (by rfl) T.m_law_is_integer T.F_law_is_integer.kp T.b_law_is_integer (by exact (pa_cons (by exact (pe_xf T.e_BadText.xf T.e_BadText.no hz hf (by exact (pv 3)))) pa_nil)))) (pe_one (by exact (pe_cmpR op_eq (by exact (pe_xf T.e_BadText.xf T.e_BadText.no hz hf (by exact (pv 3)))) pe_int (nomark _))))))))))))))))))
      (pss_one (ps_ret (pe_and (pe_cmpR op_notN (pv 1) pe_non (nomark _)) (pe_one (pe_call (ok_law_is_ratio T) (hr.mono (by decide)) (by rfl) T.m_law_is_ratio T.F_law_is_ratio.kp T.b_law_is_ratio .nil pass0 (pa_cons (pv 2) (pa_cons (pe_ix ix_tup (pv 1) pe_int (fun _ _ => rfl)) (pa_cons (pe_ix ix_tup (pv 1) pe_int (fun _ _ => rfl)) pa_nil)))))))))), ?_⟩
  have bnd : ∀ {n : Nat}, n < 10 ^ 60 → n < 2 ^ 1900 := fun h => Nat.lt_of_lt_of_le h (Nat.le_trans (show 10 ^ 60 ≤ 2 ^ 200 by decide +kernel) (Nat.pow_le_pow_right (by decide) (by decide)))
  refine ⟨_, rfl, x, rfl, hA, hl, fun p0 q0 g t H1 s1 et => ?_, fun no H1 s1 => ?_⟩
  · refine ⟨_, rfl, x, rfl, hA, hl, fun p q g2 r H2 s2 RA => ?_, fun no => absurd g (no _ _)⟩
    obtain ⟨rfl, rfl⟩ := acc_uniq g2 g
    have e2 := s2 _ _ et
    refine ⟨_, rfl, rfl, _, rfl, iteT ?_⟩
    refine ⟨_, rfl, _, rfl, t, _, 0, _, rfl, rfl, SqT.of e2, rfl, _, rfl, t, _, 1, _, rfl, rfl, SqT.of e2, rfl, ?_⟩
    have := g.2.1
    exact ⟨r, p, q, p, q, rfl, RA, rt_self g.2.1 g.2.2.1, by omega, bnd g.2.2.2.1, bnd g.2.2.2.2, q' _ (s1.trans s2)⟩
  · refine ⟨_, rfl, x, rfl, hA, hl, fun p q g => absurd g (no _ _), fun _ d H2 s2 nd hv => ?_⟩
    refine ⟨true, T.t_BadText_GameError, fun _ ea nea => ?_, fun z => Bool.noConfusion z⟩
    refine ⟨_, rfl, rfl, _, rfl, iteT ?_⟩
    refine ⟨_, rfl, T.C_BadText, d, _, true, rfl, rfl, T.e_BadText.ox, T.e_BadText.xf, T.i_BadText, hv, .inl ⟨.ref T.C_BadText, .ref T.C_BadText, rfl, fun u h => h, T.kk_BadText_BadText⟩, true, rfl, iteT ?_⟩
    refine ⟨_, rfl, rfl, rfl, d, _, _, rfl, hv, rfl, 0, rfl, true, rfl, iteT ?_⟩
    refine ⟨_, rfl, rfl, rfl, d, _, _, rfl, hv, rfl, rfl, ?_⟩
    exact q' _ (s1.trans s2)
/-! ### law -/
def sp_law (T : Txt K mg) : Sp := spLaw K

theorem ok_law (T : Txt K mg) : FnOk P w K mg base CX0 12 T.a_law T.d_law ["script"] (sp_law T) := by
  refine T.F_law.ok sc_law (fun vs H Q E h => ?_) (fun cdv A outer s H vs Q E hr h => ?_)
  · obtain ⟨a, ns, rfl, _⟩ := h
    rfl
  obtain ⟨s0, ns, rfl, hS, h63, q⟩ := h
  refine ⟨_, (pss_cons (ps_for PassesOwn.never rfl (pi_range1 (by rfl) T.z_range (pa_cons (pe_op op_add pe_int (pe_op op_fdiv (pe_callB call_len_seq (by rfl) T.z_len (by first | exact PySem.boot_len | decide +kernel) (pa_cons (pv 0) pa_nil)) pe_int)) pa_nil)) (pg_name (i := 1) sc_law.nd rfl (by first | exact Or.inl rfl | exact Or.inr rfl)) (pss_cons (ps_set (i := 2) sc_law.nd rfl (by first | exact Or.inl rfl | exact Or.inr rfl) (pe_call (ok_law_number T) (hr.mono (by decide)) (by rfl) T.m_law_number T.F_law_number.kp T.b_law_number .nil pass0 (pa_cons (pe_call (ok_law_cell T) (hr.mono (by decide)) (by rfl) T.m_law_cell T.F_law_cell.kp T.b_law_cell .nil pass0 (pa_cons (pv 0) (pa_cons (pe_op op_mul pe_int (pv 1)) pa_nil))) pa_nil)))
      (C8.pss_cut (ps_if (pt_cmpR op_eq (pe_op op_mod (pe_callTy call_int1 (by rfl) T.z_int (by first | exact PySem.boot_int | decide +kernel) (pa_cons (pe_call (ok_law_cell T) (hr.mono (by decide)) (by rfl) T.m_law_cell T.F_law_cell.kp T.b_law_cell .nil pass0 (pa_cons (pv 0) (pa_cons (pe_op op_mul pe_int (pv 1)) pa_nil))) pa_nil)) pe_int) pe_int (nomark _)) (pss_one (ps_set (i := 2) sc_law.nd rfl (by first | exact Or.inl rfl | exact Or.inr rfl) (pe_op op_sub (pe_op op_mod (pe_op op_fdiv (pe_call (ok_law_cell T) (hr.mono (by decide)) (by rfl) T.m_law_cell T.F_law_cell.kp T.b_law_cell .nil pass0 (pa_cons (pv 0) (pa_cons (pe_op op_mul pe_int (pv 1)) pa_nil))) pe_int) (pe_op op_mul pe_int (pe_op op_pow pe_int pe_int))) (pe_op op_pow pe_int pe_int)))) pss_nil)
      (pss_cons (ps_set (i := 3) sc_law.nd rfl (by first | exact Or.inl rfl | exact Or.inr rfl) (pe_call (ok_law_positive T) (hr.mono (by decide)) (by rfl) T.m_law_positive T.F_law_positive.kp T.b_law_positive .nil pass0 (pa_cons (pe_call (ok_law_cell T) (hr.mono (by decide)) (by rfl) T.m_law_cell T.F_law_cell.kp T.b_law_cell .nil pass0 (pa_cons (pv 0) (pa_cons (pe_op op_add (pe_op op_mul pe_int (pv 1)) pe_int) pa_nil))) pa_nil)))
      (C8.pss_cut (ps_if (pt_cmpR op_eq (pe_op op_mod (pe_callTy call_int1 (by rfl) T.z_int (by first | exact PySem.boot_int | decide +kernel) (pa_cons (pe_call (ok_law_cell T) (hr.mono (by decide)) (by rfl) T.m_law_cell T.F_law_cell.kp T.b_law_cell .nil pass0 (pa_cons (pv 0) (pa_cons (pe_op op_add (pe_op op_mul pe_int (pv 1)) pe_int) pa_nil))) pa_nil)) pe_int) pe_int (nomark _)) (pss_one (ps_set (i := 3) sc_law.nd rfl (by first | exact Or.inl rfl | exact Or.inr rfl) pe_int)) pss_nil)
      (pss_cons (ps_set (i := 4) sc_law.nd rfl (by first | exact Or.inl rfl | exact Or.inr rfl) (pe_call (ok_law_written T) (hr.mono (by decide)) (by rfl) T.m_law_written T.F_law_written.kp T.b_law_written .nil pass0 (pa_cons (pv 2) (pa_cons (pv 3) pa_nil))))
      (pss_cons (ps_if (PW.pt (pw_or (pt_cmpR op_ne (pe_callTy (call_strI T.me_Ratio_str (ok_Ratio_str T) T.b_Ratio_str (hr.mono (by decide))) (by rfl) T.z_str (by first | exact PySem.boot_str | decide +kernel) (pa_cons (pe_make T.mk_Ratio (ok_Ratio_init T) (hr.mono (by decide)) (by rfl) T.m_Ratio T.b_Ratio_init .nil pass0 (pa_cons (pv 2) (pa_cons (pv 3) pa_nil))) pa_nil)) (pv 4) (nomark _)) (pw_or1 (pt_not (pt_truth (pe_call (ok_law_reads T) (hr.mono (by decide)) (by rfl) T.m_law_reads T.F_law_reads.kp T.b_law_reads .nil pass0 (pa_cons (pv 4) pa_nil)) (fun _ => rfl)))))) (pss_one (ps_ret pe_bl)) pss_nil)
      (pss_cons (ps_if (pt_not (pt_truth (pe_call (ok_law_is_ratio T) (hr.mono (by decide)) (by rfl) T.m_law_is_ratio T.F_law_is_ratio.kp T.b_law_is_ratio .nil pass0 (pa_cons (pe_call (ok_read_ratio T) (hr.mono (by decide)) (by rfl) T.m_read_ratio T.F_read_ratio.kp T.b_read_ratio .nil pass0 (pa_cons (pv 4) pa_nil)) (pa_cons (pv 2) (pa_cons (pv 3) pa_nil)))) (fun _ => rfl))) (pss_one (ps_ret pe_bl)) pss_nil)
      (pss_cons (ps_set (i := 5) sc_law.nd rfl (by first | exact Or.inl rfl | exact Or.inr rfl) (pe_op op_add pe_int (pe_op op_mod (pe_callB call_abs (by rfl) T.z_abs (by first | exact PySem.boot_abs | decide +kernel) (pa_cons (pe_call (ok_law_cell T) (hr.mono (by decide)) (by rfl) T.m_law_cell T.F_law_cell.kp T.b_law_cell .nil pass0 (pa_cons (pv 0) (pa_cons (pe_op op_add (pe_op op_mul pe_int (pv 1)) pe_int) pa_nil))) pa_nil)) (pe_op op_pow pe_int pe_int))))
      (pss_cons (ps_if (pt_not (pt_truth (pe_call (ok_law_reads T) (hr.mono (by decide)) (by rfl) T.m_law_reads T.F_law_reads.kp T.b_law_reads .nil pass0 (pa_cons (pe_call (ok_law_written T) (hr.mono (by decide)) (by rfl) T.m_law_written T.F_law_written.kp T.b_law_written .nil pass0 (pa_cons (pv 2) (pa_cons (pv 5) pa_nil))) pa_nil)) (fun _ => rfl))) (pss_one (ps_ret pe_bl)) pss_nil)
      (pss_one (ps_if (pt_not (pt_truth (pe_call (ok_law_reads T) (hr.mono (by decide)) (by rfl) T.m_law_reads T.F_law_reads.kp T.b_law_reads .nil pass0 (pa_cons (pe_call (ok_law_changed T) (hr.mono (by decide)) (by rfl) T.m_law_changed T.F_law_changed.kp T.b_law_changed .nil pass0 (pa_cons (pv 4) (pa_cons (pe_callB call_abs (by rfl) T.z_abs (by first | exact PySem.boot_abs | decide +kernel) (pa_cons (pe_call (ok_law_cell T) (hr.mono (by decide)) (by rfl) T.m_law_cell T.F_law_cell.kp T.b_law_cell .nil pass0 (pa_cons (pv 0) (pa_cons (pe_op op_add (pe_op op_mul pe_int (pv 1)) pe_int) pa_nil))) pa_nil)) (pa_cons (pv 2) (pa_cons (pv 3) pa_nil))))) pa_nil)) (fun _ => rfl))) (pss_one (ps_ret pe_bl)) pss_nil))))))))))))
      (pss_one (ps_ret pe_bl))), ?_⟩
  refine ⟨_, rfl, s0, _, rfl, .inl hS, _, _, rfl, rfl, ⟨by decide, by decide⟩, _, _, rfl, rfl, _, rfl, ?_, ?_, ?_⟩
  · rw [List.length_map]
    omega
  · rw [List.length_map]
    omega
  refine for_range (fun i σ' H' => ∃ y1 y2 y3 y4 y5, σ' = [some (.ref s0), y1, y2, y3, y4, y5] ∧ Same H H') ⟨_, _, _, _, _, rfl, Same.refl _⟩ ?_ (fun σ1 H1 _ => q _)
  rintro i σ1 H1 hi ⟨y1, y2, y3, y4, y5, rfl, s1⟩
  have hA := s1.seq (K := K) hS
  have ik : (0 : Int) + (i : Int) = (i : Int) := Int.zero_add _
  rw [ik]
  have cellX : ∀ k : Int, 0 ≤ k → True := fun _ _ => trivial
  refine ⟨_, rfl, _, rfl, _, _, rfl, rfl, .inl ⟨by decide, by decide⟩, s0, ns, 3 * (i : Int), rfl, hA, by omega, _, rfl, ?_⟩
  refine ⟨fun σ' H' => ∃ (num : Int), σ' = [some (.ref s0), some (.int (i : Int)), some (.int num), y3, y4, y5] ∧ H' = H1 ∧ num.natAbs < 10 ^ 60, ?_, ?_⟩
  · refine ⟨_, rfl, _, rfl, _, _, rfl, rfl, .inl ⟨by decide, by decide⟩, s0, ns, 3 * (i : Int), rfl, hA, by omega, .inl ⟨_, rfl, _, _, rfl, rfl, by show (0 : Int) < 7; decide, rfl, _, rfl, ite2 (fun _ => ?_) (fun _ => ?_)⟩⟩
    · refine ⟨_, rfl, _, rfl, _, _, rfl, rfl, .inl ⟨by decide, by decide⟩, s0, ns, 3 * (i : Int), rfl, hA, by omega, _, _, rfl, rfl, ⟨by decide, by decide⟩, _, _, rfl, rfl, ⟨by decide, by decide, by decide⟩, _, _, rfl, rfl, .inl ⟨by decide, by decide⟩, _, _, rfl, rfl, by show (0 : Int) < 2 * 10 ^ 59; decide, _, _, rfl, rfl, ⟨by decide, by decide, by decide⟩, _, _, rfl, rfl, ?_⟩
      refine ⟨_, rfl, rfl, ?_⟩
      have h5 : 0 ≤ (cell ns (3 * (i : Int)) / 7) % (2 * 10 ^ 59) := Int.emod_nonneg _ (by decide)
      have h6 : (cell ns (3 * (i : Int)) / 7) % (2 * 10 ^ 59) < 2 * 10 ^ 59 := Int.emod_lt_of_pos _ (by decide)
      show ((cell ns (3 * (i : Int)) / 7) % (2 * 10 ^ 59) - 10 ^ 59).natAbs < 10 ^ 60
      omega
    · exact ⟨_, rfl, rfl, Nat.lt_trans (lawNum_lt _) (by decide +kernel)⟩
  rintro σ2 H2 ⟨num, rfl, rfl, hn⟩
  refine ⟨_, rfl, _, rfl, _, _, rfl, rfl, .inl ⟨by decide, by decide⟩, _, _, rfl, rfl, s0, ns, 3 * (i : Int) + 1, rfl, hA, by omega, _, rfl, ?_⟩
  refine ⟨fun σ' H' => ∃ (den : Int), σ' = [some (.ref s0), some (.int (i : Int)), some (.int num), some (.int den), y4, y5] ∧ H' = H2 ∧ 0 < den ∧ den.natAbs < 10 ^ 60, ?_, ?_⟩
  · refine ⟨_, rfl, _, rfl, _, _, rfl, rfl, .inl ⟨by decide, by decide⟩, _, _, rfl, rfl, s0, ns, 3 * (i : Int) + 1, rfl, hA, by omega, .inl ⟨_, rfl, _, _, rfl, rfl, by show (0 : Int) < 4; decide, rfl, _, rfl, ite2 (fun _ => ?_) (fun _ => ?_)⟩⟩
    · exact ⟨_, rfl, rfl, by decide, by decide⟩
    · have h := lawPos_lt (cell ns (3 * (i : Int) + 1))
      exact ⟨_, rfl, rfl, h.1, Nat.lt_trans h.2 (by decide +kernel)⟩
  rintro σ3 H3 ⟨den, rfl, rfl, d1, hd⟩
  have d0 : den ≠ 0 := by omega
  obtain ⟨rt, mp, mq⟩ := rt_made (n := num) d0
  generalize num.fdiv (fac num den) = p at rt mp
  generalize den.fdiv (fac num den) = dq at rt mq
  have hp : p.natAbs < 10 ^ 60 := Nat.lt_of_le_of_lt mp hn
  have hq : dq.natAbs < 10 ^ 60 := Nat.lt_of_le_of_lt mq hd
  have up99 : ∀ {m : Nat}, m < 10 ^ 60 → m < 10 ^ 99 := fun h => Nat.lt_trans h (by decide +kernel)
  have up1900 : ∀ {m : Nat}, m < 10 ^ 60 → m < 2 ^ 1900 := fun h => Nat.lt_of_lt_of_le h (Nat.le_trans (show 10 ^ 60 ≤ 2 ^ 200 by decide +kernel) (Nat.pow_le_pow_right (by decide) (by decide)))
  refine ⟨_, rfl, _, rfl, num, den, p, dq, rfl, rt, d1, up99 hn, up99 hd, fun z hz => ?_⟩
  have za := ratT_asc hz
  have zl := ratT_len (by decide) hz hp hq
  refine ⟨_, rfl, _, rfl, ?_⟩
  refine make_ratio T d0 (lt60 hd) fun r p' q' H4 s4 _ RA rt' bp bq => ?_
  obtain ⟨ep, eq⟩ := rt_uniq rt' rt d0 d0 rfl
  subst ep eq
  obtain ⟨dr, er⟩ := id RA
  refine ⟨r, dr, _, rfl, er, ⟨r, p', q', rfl, RA, lt100 hp, lt100 hq, fun z' hz' => ⟨z', rfl, _, rfl, rfl, _, rfl, ?_⟩⟩⟩
  obtain rfl : z' = z := ext_toList (hz'.trans hz.symm)
  refine ite2 (fun c => ?_) (fun _ => ?_)
  · rw [decide_eq_true rfl] at c
    cases c
  refine ⟨_, rfl, z', rfl, za, by omega, fun H5 s5 => ⟨true, rfl, ?_⟩⟩
  refine iteF ?_
  refine ⟨_, rfl, z', p', q', rfl, za, by omega, ⟨hz, rt.1, rt.2.1, hp, hq⟩, fun r2 H6 s6 RB => ?_⟩
  refine ⟨_, rfl, _, rfl, r2, p', q', num, den, rfl, RB, rt, d0, up1900 hn, up1900 hd, true, rfl, ?_⟩
  have S6 := s1.trans (s4.trans (s5.trans s6))
  have hA6 := S6.seq (K := K) hS
  refine iteF ?_
  refine ⟨_, rfl, _, rfl, _, _, rfl, rfl, .inl ⟨by decide, by decide⟩, _, _, rfl, rfl, s0, ns, 3 * (i : Int) + 2, rfl, hA6, by omega, _, rfl, ?_⟩
  refine ⟨_, _, rfl, rfl, ⟨by decide, by decide, by decide⟩, _, _, rfl, rfl, by show (0 : Int) < 10 ^ 62; decide, _, _, rfl, rfl, ?_⟩
  obtain ⟨wide, ew⟩ : ∃ w, w = 1 + (if cell ns (3 * (i : Int) + 2) < 0 then -cell ns (3 * (i : Int) + 2) else cell ns (3 * (i : Int) + 2)) % 10 ^ 62 := ⟨_, rfl⟩
  have w0 : 0 < wide := by
    rw [ew]
    have := Int.emod_nonneg (if cell ns (3 * (i : Int) + 2) < 0 then -cell ns (3 * (i : Int) + 2) else cell ns (3 * (i : Int) + 2)) (show (10 ^ 62 : Int) ≠ 0 by decide)
    omega
  have w1 : wide.natAbs < 10 ^ 63 := by
    have h0 := Int.emod_lt_of_pos (if cell ns (3 * (i : Int) + 2) < 0 then -cell ns (3 * (i : Int) + 2) else cell ns (3 * (i : Int) + 2)) (show (0 : Int) < 10 ^ 62 by decide)
    rw [← Int.natAbs_of_nonneg (Int.le_of_lt w0)] at ew
    omega
  show gName 5 (V.int (1 + (if cell ns (3 * (i : Int) + 2) < 0 then -cell ns (3 * (i : Int) + 2) else cell ns (3 * (i : Int) + 2)) % 10 ^ 62)) _ _ _
  rw [← ew]
  clear ew
  obtain ⟨rt2, mp2, mq2⟩ := rt_made (n := num) (show wide ≠ 0 by omega)
  generalize num.fdiv (fac num wide) = p2 at rt2 mp2
  generalize wide.fdiv (fac num wide) = q2 at rt2 mq2
  refine ⟨_, rfl, _, rfl, num, wide, p2, q2, rfl, rt2, w0, up99 hn, Nat.lt_trans w1 (by decide +kernel), fun z2 hz2 => ?_⟩
  have l2 := ratT_len (k := 63) (by decide) hz2 (Nat.lt_of_le_of_lt mp2 (Nat.lt_trans hn (by decide +kernel))) (Nat.lt_of_le_of_lt mq2 w1)
  refine ⟨z2, rfl, ratT_asc hz2, by omega, fun H7 s7 => ⟨true, rfl, iteF ?_⟩⟩
  have S7 := S6.trans s7
  have hA7 := S7.seq (K := K) hS
  have a0 : 0 ≤ (if cell ns (3 * (i : Int) + 2) < 0 then -cell ns (3 * (i : Int) + 2) else cell ns (3 * (i : Int) + 2)) := by
    split
    · omega
    · omega
  refine ⟨_, rfl, _, rfl, _, rfl, _, _, rfl, rfl, .inl ⟨by decide, by decide⟩, _, _, rfl, rfl, s0, ns, 3 * (i : Int) + 2, rfl, hA7, by omega, _, rfl, _, rfl, _, rfl, z', _, num, den, rfl, za, by omega, a0, hn, hd, fun z3 a3 l3 => ?_⟩
  refine ⟨z3, rfl, a3, by omega, fun H8 s8 => ⟨true, rfl, iteF ?_⟩⟩
  exact ⟨_, _, _, _, _, rfl, S7.trans s8⟩
end
/-! ### what the top has written -/
theorem all_mk {l : PySem.W.OpenLaw} [PrOk l.prog] {w : World} {K : PySem.W.Frag} {h : Heap} {mg : Str → Option Value} {fa : Addr} (X : K.In h) (G : h.Ns mainGlobals mg) (hfa : mg "law" = some (.ref fa))
    {C_Ratio : Addr}
    {C_GameError : Addr}
    {C_BadRatio fe_BadRatio ce_BadRatio de_BadRatio ne_BadRatio : Addr} {nm_BadRatio qn_BadRatio : Str} {bs_BadRatio sb_BadRatio : List Value} {sn_BadRatio : List Str} {ab_BadRatio : Bool} {cl_BadRatio : Option Bool} {dd_BadRatio oe_BadRatio ae_BadRatio ge_BadRatio he_BadRatio : Option Addr} {k0_BadRatio k1_BadRatio k2_BadRatio k3_BadRatio k5_BadRatio : Option Value} {oce_BadRatio kve_BadRatio dce_BadRatio pme_BadRatio cte_BadRatio cle_BadRatio cme_BadRatio : Value} {sle_BadRatio sme_BadRatio sne_BadRatio : Array (Option Value)} {vse_BadRatio : Array Value} {tfe_BadRatio : Tok}
    {C_BadText fe_BadText ce_BadText de_BadText ne_BadText : Addr} {nm_BadText qn_BadText : Str} {bs_BadText sb_BadText : List Value} {sn_BadText : List Str} {ab_BadText : Bool} {cl_BadText : Option Bool} {dd_BadText oe_BadText ae_BadText ge_BadText he_BadText : Option Addr} {k0_BadText k1_BadText k2_BadText k3_BadText k5_BadText : Option Value} {oce_BadText kve_BadText dce_BadText pme_BadText cte_BadText cle_BadText cme_BadText : Value} {sle_BadText sme_BadText sne_BadText : Array (Option Value)} {vse_BadText : Array Value} {tfe_BadText : Tok}
    {f1 : Addr} {od1 an1 : Option Addr} {sl1 : Array (Option Value)} {oc1 kV1 dc1 pm1 cd1 ct1 : Value}
    {Tt1 : Addr} {tc1 : Value} {td1 : Option Addr} {tn1 : Nat} {tl1 : Array (Option Value)} {tk1 : Tok}
    {f2 : Addr} {od2 an2 : Option Addr} {sl2 : Array (Option Value)} {oc2 kV2 dc2 pm2 cd2 ct2 : Value}
    {f3 : Addr} {od3 an3 : Option Addr} {sl3 : Array (Option Value)} {oc3 kV3 dc3 pm3 cd3 ct3 : Value}
    {f4 : Addr} {od4 an4 : Option Addr} {sl4 : Array (Option Value)} {oc4 kV4 dc4 pm4 cd4 ct4 : Value}
    {f5 : Addr} {od5 an5 : Option Addr} {sl5 : Array (Option Value)} {oc5 kV5 dc5 pm5 cd5 ct5 : Value}
    {f6 : Addr} {od6 an6 : Option Addr} {sl6 : Array (Option Value)} {oc6 kV6 dc6 pm6 cd6 ct6 : Value}
    {f7 : Addr} {od7 an7 : Option Addr} {sl7 : Array (Option Value)} {oc7 kV7 dc7 pm7 cd7 ct7 : Value}
    {f8 : Addr} {od8 an8 : Option Addr} {sl8 : Array (Option Value)} {oc8 kV8 dc8 pm8 cd8 ct8 : Value}
    {f9 : Addr} {od9 an9 : Option Addr} {sl9 : Array (Option Value)} {oc9 kV9 dc9 pm9 cd9 ct9 : Value}
    {f10 : Addr} {od10 an10 : Option Addr} {sl10 : Array (Option Value)} {oc10 kV10 dc10 pm10 cd10 ct10 : Value}
    {f11 : Addr} {od11 an11 : Option Addr} {sl11 : Array (Option Value)} {oc11 kV11 dc11 pm11 cd11 ct11 : Value}
    {f12 : Addr} {od12 an12 : Option Addr} {sl12 : Array (Option Value)} {oc12 kV12 dc12 pm12 cd12 ct12 : Value}
    {f13 : Addr} {od13 an13 : Option Addr} {sl13 : Array (Option Value)} {oc13 kV13 dc13 pm13 cd13 ct13 : Value}
    {f14 : Addr} {od14 an14 : Option Addr} {sl14 : Array (Option Value)} {oc14 kV14 dc14 pm14 cd14 ct14 : Value}
    {f15 : Addr} {od15 an15 : Option Addr} {sl15 : Array (Option Value)} {oc15 kV15 dc15 pm15 cd15 ct15 : Value}
    {f16 : Addr} {od16 an16 : Option Addr} {sl16 : Array (Option Value)} {oc16 kV16 dc16 pm16 cd16 ct16 : Value}
    {f17 : Addr} {od17 an17 : Option Addr} {sl17 : Array (Option Value)} {oc17 kV17 dc17 pm17 cd17 ct17 : Value}
    {f18 : Addr} {od18 an18 : Option Addr} {sl18 : Array (Option Value)} {oc18 kV18 dc18 pm18 cd18 ct18 : Value}
    {f19 : Addr} {od19 an19 : Option Addr} {sl19 : Array (Option Value)} {oc19 kV19 dc19 pm19 cd19 ct19 : Value}
    {f20 : Addr} {od20 an20 : Option Addr} {sl20 : Array (Option Value)} {oc20 kV20 dc20 pm20 cd20 ct20 : Value}
    {f21 : Addr} {od21 an21 : Option Addr} {sl21 : Array (Option Value)} {oc21 kV21 dc21 pm21 cd21 ct21 : Value}
    {f22 : Addr} {od22 an22 : Option Addr} {sl22 : Array (Option Value)} {oc22 kV22 dc22 pm22 cd22 ct22 : Value}
    {f23 : Addr} {od23 an23 : Option Addr} {sl23 : Array (Option Value)} {oc23 kV23 dc23 pm23 cd23 ct23 : Value}
    (ac_Ratio : PySem.W.nsIn K mainGlobals "Ratio" = some (some (.ref C_Ratio)))
    (pg_Ratio : PySem.W.plainGet K C_Ratio Str.empty = true)
    (hd_Ratio : PySem.W.hasDictIn K C_Ratio = true)
    (po_Ratio : PySem.W.plainOver K C_Ratio = true)
    (sa_Ratio : PySem.W.findIn K (.ref C_Ratio) "__setattr__" = some (some (.builtin "object.__setattr__")))
    (mkc_Ratio : PySem.W.makesIn K C_Ratio = true)
    (kpc_Ratio : PySem.W.keepIn K (.ref C_Ratio) = true)
    (na_Ratio_num : PySem.W.findIn K (.ref C_Ratio) "num" = some none)
    (na_Ratio_den : PySem.W.findIn K (.ref C_Ratio) "den" = some none)
    (sf_Ratio : PySem.W.selfFirst K C_Ratio = true)
    (xa_Ratio : PySem.W.findIn K (.ref C_Ratio) "__class__" = some (some (.builtin "object.__class__")))
    (xn_Ratio : PySem.W.specialIn K (.builtin "object.__class__") "__get__" = some (some (.builtin "getset_descriptor.__get__")))
    (xt_Ratio : PySem.W.takesIn K (.builtin "object.__class__") = some true)
    (xm_Ratio : PySem.W.mroIn K C_Ratio (.type "object") = some true)
    (ac_GameError : PySem.W.nsIn K mainGlobals "GameError" = some (some (.ref C_GameError)))
    (re_GameError : PySem.W.subIn K (.ref C_GameError) (.type "BaseException") = some true)
    (ri_GameError : PySem.W.isClsIn K C_GameError = true)
    (ac_BadRatio : PySem.W.nsIn K mainGlobals "BadRatio" = some (some (.ref C_BadRatio)))
    (xl_BadRatio : K.lookup C_BadRatio = some (excClassObj nm_BadRatio qn_BadRatio C_BadRatio ne_BadRatio bs_BadRatio [.ref C_GameError, .type "ValueError", .type "Exception", .type "BaseException", .type "object"] true sn_BadRatio sb_BadRatio ab_BadRatio cl_BadRatio dd_BadRatio k0_BadRatio k1_BadRatio k2_BadRatio k3_BadRatio k5_BadRatio "ValueError.__new__"))
    (esa_BadRatio : PySem.W.findIn K (.ref C_BadRatio) "__setattr__" = some (some (.builtin "object.__setattr__")))
    (exc_BadRatio : PySem.W.subIn K (.ref C_BadRatio) (.type "BaseException") = some true)
    (ety_BadRatio : PySem.W.typeIn K (.ref C_BadRatio) = some (.type "type"))
    (ekp_BadRatio : PySem.W.keepIn K (.ref C_BadRatio) = true)
    (ega_BadRatio : PySem.W.findIn K (.ref C_BadRatio) "__getattribute__" = some (some (.builtin "BaseException.__getattribute__")))
    (egg_BadRatio : PySem.W.findIn K (.ref C_BadRatio) "__getattr__" = some none)
    (ehd_BadRatio : PySem.W.hasDictIn K C_BadRatio = true)
    (eno_BadRatio : PySem.W.findIn K (.ref C_BadRatio) "value" = some none)
    (ein_BadRatio : PySem.W.findIn K (.ref C_BadRatio) "__init__" = some (some (.ref fe_BadRatio)))
    (eit_BadRatio : PySem.W.typeIn K (.ref fe_BadRatio) = some (.type "function"))
    (eic_BadRatio : PySem.W.isClsIn K C_BadRatio = true)
    (ess_BadRatio : PySem.W.subIn K (.ref C_BadRatio) (.ref C_BadRatio) = some true)
    (elk_BadRatio : K.lookup fe_BadRatio = some ⟨oce_BadRatio, oe_BadRatio, .func (PySem.W.ksFn "__init__" "BadRatio.__init__" (defArgs s_BadRatio_init) (defBody s_BadRatio_init) (defScope s_BadRatio_init) .none kve_BadRatio dce_BadRatio pme_BadRatio ae_BadRatio (.ref ce_BadRatio) cte_BadRatio de_BadRatio), sle_BadRatio⟩)
    (ecd_BadRatio : PySem.W.codeIn K (.ref ce_BadRatio) "BadRatio.__init__" = true)
    (eco_BadRatio : K.lookup ce_BadRatio = some ⟨cle_BadRatio, ge_BadRatio, .fields vse_BadRatio, sme_BadRatio⟩)
    (evs_BadRatio : vse_BadRatio[2]? = some (.str "/claim/cut.py" tfe_BadRatio))
    (ecc_BadRatio : K.lookup de_BadRatio = some ⟨cme_BadRatio, he_BadRatio, .cell (some (.ref C_BadRatio)), sne_BadRatio⟩)
    (esu_BadRatio : PySem.W.ks_superIn K C_BadRatio C_BadRatio "__init__" = some (some (.builtin "ValueError.__init__")))
    (evb_BadRatio : PySem.W.subIn K (.ref C_BadRatio) (.type "ValueError") = some true)
    (emr_BadRatio : PySem.W.mroIn K C_BadRatio (.ref C_BadRatio) = some true)
    (eha_BadRatio : PySem.W.findIn K (.ref C_BadRatio) "__class__" = some (some (.builtin "object.__class__")))
    (ehm_BadRatio : PySem.W.mroIn K C_BadRatio (.type "object") = some true)
    (ex_BadText_BadRatio : PySem.W.subIn K (.ref C_BadRatio) (.ref C_BadText) = some false)
    (esr_GameError_BadRatio : PySem.W.subIn K (.ref C_BadRatio) (.ref C_GameError) = some true)
    (ert_GameError_BadRatio : PySem.W.typeIn K (.ref C_GameError) = some (.type "type"))
    (ac_BadText : PySem.W.nsIn K mainGlobals "BadText" = some (some (.ref C_BadText)))
    (xl_BadText : K.lookup C_BadText = some (excClassObj nm_BadText qn_BadText C_BadText ne_BadText bs_BadText [.ref C_GameError, .type "ValueError", .type "Exception", .type "BaseException", .type "object"] true sn_BadText sb_BadText ab_BadText cl_BadText dd_BadText k0_BadText k1_BadText k2_BadText k3_BadText k5_BadText "ValueError.__new__"))
    (esa_BadText : PySem.W.findIn K (.ref C_BadText) "__setattr__" = some (some (.builtin "object.__setattr__")))
    (exc_BadText : PySem.W.subIn K (.ref C_BadText) (.type "BaseException") = some true)
    (ety_BadText : PySem.W.typeIn K (.ref C_BadText) = some (.type "type"))
    (ekp_BadText : PySem.W.keepIn K (.ref C_BadText) = true)
    (ega_BadText : PySem.W.findIn K (.ref C_BadText) "__getattribute__" = some (some (.builtin "BaseException.__getattribute__")))
    (egg_BadText : PySem.W.findIn K (.ref C_BadText) "__getattr__" = some none)
    (ehd_BadText : PySem.W.hasDictIn K C_BadText = true)
    (eno_BadText : PySem.W.findIn K (.ref C_BadText) "at" = some none)
    (ein_BadText : PySem.W.findIn K (.ref C_BadText) "__init__" = some (some (.ref fe_BadText)))
    (eit_BadText : PySem.W.typeIn K (.ref fe_BadText) = some (.type "function"))
    (eic_BadText : PySem.W.isClsIn K C_BadText = true)
    (ess_BadText : PySem.W.subIn K (.ref C_BadText) (.ref C_BadText) = some true)
    (elk_BadText : K.lookup fe_BadText = some ⟨oce_BadText, oe_BadText, .func (PySem.W.ksFn "__init__" "BadText.__init__" (defArgs s_BadText_init) (defBody s_BadText_init) (defScope s_BadText_init) .none kve_BadText dce_BadText pme_BadText ae_BadText (.ref ce_BadText) cte_BadText de_BadText), sle_BadText⟩)
    (ecd_BadText : PySem.W.codeIn K (.ref ce_BadText) "BadText.__init__" = true)
    (eco_BadText : K.lookup ce_BadText = some ⟨cle_BadText, ge_BadText, .fields vse_BadText, sme_BadText⟩)
    (evs_BadText : vse_BadText[2]? = some (.str "/claim/cut.py" tfe_BadText))
    (ecc_BadText : K.lookup de_BadText = some ⟨cme_BadText, he_BadText, .cell (some (.ref C_BadText)), sne_BadText⟩)
    (esu_BadText : PySem.W.ks_superIn K C_BadText C_BadText "__init__" = some (some (.builtin "ValueError.__init__")))
    (evb_BadText : PySem.W.subIn K (.ref C_BadText) (.type "ValueError") = some true)
    (emr_BadText : PySem.W.mroIn K C_BadText (.ref C_BadText) = some true)
    (eha_BadText : PySem.W.findIn K (.ref C_BadText) "__class__" = some (some (.builtin "object.__class__")))
    (ehm_BadText : PySem.W.mroIn K C_BadText (.type "object") = some true)
    (ex_BadRatio_BadText : PySem.W.subIn K (.ref C_BadText) (.ref C_BadRatio) = some false)
    (esr_GameError_BadText : PySem.W.subIn K (.ref C_BadText) (.ref C_GameError) = some true)
    (ert_GameError_BadText : PySem.W.typeIn K (.ref C_GameError) = some (.type "type"))
    (ehn : PySem.W.specialIn K (.builtin "object.__class__") "__get__" = some (some (.builtin "getset_descriptor.__get__")))
    (eht : PySem.W.takesIn K (.builtin "object.__class__") = some true)
    (opq : PySem.W.nsIn K cStatics "thirdparty.any" = some none)
    (z_super : PySem.W.nsIn K mainGlobals "super" = some none)
    (a1 : PySem.W.findIn K (.ref C_Ratio) "__init__" = some (some (.ref f1)))
    (i1 : PySem.W.isFn K (.ref f1) = true)
    (l1 : K.lookup f1 = some ⟨oc1, od1, .func (PySem.W.fnOf "__init__" "Ratio.__init__" (defArgs s_Ratio_init) (defBody s_Ratio_init) (defScope s_Ratio_init) (.ref Tt1) kV1 dc1 pm1 an1 cd1 ct1), sl1⟩)
    (c1 : PySem.W.codeIn K cd1 "Ratio.__init__" = true)
    (k1 : PySem.W.keepIn K (.ref f1) = true)
    (t1 : K.lookup Tt1 = some ⟨tc1, td1, .seq #[.int 1 tk1] tn1, tl1⟩)
    (a2 : PySem.W.findIn K (.ref C_Ratio) "__add__" = some (some (.ref f2)))
    (i2 : PySem.W.isFn K (.ref f2) = true)
    (l2 : K.lookup f2 = some ⟨oc2, od2, .func (PySem.W.fnOf "__add__" "Ratio.__add__" (defArgs s_Ratio_add) (defBody s_Ratio_add) (defScope s_Ratio_add) .none kV2 dc2 pm2 an2 cd2 ct2), sl2⟩)
    (c2 : PySem.W.codeIn K cd2 "Ratio.__add__" = true)
    (k2 : PySem.W.keepIn K (.ref f2) = true)
    (a3 : PySem.W.findIn K (.ref C_Ratio) "__sub__" = some (some (.ref f3)))
    (i3 : PySem.W.isFn K (.ref f3) = true)
    (l3 : K.lookup f3 = some ⟨oc3, od3, .func (PySem.W.fnOf "__sub__" "Ratio.__sub__" (defArgs s_Ratio_sub) (defBody s_Ratio_sub) (defScope s_Ratio_sub) .none kV3 dc3 pm3 an3 cd3 ct3), sl3⟩)
    (c3 : PySem.W.codeIn K cd3 "Ratio.__sub__" = true)
    (k3 : PySem.W.keepIn K (.ref f3) = true)
    (a4 : PySem.W.findIn K (.ref C_Ratio) "__mul__" = some (some (.ref f4)))
    (i4 : PySem.W.isFn K (.ref f4) = true)
    (l4 : K.lookup f4 = some ⟨oc4, od4, .func (PySem.W.fnOf "__mul__" "Ratio.__mul__" (defArgs s_Ratio_mul) (defBody s_Ratio_mul) (defScope s_Ratio_mul) .none kV4 dc4 pm4 an4 cd4 ct4), sl4⟩)
    (c4 : PySem.W.codeIn K cd4 "Ratio.__mul__" = true)
    (k4 : PySem.W.keepIn K (.ref f4) = true)
    (a5 : PySem.W.findIn K (.ref C_Ratio) "__neg__" = some (some (.ref f5)))
    (i5 : PySem.W.isFn K (.ref f5) = true)
    (l5 : K.lookup f5 = some ⟨oc5, od5, .func (PySem.W.fnOf "__neg__" "Ratio.__neg__" (defArgs s_Ratio_neg) (defBody s_Ratio_neg) (defScope s_Ratio_neg) .none kV5 dc5 pm5 an5 cd5 ct5), sl5⟩)
    (c5 : PySem.W.codeIn K cd5 "Ratio.__neg__" = true)
    (k5 : PySem.W.keepIn K (.ref f5) = true)
    (a6 : PySem.W.findIn K (.ref C_Ratio) "__eq__" = some (some (.ref f6)))
    (i6 : PySem.W.isFn K (.ref f6) = true)
    (l6 : K.lookup f6 = some ⟨oc6, od6, .func (PySem.W.fnOf "__eq__" "Ratio.__eq__" (defArgs s_Ratio_eq) (defBody s_Ratio_eq) (defScope s_Ratio_eq) .none kV6 dc6 pm6 an6 cd6 ct6), sl6⟩)
    (c6 : PySem.W.codeIn K cd6 "Ratio.__eq__" = true)
    (k6 : PySem.W.keepIn K (.ref f6) = true)
    (a7 : PySem.W.findIn K (.ref C_Ratio) "__ne__" = some (some (.ref f7)))
    (i7 : PySem.W.isFn K (.ref f7) = true)
    (l7 : K.lookup f7 = some ⟨oc7, od7, .func (PySem.W.fnOf "__ne__" "Ratio.__ne__" (defArgs s_Ratio_ne) (defBody s_Ratio_ne) (defScope s_Ratio_ne) .none kV7 dc7 pm7 an7 cd7 ct7), sl7⟩)
    (c7 : PySem.W.codeIn K cd7 "Ratio.__ne__" = true)
    (k7 : PySem.W.keepIn K (.ref f7) = true)
    (a8 : PySem.W.findIn K (.ref C_Ratio) "__str__" = some (some (.ref f8)))
    (i8 : PySem.W.isFn K (.ref f8) = true)
    (l8 : K.lookup f8 = some ⟨oc8, od8, .func (PySem.W.fnOf "__str__" "Ratio.__str__" (defArgs s_Ratio_str) (defBody s_Ratio_str) (defScope s_Ratio_str) .none kV8 dc8 pm8 an8 cd8 ct8), sl8⟩)
    (c8 : PySem.W.codeIn K cd8 "Ratio.__str__" = true)
    (k8 : PySem.W.keepIn K (.ref f8) = true)
    (a9 : PySem.W.findIn K (.ref C_Ratio) "sign" = some (some (.ref f9)))
    (i9 : PySem.W.isFn K (.ref f9) = true)
    (l9 : K.lookup f9 = some ⟨oc9, od9, .func (PySem.W.fnOf "sign" "Ratio.sign" (defArgs s_Ratio_sign) (defBody s_Ratio_sign) (defScope s_Ratio_sign) .none kV9 dc9 pm9 an9 cd9 ct9), sl9⟩)
    (c9 : PySem.W.codeIn K cd9 "Ratio.sign" = true)
    (k9 : PySem.W.keepIn K (.ref f9) = true)
    (a10 : PySem.W.nsIn K mainGlobals "_has_digits" = some (some (.ref f10)))
    (l10 : K.lookup f10 = some ⟨oc10, od10, .func (PySem.W.fnOf "_has_digits" "_has_digits" (defArgs s_has_digits) (defBody s_has_digits) (defScope s_has_digits) .none kV10 dc10 pm10 an10 cd10 ct10), sl10⟩)
    (c10 : PySem.W.codeIn K cd10 "_has_digits" = true)
    (k10 : PySem.W.keepIn K (.ref f10) = true)
    (a11 : PySem.W.nsIn K mainGlobals "read_ratio" = some (some (.ref f11)))
    (l11 : K.lookup f11 = some ⟨oc11, od11, .func (PySem.W.fnOf "read_ratio" "read_ratio" (defArgs s_read_ratio) (defBody s_read_ratio) (defScope s_read_ratio) .none kV11 dc11 pm11 an11 cd11 ct11), sl11⟩)
    (c11 : PySem.W.codeIn K cd11 "read_ratio" = true)
    (k11 : PySem.W.keepIn K (.ref f11) = true)
    (a12 : PySem.W.nsIn K mainGlobals "_law_cell" = some (some (.ref f12)))
    (l12 : K.lookup f12 = some ⟨oc12, od12, .func (PySem.W.fnOf "_law_cell" "_law_cell" (defArgs s_law_cell) (defBody s_law_cell) (defScope s_law_cell) .none kV12 dc12 pm12 an12 cd12 ct12), sl12⟩)
    (c12 : PySem.W.codeIn K cd12 "_law_cell" = true)
    (k12 : PySem.W.keepIn K (.ref f12) = true)
    (a13 : PySem.W.nsIn K mainGlobals "_law_is_integer" = some (some (.ref f13)))
    (l13 : K.lookup f13 = some ⟨oc13, od13, .func (PySem.W.fnOf "_law_is_integer" "_law_is_integer" (defArgs s_law_is_integer) (defBody s_law_is_integer) (defScope s_law_is_integer) .none kV13 dc13 pm13 an13 cd13 ct13), sl13⟩)
    (c13 : PySem.W.codeIn K cd13 "_law_is_integer" = true)
    (k13 : PySem.W.keepIn K (.ref f13) = true)
    (a14 : PySem.W.nsIn K mainGlobals "_law_gcd" = some (some (.ref f14)))
    (l14 : K.lookup f14 = some ⟨oc14, od14, .func (PySem.W.fnOf "_law_gcd" "_law_gcd" (defArgs s_law_gcd) (defBody s_law_gcd) (defScope s_law_gcd) .none kV14 dc14 pm14 an14 cd14 ct14), sl14⟩)
    (c14 : PySem.W.codeIn K cd14 "_law_gcd" = true)
    (k14 : PySem.W.keepIn K (.ref f14) = true)
    (a15 : PySem.W.nsIn K mainGlobals "_law_is_ratio" = some (some (.ref f15)))
    (l15 : K.lookup f15 = some ⟨oc15, od15, .func (PySem.W.fnOf "_law_is_ratio" "_law_is_ratio" (defArgs s_law_is_ratio) (defBody s_law_is_ratio) (defScope s_law_is_ratio) .none kV15 dc15 pm15 an15 cd15 ct15), sl15⟩)
    (c15 : PySem.W.codeIn K cd15 "_law_is_ratio" = true)
    (k15 : PySem.W.keepIn K (.ref f15) = true)
    (a16 : PySem.W.nsIn K mainGlobals "_law_number" = some (some (.ref f16)))
    (l16 : K.lookup f16 = some ⟨oc16, od16, .func (PySem.W.fnOf "_law_number" "_law_number" (defArgs s_law_number) (defBody s_law_number) (defScope s_law_number) .none kV16 dc16 pm16 an16 cd16 ct16), sl16⟩)
    (c16 : PySem.W.codeIn K cd16 "_law_number" = true)
    (k16 : PySem.W.keepIn K (.ref f16) = true)
    (a17 : PySem.W.nsIn K mainGlobals "_law_positive" = some (some (.ref f17)))
    (l17 : K.lookup f17 = some ⟨oc17, od17, .func (PySem.W.fnOf "_law_positive" "_law_positive" (defArgs s_law_positive) (defBody s_law_positive) (defScope s_law_positive) .none kV17 dc17 pm17 an17 cd17 ct17), sl17⟩)
    (c17 : PySem.W.codeIn K cd17 "_law_positive" = true)
    (k17 : PySem.W.keepIn K (.ref f17) = true)
    (a18 : PySem.W.nsIn K mainGlobals "_law_written" = some (some (.ref f18)))
    (l18 : K.lookup f18 = some ⟨oc18, od18, .func (PySem.W.fnOf "_law_written" "_law_written" (defArgs s_law_written) (defBody s_law_written) (defScope s_law_written) .none kV18 dc18 pm18 an18 cd18 ct18), sl18⟩)
    (c18 : PySem.W.codeIn K cd18 "_law_written" = true)
    (k18 : PySem.W.keepIn K (.ref f18) = true)
    (a19 : PySem.W.nsIn K mainGlobals "_law_digits" = some (some (.ref f19)))
    (l19 : K.lookup f19 = some ⟨oc19, od19, .func (PySem.W.fnOf "_law_digits" "_law_digits" (defArgs s_law_digits) (defBody s_law_digits) (defScope s_law_digits) .none kV19 dc19 pm19 an19 cd19 ct19), sl19⟩)
    (c19 : PySem.W.codeIn K cd19 "_law_digits" = true)
    (k19 : PySem.W.keepIn K (.ref f19) = true)
    (a20 : PySem.W.nsIn K mainGlobals "_law_terms" = some (some (.ref f20)))
    (l20 : K.lookup f20 = some ⟨oc20, od20, .func (PySem.W.fnOf "_law_terms" "_law_terms" (defArgs s_law_terms) (defBody s_law_terms) (defScope s_law_terms) .none kV20 dc20 pm20 an20 cd20 ct20), sl20⟩)
    (c20 : PySem.W.codeIn K cd20 "_law_terms" = true)
    (k20 : PySem.W.keepIn K (.ref f20) = true)
    (a21 : PySem.W.nsIn K mainGlobals "_law_changed" = some (some (.ref f21)))
    (l21 : K.lookup f21 = some ⟨oc21, od21, .func (PySem.W.fnOf "_law_changed" "_law_changed" (defArgs s_law_changed) (defBody s_law_changed) (defScope s_law_changed) .none kV21 dc21 pm21 an21 cd21 ct21), sl21⟩)
    (c21 : PySem.W.codeIn K cd21 "_law_changed" = true)
    (k21 : PySem.W.keepIn K (.ref f21) = true)
    (a22 : PySem.W.nsIn K mainGlobals "_law_reads" = some (some (.ref f22)))
    (l22 : K.lookup f22 = some ⟨oc22, od22, .func (PySem.W.fnOf "_law_reads" "_law_reads" (defArgs s_law_reads) (defBody s_law_reads) (defScope s_law_reads) .none kV22 dc22 pm22 an22 cd22 ct22), sl22⟩)
    (c22 : PySem.W.codeIn K cd22 "_law_reads" = true)
    (k22 : PySem.W.keepIn K (.ref f22) = true)
    (a23 : PySem.W.nsIn K mainGlobals "law" = some (some (.ref f23)))
    (l23 : K.lookup f23 = some ⟨oc23, od23, .func (PySem.W.fnOf "law" "law" (defArgs s_law) (defBody s_law) (defScope s_law) .none kV23 dc23 pm23 an23 cd23 ct23), sl23⟩)
    (c23 : PySem.W.codeIn K cd23 "law" = true)
    (k23 : PySem.W.keepIn K (.ref f23) = true)
    (g_gcd : PySem.W.nsIn K mainGlobals "gcd" = some (some (.builtin "math.gcd")))
    (z_abs : PySem.W.nsIn K mainGlobals "abs" = some none)
    (z_bool : PySem.W.nsIn K mainGlobals "bool" = some none)
    (z_int : PySem.W.nsIn K mainGlobals "int" = some none)
    (z_isinstance : PySem.W.nsIn K mainGlobals "isinstance" = some none)
    (z_len : PySem.W.nsIn K mainGlobals "len" = some none)
    (z_range : PySem.W.nsIn K mainGlobals "range" = some none)
    (z_str : PySem.W.nsIn K mainGlobals "str" = some none) :
    ∃ fd : FuncData, (∀ (s : Shared) (v : Value), BindsTo s fd ⟨[v], []⟩ [("script", v)]) ∧ ∀ base : Heap, K.In base → base.Ns mainGlobals mg → FnOk l.prog w K mg base CX0 12 fa fd ["script"] (spLaw K) := by
  have e := hfa.symm.trans (PySem.W.mg_of X G a23)
  cases e
  have FD1 : FunD K "__init__" "Ratio.__init__" (defArgs s_Ratio_init) (defBody s_Ratio_init) (defScope s_Ratio_init) [.int 1] [] f1 _ := ⟨⟨_, _, _, _, _, _, _, _, _, _, rfl, l1, c1, .inr ⟨(by simp), _, _, _, _, rfl, t1, rfl, (.cons (by first | exact ⟨_, rfl⟩ | rfl) .nil)⟩, .inl rfl⟩, k1⟩
  obtain ⟨dz1, vz1, bz1⟩ := FD1.binds1 (ps := ["self", "num", "den"]) 3 1 (by simp) (by first | decide | rfl) (fun _ _ _ _ _ _ _ us its h1 h2 => match us, its, h1, h2 with | [_, _, _], [_], _, _ => ⟨_, rfl, rfl⟩)
  cases vz1
  obtain ⟨ds1, vd1, bd1⟩ := FD1.binds1 (ps := ["self", "num", "den"]) 2 0 (by simp) (by first | decide | rfl) (fun _ _ _ _ _ _ _ us its h1 h2 => match us, its, h1, h2 with | [_, _], [_], _, _ => ⟨_, rfl, rfl⟩)
  let T : Txt K mg := { C_Ratio := C_Ratio, m_Ratio := PySem.W.mg_of X G ac_Ratio, cl_Ratio := ⟨pg_Ratio, hd_Ratio, po_Ratio, sa_Ratio⟩, n_Ratio_num := na_Ratio_num, n_Ratio_den := na_Ratio_den, sf_Ratio := sf_Ratio, ic_Ratio := ⟨⟨pg_Ratio, hd_Ratio, po_Ratio, sa_Ratio⟩, xa_Ratio, xn_Ratio, xt_Ratio, xm_Ratio, (by unfold PySem.W.kitOne; simp)⟩, C_GameError := C_GameError, m_GameError := PySem.W.mg_of X G ac_GameError, C_BadRatio := C_BadRatio, a_BadRatio_init := fe_BadRatio, d_BadRatio_init := _, m_BadRatio := PySem.W.mg_of X G ac_BadRatio, e_BadRatio := ⟨⟨⟨_, _, _, _, _, _, _, _, _, _, _, _, _, _, _, xl_BadRatio, rfl⟩, esa_BadRatio, exc_BadRatio, ety_BadRatio, ekp_BadRatio⟩, ⟨ega_BadRatio, egg_BadRatio, exc_BadRatio, ehd_BadRatio⟩, eno_BadRatio, ein_BadRatio, eit_BadRatio, ⟨_, _, _, _, _, _, _, _, _, _, _, _, _, _, _, _, _, _, rfl, elk_BadRatio, ecd_BadRatio, eco_BadRatio, evs_BadRatio, ecc_BadRatio, esu_BadRatio, evb_BadRatio, emr_BadRatio, opq⟩⟩, b_BadRatio_init := .all (fun us hl => match us, hl with | [_, _], _ => rfl), t_BadRatio := exm_self exc_BadRatio eic_BadRatio ety_BadRatio ess_BadRatio, i_BadRatio := ⟨eha_BadRatio, ehn, eht, ehm_BadRatio⟩, kv_BadRatio := kit_val evb_BadRatio, kk_BadRatio_BadRatio := kit_own ess_BadRatio eic_BadRatio ety_BadRatio ess_BadRatio, kk_BadRatio_BadText := kit_own ex_BadText_BadRatio eic_BadText ety_BadText ess_BadRatio, t_BadRatio_GameError := exm_sup re_GameError ri_GameError ert_GameError_BadRatio esr_GameError_BadRatio, C_BadText := C_BadText, a_BadText_init := fe_BadText, d_BadText_init := _, m_BadText := PySem.W.mg_of X G ac_BadText, e_BadText := ⟨⟨⟨_, _, _, _, _, _, _, _, _, _, _, _, _, _, _, xl_BadText, rfl⟩, esa_BadText, exc_BadText, ety_BadText, ekp_BadText⟩, ⟨ega_BadText, egg_BadText, exc_BadText, ehd_BadText⟩, eno_BadText, ein_BadText, eit_BadText, ⟨_, _, _, _, _, _, _, _, _, _, _, _, _, _, _, _, _, _, rfl, elk_BadText, ecd_BadText, eco_BadText, evs_BadText, ecc_BadText, esu_BadText, evb_BadText, emr_BadText, opq⟩⟩, b_BadText_init := .all (fun us hl => match us, hl with | [_, _], _ => rfl), t_BadText := exm_self exc_BadText eic_BadText ety_BadText ess_BadText, i_BadText := ⟨eha_BadText, ehn, eht, ehm_BadText⟩, kv_BadText := kit_val evb_BadText, kk_BadText_BadRatio := kit_own ex_BadRatio_BadText eic_BadRatio ety_BadRatio ess_BadText, kk_BadText_BadText := kit_own ess_BadText eic_BadText ety_BadText ess_BadText, t_BadText_GameError := exm_sup re_GameError ri_GameError ert_GameError_BadText esr_GameError_BadText, z_super := PySem.W.mg_none_of X G z_super, a_Ratio_init := f1, d_Ratio_init := _, F_Ratio_init := FD1, ds_Ratio_init := ds1, v_Ratio_init := vd1, bd_Ratio_init := bd1, b_Ratio_init := bz1, mk_Ratio := ⟨mkc_Ratio, a1, i1, kpc_Ratio⟩, a_Ratio_add := f2, d_Ratio_add := _, F_Ratio_add := fun_mk (st := s_Ratio_add) l2 c2 k2, b_Ratio_add := (fun_mk (st := s_Ratio_add) l2 c2 k2).binds (ps := ["self", "other"]) (fun _ _ _ _ _ _ us hl => match us, hl with | [_, _], _ => rfl), me_Ratio_add := ⟨a2, i2, k2⟩, a_Ratio_sub := f3, d_Ratio_sub := _, F_Ratio_sub := fun_mk (st := s_Ratio_sub) l3 c3 k3, b_Ratio_sub := (fun_mk (st := s_Ratio_sub) l3 c3 k3).binds (ps := ["self", "other"]) (fun _ _ _ _ _ _ us hl => match us, hl with | [_, _], _ => rfl), me_Ratio_sub := ⟨a3, i3, k3⟩, a_Ratio_mul := f4, d_Ratio_mul := _, F_Ratio_mul := fun_mk (st := s_Ratio_mul) l4 c4 k4, b_Ratio_mul := (fun_mk (st := s_Ratio_mul) l4 c4 k4).binds (ps := ["self", "other"]) (fun _ _ _ _ _ _ us hl => match us, hl with | [_, _], _ => rfl), me_Ratio_mul := ⟨a4, i4, k4⟩, a_Ratio_neg := f5, d_Ratio_neg := _, F_Ratio_neg := fun_mk (st := s_Ratio_neg) l5 c5 k5, b_Ratio_neg := (fun_mk (st := s_Ratio_neg) l5 c5 k5).binds (ps := ["self"]) (fun _ _ _ _ _ _ us hl => match us, hl with | [_], _ => rfl), me_Ratio_neg := ⟨a5, i5, k5⟩, a_Ratio_eq := f6, d_Ratio_eq := _, F_Ratio_eq := fun_mk (st := s_Ratio_eq) l6 c6 k6, b_Ratio_eq := (fun_mk (st := s_Ratio_eq) l6 c6 k6).binds (ps := ["self", "other"]) (fun _ _ _ _ _ _ us hl => match us, hl with | [_, _], _ => rfl), me_Ratio_eq := ⟨a6, i6, k6⟩, a_Ratio_ne := f7, d_Ratio_ne := _, F_Ratio_ne := fun_mk (st := s_Ratio_ne) l7 c7 k7, b_Ratio_ne := (fun_mk (st := s_Ratio_ne) l7 c7 k7).binds (ps := ["self", "other"]) (fun _ _ _ _ _ _ us hl => match us, hl with | [_, _], _ => rfl), me_Ratio_ne := ⟨a7, i7, k7⟩, a_Ratio_str := f8, d_Ratio_str := _, F_Ratio_str := fun_mk (st := s_Ratio_str) l8 c8 k8, b_Ratio_str := (fun_mk (st := s_Ratio_str) l8 c8 k8).binds (ps := ["self"]) (fun _ _ _ _ _ _ us hl => match us, hl with | [_], _ => rfl), me_Ratio_str := ⟨a8, i8, k8⟩, a_Ratio_sign := f9, d_Ratio_sign := _, F_Ratio_sign := fun_mk (st := s_Ratio_sign) l9 c9 k9, b_Ratio_sign := (fun_mk (st := s_Ratio_sign) l9 c9 k9).binds (ps := ["self"]) (fun _ _ _ _ _ _ us hl => match us, hl with | [_], _ => rfl), me_Ratio_sign := ⟨a9, i9, k9⟩, a_has_digits := f10, d_has_digits := _, F_has_digits := fun_mk (st := s_has_digits) l10 c10 k10, b_has_digits := (fun_mk (st := s_has_digits) l10 c10 k10).binds (ps := ["word"]) (fun _ _ _ _ _ _ us hl => match us, hl with | [_], _ => rfl), m_has_digits := PySem.W.mg_of X G a10, a_read_ratio := f11, d_read_ratio := _, F_read_ratio := fun_mk (st := s_read_ratio) l11 c11 k11, b_read_ratio := (fun_mk (st := s_read_ratio) l11 c11 k11).binds (ps := ["text"]) (fun _ _ _ _ _ _ us hl => match us, hl with | [_], _ => rfl), m_read_ratio := PySem.W.mg_of X G a11, a_law_cell := f12, d_law_cell := _, F_law_cell := fun_mk (st := s_law_cell) l12 c12 k12, b_law_cell := (fun_mk (st := s_law_cell) l12 c12 k12).binds (ps := ["script", "k"]) (fun _ _ _ _ _ _ us hl => match us, hl with | [_, _], _ => rfl), m_law_cell := PySem.W.mg_of X G a12, a_law_is_integer := f13, d_law_is_integer := _, F_law_is_integer := fun_mk (st := s_law_is_integer) l13 c13 k13, b_law_is_integer := (fun_mk (st := s_law_is_integer) l13 c13 k13).binds (ps := ["actual"]) (fun _ _ _ _ _ _ us hl => match us, hl with | [_], _ => rfl), m_law_is_integer := PySem.W.mg_of X G a13, a_law_gcd := f14, d_law_gcd := _, F_law_gcd := fun_mk (st := s_law_gcd) l14 c14 k14, b_law_gcd := (fun_mk (st := s_law_gcd) l14 c14 k14).binds (ps := ["a", "b"]) (fun _ _ _ _ _ _ us hl => match us, hl with | [_, _], _ => rfl), m_law_gcd := PySem.W.mg_of X G a14, a_law_is_ratio := f15, d_law_is_ratio := _, F_law_is_ratio := fun_mk (st := s_law_is_ratio) l15 c15 k15, b_law_is_ratio := (fun_mk (st := s_law_is_ratio) l15 c15 k15).binds (ps := ["actual", "num", "den"]) (fun _ _ _ _ _ _ us hl => match us, hl with | [_, _, _], _ => rfl), m_law_is_ratio := PySem.W.mg_of X G a15, a_law_number := f16, d_law_number := _, F_law_number := fun_mk (st := s_law_number) l16 c16 k16, b_law_number := (fun_mk (st := s_law_number) l16 c16 k16).binds (ps := ["cell"]) (fun _ _ _ _ _ _ us hl => match us, hl with | [_], _ => rfl), m_law_number := PySem.W.mg_of X G a16, a_law_positive := f17, d_law_positive := _, F_law_positive := fun_mk (st := s_law_positive) l17 c17 k17, b_law_positive := (fun_mk (st := s_law_positive) l17 c17 k17).binds (ps := ["cell"]) (fun _ _ _ _ _ _ us hl => match us, hl with | [_], _ => rfl), m_law_positive := PySem.W.mg_of X G a17, a_law_written := f18, d_law_written := _, F_law_written := fun_mk (st := s_law_written) l18 c18 k18, b_law_written := (fun_mk (st := s_law_written) l18 c18 k18).binds (ps := ["num", "den"]) (fun _ _ _ _ _ _ us hl => match us, hl with | [_, _], _ => rfl), m_law_written := PySem.W.mg_of X G a18, a_law_digits := f19, d_law_digits := _, F_law_digits := fun_mk (st := s_law_digits) l19 c19 k19, b_law_digits := (fun_mk (st := s_law_digits) l19 c19 k19).binds (ps := ["text"]) (fun _ _ _ _ _ _ us hl => match us, hl with | [_], _ => rfl), m_law_digits := PySem.W.mg_of X G a19, a_law_terms := f20, d_law_terms := _, F_law_terms := fun_mk (st := s_law_terms) l20 c20 k20, b_law_terms := (fun_mk (st := s_law_terms) l20 c20 k20).binds (ps := ["text"]) (fun _ _ _ _ _ _ us hl => match us, hl with | [_], _ => rfl), m_law_terms := PySem.W.mg_of X G a20, a_law_changed := f21, d_law_changed := _, F_law_changed := fun_mk (st := s_law_changed) l21 c21 k21, b_law_changed := (fun_mk (st := s_law_changed) l21 c21 k21).binds (ps := ["text", "way", "num", "den"]) (fun _ _ _ _ _ _ us hl => match us, hl with | [_, _, _, _], _ => rfl), m_law_changed := PySem.W.mg_of X G a21, a_law_reads := f22, d_law_reads := _, F_law_reads := fun_mk (st := s_law_reads) l22 c22 k22, b_law_reads := (fun_mk (st := s_law_reads) l22 c22 k22).binds (ps := ["text"]) (fun _ _ _ _ _ _ us hl => match us, hl with | [_], _ => rfl), m_law_reads := PySem.W.mg_of X G a22, a_law := fa, d_law := _, F_law := fun_mk (st := s_law) l23 c23 k23, b_law := (fun_mk (st := s_law) l23 c23 k23).binds (ps := ["script"]) (fun _ _ _ _ _ _ us hl => match us, hl with | [_], _ => rfl), m_law := PySem.W.mg_of X G a23, g_gcd := PySem.W.mg_of X G g_gcd, z_abs := PySem.W.mg_none_of X G z_abs, z_bool := PySem.W.mg_none_of X G z_bool, z_int := PySem.W.mg_none_of X G z_int, z_isinstance := PySem.W.mg_none_of X G z_isinstance, z_len := PySem.W.mg_none_of X G z_len, z_range := PySem.W.mg_none_of X G z_range, z_str := PySem.W.mg_none_of X G z_str }
  exact ⟨T.d_law, fun s v => .of_eq rfl, fun base _ _ => ok_law T⟩
end Own
open PySem PySem.W PyProof.Rows
set_option maxHeartbeats 0 in
theorem PySem.Challenge.cw_sureplay_k04_ratio_written_and_read_holds : PySem.Challenge.rw_sureplay_k04_ratio_written_and_read.Holds := by
  w_on; o_law; k_head; (case hw => w_witness2)
  k_fill
  refine L2.walk_of (l := PySem.Challenge.rw_sureplay_k04_ratio_written_and_read) (n := 63) (k := 12) (x := "script") (CX := fun _ => L2.CX0) (sp := fun w => Own.spLaw _) rfl (by decide) rfl ⟨rfl, by decide, by decide⟩ (fun w h Y => PySem.W.kIn_of Y) ?F (fun _ _ a ns hl _ hS => ⟨a, ns, rfl, hS, hl, fun _ => rfl⟩) (fun _ _ _ _ _ h => h)
  case F =>
    intro w mg fa h KX G hmg
    haveI pro : Own.PrOk PySem.Challenge.rw_sureplay_k04_ratio_written_and_read.prog := ⟨by decide +kernel, by decide +kernel⟩
    refine' Own.all_mk KX G hmg ?ac_Ratio ?pg_Ratio ?hd_Ratio ?po_Ratio ?sa_Ratio ?mkc_Ratio ?kpc_Ratio ?na_Ratio_num ?na_Ratio_den ?sf_Ratio ?xa_Ratio ?xn_Ratio ?xt_Ratio ?xm_Ratio ?ac_GameError ?re_GameError ?ri_GameError ?ac_BadRatio ?xl_BadRatio ?esa_BadRatio ?exc_BadRatio ?ety_BadRatio ?ekp_BadRatio ?ega_BadRatio ?egg_BadRatio ?ehd_BadRatio ?eno_BadRatio ?ein_BadRatio ?eit_BadRatio ?eic_BadRatio ?ess_BadRatio ?elk_BadRatio ?ecd_BadRatio ?eco_BadRatio ?evs_BadRatio ?ecc_BadRatio ?esu_BadRatio ?evb_BadRatio ?emr_BadRatio ?eha_BadRatio ?ehm_BadRatio ?ex_BadText_BadRatio ?esr_GameError_BadRatio ?ert_GameError_BadRatio ?ac_BadText ?xl_BadText ?esa_BadText ?exc_BadText ?ety_BadText ?ekp_BadText ?ega_BadText ?egg_BadText ?ehd_BadText ?eno_BadText ?ein_BadText ?eit_BadText ?eic_BadText ?ess_BadText ?elk_BadText ?ecd_BadText ?eco_BadText ?evs_BadText ?ecc_BadText ?esu_BadText ?evb_BadText ?emr_BadText ?eha_BadText ?ehm_BadText ?ex_BadRatio_BadText ?esr_GameError_BadText ?ert_GameError_BadText ?ehn ?eht ?opq ?z_super ?a1 ?i1 ?l1 ?c1 ?k1 ?t1 ?a2 ?i2 ?l2 ?c2 ?k2 ?a3 ?i3 ?l3 ?c3 ?k3 ?a4 ?i4 ?l4 ?c4 ?k4 ?a5 ?i5 ?l5 ?c5 ?k5 ?a6 ?i6 ?l6 ?c6 ?k6 ?a7 ?i7 ?l7 ?c7 ?k7 ?a8 ?i8 ?l8 ?c8 ?k8 ?a9 ?i9 ?l9 ?c9 ?k9 ?a10 ?l10 ?c10 ?k10 ?a11 ?l11 ?c11 ?k11 ?a12 ?l12 ?c12 ?k12 ?a13 ?l13 ?c13 ?k13 ?a14 ?l14 ?c14 ?k14 ?a15 ?l15 ?c15 ?k15 ?a16 ?l16 ?c16 ?k16 ?a17 ?l17 ?c17 ?k17 ?a18 ?l18 ?c18 ?k18 ?a19 ?l19 ?c19 ?k19 ?a20 ?l20 ?c20 ?k20 ?a21 ?l21 ?c21 ?k21 ?a22 ?l22 ?c22 ?k22 ?a23 ?l23 ?c23 ?k23 ?g_gcd ?z_abs ?z_bool ?z_int ?z_isinstance ?z_len ?z_range ?z_str
    (case ac_Ratio => k_is)
    (case ac_GameError => k_is)
    (case ac_BadRatio => k_is)
    (case ac_BadText => k_is)
    (case pg_Ratio => k_is)
    (case hd_Ratio => k_is)
    (case po_Ratio => k_is)
    (case sa_Ratio => k_is)
    (case mkc_Ratio => k_is)
    (case kpc_Ratio => k_is)
    (case na_Ratio_num => k_is)
    (case na_Ratio_den => k_is)
    (case sf_Ratio => k_is)
    (case xa_Ratio => k_is)
    (case xn_Ratio => k_is)
    (case xt_Ratio => k_is)
    (case xm_Ratio => k_is)
    (case re_GameError => k_is)
    (case ri_GameError => k_is)
    (case xl_BadRatio => k_is)
    (case esa_BadRatio => k_is)
    (case exc_BadRatio => k_is)
    (case ety_BadRatio => k_is)
    (case ekp_BadRatio => k_is)
    (case ega_BadRatio => k_is)
    (case egg_BadRatio => k_is)
    (case ehd_BadRatio => k_is)
    (case eno_BadRatio => k_is)
    (case ein_BadRatio => k_is)
    (case eit_BadRatio => k_is)
    (case eic_BadRatio => k_is)
    (case ess_BadRatio => first | rfl | k_is)
    (case elk_BadRatio => k_is)
    (case ecd_BadRatio => k_is)
    (case eco_BadRatio => k_is)
    (case evs_BadRatio => first | rfl | decide +kernel)
    (case ecc_BadRatio => k_is)
    (case esu_BadRatio => ks_is)
    (case evb_BadRatio => k_is)
    (case emr_BadRatio => k_is)
    (case eha_BadRatio => k_is)
    (case ehm_BadRatio => k_is)
    (case ex_BadText_BadRatio => k_is)
    (case esr_GameError_BadRatio => first | rfl | k_is)
    (case ert_GameError_BadRatio => k_is)
    (case xl_BadText => k_is)
    (case esa_BadText => k_is)
    (case exc_BadText => k_is)
    (case ety_BadText => k_is)
    (case ekp_BadText => k_is)
    (case ega_BadText => k_is)
    (case egg_BadText => k_is)
    (case ehd_BadText => k_is)
    (case eno_BadText => k_is)
    (case ein_BadText => k_is)
    (case eit_BadText => k_is)
    (case eic_BadText => k_is)
    (case ess_BadText => first | rfl | k_is)
    (case elk_BadText => k_is)
    (case ecd_BadText => k_is)
    (case eco_BadText => k_is)
    (case evs_BadText => first | rfl | decide +kernel)
    (case ecc_BadText => k_is)
    (case esu_BadText => ks_is)
    (case evb_BadText => k_is)
    (case emr_BadText => k_is)
    (case eha_BadText => k_is)
    (case ehm_BadText => k_is)
    (case ex_BadRatio_BadText => k_is)
    (case esr_GameError_BadText => first | rfl | k_is)
    (case ert_GameError_BadText => k_is)
    (case ehn => k_is)
    (case eht => k_is)
    (case opq => k_is)
    (case z_super => k_is)
    (case a1 => k_is)
    (case i1 => k_is)
    (case l1 => k_is)
    (case c1 => k_is)
    (case k1 => k_is)
    (case t1 => k_is)
    (case a2 => k_is)
    (case i2 => k_is)
    (case l2 => k_is)
    (case c2 => k_is)
    (case k2 => k_is)
    (case a3 => k_is)
    (case i3 => k_is)
    (case l3 => k_is)
    (case c3 => k_is)
    (case k3 => k_is)
    (case a4 => k_is)
    (case i4 => k_is)
    (case l4 => k_is)
    (case c4 => k_is)
    (case k4 => k_is)
    (case a5 => k_is)
    (case i5 => k_is)
    (case l5 => k_is)
    (case c5 => k_is)
    (case k5 => k_is)
    (case a6 => k_is)
    (case i6 => k_is)
    (case l6 => k_is)
    (case c6 => k_is)
    (case k6 => k_is)
    (case a7 => k_is)
    (case i7 => k_is)
    (case l7 => k_is)
    (case c7 => k_is)
    (case k7 => k_is)
    (case a8 => k_is)
    (case i8 => k_is)
    (case l8 => k_is)
    (case c8 => k_is)
    (case k8 => k_is)
    (case a9 => k_is)
    (case i9 => k_is)
    (case l9 => k_is)
    (case c9 => k_is)
    (case k9 => k_is)
    (case a10 => k_is)
    (case l10 => k_is)
    (case c10 => k_is)
    (case k10 => k_is)
    (case a11 => k_is)
    (case l11 => k_is)
    (case c11 => k_is)
    (case k11 => k_is)
    (case a12 => k_is)
    (case l12 => k_is)
    (case c12 => k_is)
    (case k12 => k_is)
    (case a13 => k_is)
    (case l13 => k_is)
    (case c13 => k_is)
    (case k13 => k_is)
    (case a14 => k_is)
    (case l14 => k_is)
    (case c14 => k_is)
    (case k14 => k_is)
    (case a15 => k_is)
    (case l15 => k_is)
    (case c15 => k_is)
    (case k15 => k_is)
    (case a16 => k_is)
    (case l16 => k_is)
    (case c16 => k_is)
    (case k16 => k_is)
    (case a17 => k_is)
    (case l17 => k_is)
    (case c17 => k_is)
    (case k17 => k_is)
    (case a18 => k_is)
    (case l18 => k_is)
    (case c18 => k_is)
    (case k18 => k_is)
    (case a19 => k_is)
    (case l19 => k_is)
    (case c19 => k_is)
    (case k19 => k_is)
    (case a20 => k_is)
    (case l20 => k_is)
    (case c20 => k_is)
    (case k20 => k_is)
    (case a21 => k_is)
    (case l21 => k_is)
    (case c21 => k_is)
    (case k21 => k_is)
    (case a22 => k_is)
    (case l22 => k_is)
    (case c22 => k_is)
    (case k22 => k_is)
    (case a23 => k_is)
    (case l23 => k_is)
    (case c23 => k_is)
    (case k23 => k_is)
    (case g_gcd => k_is)
    (case z_abs => k_is)
    (case z_bool => k_is)
    (case z_int => k_is)
    (case z_isinstance => k_is)
    (case z_len => k_is)
    (case z_range => k_is)
    (case z_str => k_is)
#print axioms PySem.Challenge.cw_sureplay_k04_ratio_written_and_read_holds
