import PyProof.Rows.All
import Wide.All
import OpenK.AllK
import Wide.FinOn
import HandS.TupAny
import HandS.ForMost
import HandS.IsInst
import HandS.Codes
import HandS.Gcd
import HandS.Wide
import HandS.Defaults
import HandS.SlotsOwn
import KE.KMathG
import PySem.Challenge.RW_sureplay_k06_common_form
set_option Elab.async false
set_option linter.all false
set_option maxRecDepth 100000
set_option maxHeartbeats 4000000
namespace Own
open PySem PySem.Spec PyProof.Rows L2
def topS (i : Nat) : Stmt := PySem.Challenge.pw_sureplay_k06_common_form.main.body.getD i (.Pass ⟨0, 0, 0, 0⟩)
abbrev s_Ratio_init : Stmt := (inClass (topS 6) 0)
abbrev N_Ratio_init : List Str := ["self", "num", "den", "factor"]
theorem sc_Ratio_init : FnScope N_Ratio_init ["self", "num", "den"] (defScope s_Ratio_init) := ⟨rfl, rfl, rfl, by decide +kernel, rfl, by decide +kernel, by decide +kernel⟩
abbrev s_Ratio_add : Stmt := (inClass (topS 6) 1)
abbrev N_Ratio_add : List Str := ["self", "other"]
theorem sc_Ratio_add : FnScope N_Ratio_add ["self", "other"] (defScope s_Ratio_add) := ⟨rfl, rfl, rfl, by decide +kernel, rfl, by decide +kernel, by decide +kernel⟩
abbrev s_Ratio_sub : Stmt := (inClass (topS 6) 2)
abbrev N_Ratio_sub : List Str := ["self", "other"]
theorem sc_Ratio_sub : FnScope N_Ratio_sub ["self", "other"] (defScope s_Ratio_sub) := ⟨rfl, rfl, rfl, by decide +kernel, rfl, by decide +kernel, by decide +kernel⟩
abbrev s_Ratio_mul : Stmt := (inClass (topS 6) 3)
abbrev N_Ratio_mul : List Str := ["self", "other"]
theorem sc_Ratio_mul : FnScope N_Ratio_mul ["self", "other"] (defScope s_Ratio_mul) := ⟨rfl, rfl, rfl, by decide +kernel, rfl, by decide +kernel, by decide +kernel⟩
abbrev s_Ratio_neg : Stmt := (inClass (topS 6) 4)
abbrev N_Ratio_neg : List Str := ["self"]
theorem sc_Ratio_neg : FnScope N_Ratio_neg ["self"] (defScope s_Ratio_neg) := ⟨rfl, rfl, rfl, by decide +kernel, rfl, by decide +kernel, by decide +kernel⟩
abbrev s_Ratio_eq : Stmt := (inClass (topS 6) 5)
abbrev N_Ratio_eq : List Str := ["self", "other"]
theorem sc_Ratio_eq : FnScope N_Ratio_eq ["self", "other"] (defScope s_Ratio_eq) := ⟨rfl, rfl, rfl, by decide +kernel, rfl, by decide +kernel, by decide +kernel⟩
abbrev s_Ratio_ne : Stmt := (inClass (topS 6) 6)
abbrev N_Ratio_ne : List Str := ["self", "other"]
theorem sc_Ratio_ne : FnScope N_Ratio_ne ["self", "other"] (defScope s_Ratio_ne) := ⟨rfl, rfl, rfl, by decide +kernel, rfl, by decide +kernel, by decide +kernel⟩
abbrev s_common : Stmt := (topS 8)
abbrev N_common : List Str := ["ratios", "whole", "ratio"]
theorem sc_common : FnScope N_common ["ratios"] (defScope s_common) := ⟨rfl, rfl, rfl, by decide +kernel, rfl, by decide +kernel, by decide +kernel⟩
abbrev s_law_is_integer : Stmt := (topS 11)
abbrev N_law_is_integer : List Str := ["actual"]
theorem sc_law_is_integer : FnScope N_law_is_integer ["actual"] (defScope s_law_is_integer) := ⟨rfl, rfl, rfl, by decide +kernel, rfl, by decide +kernel, by decide +kernel⟩
abbrev s_law_gcd : Stmt := (topS 12)
abbrev N_law_gcd : List Str := ["a", "b", "k", "c"]
theorem sc_law_gcd : FnScope N_law_gcd ["a", "b"] (defScope s_law_gcd) := ⟨rfl, rfl, rfl, by decide +kernel, rfl, by decide +kernel, by decide +kernel⟩
abbrev s_law_is_ratio : Stmt := (topS 13)
abbrev N_law_is_ratio : List Str := ["actual", "num", "den", "part"]
theorem sc_law_is_ratio : FnScope N_law_is_ratio ["actual", "num", "den"] (defScope s_law_is_ratio) := ⟨rfl, rfl, rfl, by decide +kernel, rfl, by decide +kernel, by decide +kernel⟩
abbrev s_law : Stmt := (topS 16)
abbrev N_law : List Str := ["script", "terms", "cell", "den", "ratios", "actual", "part", "k", "term"]
theorem sc_law : FnScope N_law ["script"] (defScope s_law) := ⟨rfl, rfl, rfl, by decide +kernel, rfl, by decide +kernel, by decide +kernel⟩
def spLaw (K : PySem.W.Frag) : Sp := fun vs H Q _ => ∃ (a : Addr) (ns : List Int), vs = [.ref a] ∧ SqL K H a (ns.map V.int) ∧ ns.length ≤ 63 ∧ ∀ H', Q (.bl true) H'
def cell (ns : List Int) (k : Int) : Int := ns.getD k.toNat 0
theorem same_upd {H : Hp} {p : Addr} {o : HO} (h : H p = none) : Same H (upd H p o) := fun b x e => by
  rw [upd_ne (ne_of_none e h)]
  exact e
theorem cut_from (xs : List V) (k : Nat) : cutV xs (some (k : Int)) none = xs.drop k := by
  unfold cutV
  rw [HT.sIx_nat, HT.sIx_none]
  by_cases h : k ≤ xs.length
  · rw [Nat.min_eq_left h]
    exact List.take_of_length_le (by rw [List.length_drop]; omega)
  · rw [Nat.min_eq_right (by omega), List.drop_eq_nil_of_le (by omega), List.drop_eq_nil_of_le (by omega)]
    simp
theorem cut_to (xs : List V) (k : Nat) : cutV xs none (some (k : Int)) = xs.take k := by
  unfold cutV
  rw [HT.sIx_nat, HT.sIx_none, List.drop_zero, Nat.sub_zero]
  by_cases h : k ≤ xs.length
  · rw [Nat.min_eq_left h]
  · rw [Nat.min_eq_right (by omega), List.take_of_length_le (Nat.le_refl _), List.take_of_length_le (by omega)]
theorem cut_to' (xs : List V) (k : Int) (h : 0 ≤ k) : cutV xs none (some k) = xs.take k.toNat := by
  obtain ⟨m, rfl⟩ := Int.eq_ofNat_of_zero_le h
  exact cut_to xs m
theorem cut_from' (xs : List V) (k : Int) (h : 0 ≤ k) : cutV xs (some k) none = xs.drop k.toNat := by
  obtain ⟨m, rfl⟩ := Int.eq_ofNat_of_zero_le h
  exact cut_from xs m
theorem small_le {n : Nat} (h : n ≤ 1000) : n ≤ sizeLine := Nat.le_of_lt (small1000 h)
theorem at_ofG {α : Type} {xs : List α} {z : Int} {j : Nat} {v : α} (e : z = (j : Int)) (h : xs[j]? = some v) : atI xs z = some v := by
  rw [e]
  exact atI_nat h
theorem int_of_map {ns : List Int} {i : Nat} {y : V} (hi : (ns.map V.int)[i]? = some y) : ∃ z, ns[i]? = some z ∧ y = V.int z := by
  rw [List.getElem?_map] at hi
  cases e : ns[i]? with
  | none => rw [e] at hi; cases hi
  | some u => rw [e] at hi; exact ⟨u, rfl, (Option.some.inj hi).symm⟩
theorem dp_ints {K : PySem.W.Frag} {H : Hp} : ∀ ns : List Int, DpAll K H (ns.map V.int) (ns.map PyData.int)
  | [] => .nil
  | n :: r => .cons (.int n) (dp_ints r)
theorem lay_ints : ∀ ns : List Int, PyData.canLayAll0 (ns.map PyData.int) = true ∧ PyData.depthAll (ns.map PyData.int) = 0
  | [] => ⟨by simp [PyData.canLayAll0], by simp [PyData.depthAll]⟩
  | n :: r => by
    have ih := lay_ints r
    exact ⟨by simp [PyData.canLayAll0, PyData.canLay0, ih.1], by simp [PyData.depthAll, PyData.depth, ih.2]⟩
theorem shaped_ints (ns : List Int) : SeqAt.shaped (.list (ns.map PyData.int)) = true := by
  have h := lay_ints ns
  unfold SeqAt.shaped
  simp [PyData.canLay0, PyData.depth, h.1, h.2]
theorem eqv_ints (ns : List Int) : PyData.eqv (.list (ns.map PyData.int)) (.list (ns.map PyData.int)) = true :=
  SeqAt.eqv_refl _ (by rw [PyData.canLay0]; exact (lay_ints ns).1)

mutual
/-- data that never changes: scalars and tracked tuples of such -/
inductive Im (H : Hp) : V → PyData → Prop
  | non : Im H .non .none
  | bl (b : Bool) : Im H (.bl b) (.bool b)
  | int (i : Int) : Im H (.int i) (.int i)
  | str (x : Str) : Im H (.str x) (.str x)
  | tup {a : Addr} {xs : List V} {ds : List PyData} : H a = some (.tup xs) → ImAll H xs ds → Im H (.ref a) (.tuple ds)
inductive ImAll (H : Hp) : List V → List PyData → Prop
  | nil : ImAll H [] []
  | cons {v : V} {vs : List V} {d : PyData} {ds : List PyData} : Im H v d → ImAll H vs ds → ImAll H (v :: vs) (d :: ds)
end
/-- the tracked tuples stay -/
def KeepT (H H' : Hp) : Prop := ∀ b xs, H b = some (.tup xs) → H' b = some (.tup xs)
theorem KeepT.refl (H : Hp) : KeepT H H := fun _ _ h => h
theorem KeepT.trans {H H1 H2 : Hp} (a : KeepT H H1) (b : KeepT H1 H2) : KeepT H H2 := fun c x h => b c x (a c x h)
theorem keepT_of {H H' : Hp} (s : Same H H') : KeepT H H' := fun b xs h => s b _ h
theorem keepT_lst {H : Hp} {p : Addr} {xs ys : List V} (h : H p = some (.lst xs)) : KeepT H (upd H p (.lst ys)) := fun b zs e => by
  have n : b ≠ p := fun q => by rw [q, h] at e; cases e
  rw [upd_ne n]
  exact e
mutual
theorem Im.keep {H H' : Hp} (k : KeepT H H') : ∀ {v : V} {d : PyData}, Im H v d → Im H' v d
  | _, _, .non => .non
  | _, _, .bl b => .bl b
  | _, _, .int i => .int i
  | _, _, .str x => .str x
  | _, _, .tup h a => .tup (k _ _ h) (ImAll.keep k a)
theorem ImAll.keep {H H' : Hp} (k : KeepT H H') : ∀ {vs : List V} {ds : List PyData}, ImAll H vs ds → ImAll H' vs ds
  | _, _, .nil => .nil
  | _, _, .cons h a => .cons (Im.keep k h) (ImAll.keep k a)
end
mutual
theorem Im.dp {K : PySem.W.Frag} {H : Hp} : ∀ {v : V} {d : PyData}, Im H v d → Dp K H v d
  | _, _, .non => .non
  | _, _, .bl b => .bl b
  | _, _, .int i => .int i
  | _, _, .str x => .str x
  | _, _, .tup h a => .tup (SqT.of h) (ImAll.dp a)
theorem ImAll.dp {K : PySem.W.Frag} {H : Hp} : ∀ {vs : List V} {ds : List PyData}, ImAll H vs ds → DpAll K H vs ds
  | _, _, .nil => .nil
  | _, _, .cons h a => .cons (Im.dp h) (ImAll.dp a)
end
theorem ImAll.len {H : Hp} : ∀ {vs : List V} {ds : List PyData}, ImAll H vs ds → vs.length = ds.length
  | _, _, .nil => rfl
  | _, _, .cons _ a => by rw [List.length_cons, List.length_cons, ImAll.len a]
theorem ImAll.append {H : Hp} : ∀ {vs us : List V} {ds es : List PyData}, ImAll H vs ds → ImAll H us es → ImAll H (vs ++ us) (ds ++ es)
  | _, _, _, _, .nil, b => b
  | _, _, _, _, .cons h a, b => .cons h (ImAll.append a b)
theorem ImAll.get {H : Hp} : ∀ {vs : List V} {ds : List PyData} {i : Nat} {d : PyData}, ImAll H vs ds → ds[i]? = some d → ∃ v, vs[i]? = some v ∧ Im H v d
  | _, _, 0, _, .cons h _, e => by
    cases e
    exact ⟨_, rfl, h⟩
  | _, _, i + 1, _, .cons _ a, e => by
    rw [List.getElem?_cons_succ] at e
    rw [List.getElem?_cons_succ]
    exact ImAll.get a e
theorem ImAll.take {H : Hp} : ∀ {vs : List V} {ds : List PyData} (i : Nat), ImAll H vs ds → ImAll H (vs.take i) (ds.take i)
  | _, _, 0, _ => by
    rw [List.take_zero, List.take_zero]
    exact .nil
  | _, _, _ + 1, .nil => by
    rw [List.take_nil, List.take_nil]
    exact .nil
  | _, _, i + 1, .cons h a => .cons h (ImAll.take i a)
theorem ImAll.snoc {H : Hp} {vs : List V} {ds : List PyData} {v : V} {d : PyData} (a : ImAll H vs ds) (h : Im H v d) : ImAll H (vs ++ [v]) (ds ++ [d]) := a.append (.cons h .nil)
theorem ImAll.rev {H : Hp} : ∀ {vs : List V} {ds : List PyData}, ImAll H vs ds → ImAll H vs.reverse ds.reverse
  | _, _, .nil => .nil
  | _, _, .cons h a => by
    rw [List.reverse_cons, List.reverse_cons]
    exact (ImAll.rev a).snoc h
mutual
/-- all sequences are short -/
def wide : PyData → Bool
  | .list xs => decide (xs.length ≤ 1000000) && wideAll xs
  | .tuple xs => decide (xs.length ≤ 1000000) && wideAll xs
  | .none => true
  | .bool _ => true
  | .int _ => true
  | .str _ => true
  | .dict _ => false
def wideAll : List PyData → Bool
  | [] => true
  | x :: r => wide x && wideAll r
end
/-- what a comparison asks of data: sizes -/
def Lay (n : Nat) (d : PyData) : Prop := d.canLay0 = true ∧ d.depth ≤ n ∧ wide d = true
theorem lay_all : ∀ {n : Nat} {ds : List PyData}, (∀ d ∈ ds, Lay n d) → PyData.canLayAll0 ds = true ∧ PyData.depthAll ds ≤ n ∧ wideAll ds = true
  | n, [], _ => ⟨by simp [PyData.canLayAll0], by simp [PyData.depthAll], by simp [wideAll]⟩
  | n, d :: r, h => by
    have h1 := h d List.mem_cons_self
    have h2 := lay_all fun e he => h e (List.mem_cons_of_mem d he)
    refine ⟨by simp [PyData.canLayAll0, h1.1, h2.1], ?_, by simp [wideAll, h1.2.2, h2.2.2]⟩
    simp only [PyData.depthAll]
    exact Nat.max_le.mpr ⟨h1.2.1, h2.2.1⟩
theorem lay_tuple {n : Nat} {ds : List PyData} (hl : ds.length ≤ 1000000) (h : ∀ d ∈ ds, Lay n d) : Lay (n + 1) (.tuple ds) := by
  have q := lay_all h
  exact ⟨by simp [PyData.canLay0, q.1], by simp only [PyData.depth]; omega, by simp only [wide, q.2.2, decide_eq_true hl]; rfl⟩
theorem lay_list {n : Nat} {ds : List PyData} (hl : ds.length ≤ 1000000) (h : ∀ d ∈ ds, Lay n d) : Lay (n + 1) (.list ds) := by
  have q := lay_all h
  exact ⟨by simp [PyData.canLay0, q.1], by simp only [PyData.depth]; omega, by simp only [wide, q.2.2, decide_eq_true hl]; rfl⟩
theorem Lay.mono {n m : Nat} {d : PyData} (h : Lay n d) (l : n ≤ m) : Lay m d := ⟨h.1, Nat.le_trans h.2.1 l, h.2.2⟩
theorem Lay.shaped {n : Nat} {d : PyData} (h : Lay n d) (l : n ≤ 64) : SeqAt.shaped d = true := by
  unfold SeqAt.shaped
  rw [h.1, decide_eq_true (Nat.le_trans h.2.1 l)]
  rfl
theorem Lay.refl {n : Nat} {d : PyData} (h : Lay n d) : PyData.eqv d d = true := SeqAt.eqv_refl _ h.1
theorem lay_int (i : Int) : Lay 0 (.int i) := ⟨by simp [PyData.canLay0], by simp [PyData.depth], by simp [wide]⟩
theorem lay_str {x : Str} (h : PyData.strOk x = true) : Lay 0 (.str x) := ⟨by simp [PyData.canLay0, h], by simp [PyData.depth], by simp [wide]⟩
theorem lay_none : Lay 0 .none := ⟨by simp [PyData.canLay0], by simp [PyData.depth], by simp [wide]⟩
theorem lay_bool (b : Bool) : Lay 0 (.bool b) := ⟨by simp [PyData.canLay0], by simp [PyData.depth], by simp [wide]⟩
theorem wide_get {ds : List PyData} {i : Nat} {d : PyData} : wideAll ds = true → ds[i]? = some d → wide d = true := by
  induction ds generalizing i with
  | nil => intro _ h; simp at h
  | cons x r ih =>
    intro hw h
    simp only [wideAll, Bool.and_eq_true] at hw
    cases i with
    | zero => cases h; exact hw.1
    | succ i => exact ih (i := i) hw.2 (by rw [List.getElem?_cons_succ] at h; exact h)
/-- view + (event,) -/
theorem cat_ev {K : PySem.W.Frag} {H : Hp} {v t u : Addr} {xs : List V} {ds : List PyData} {e : PyData} {Q : VK} (hv : H v = some (.tup xs)) (hA : ImAll H xs ds) (he : Im H (.ref t) e) (hu : H u = some (.tup [.ref t])) (hz : xs.length ≤ 900)
    (k : ∀ (p : Addr) (H' : Hp), Same H H' → Im H' (.ref p) (.tuple (ds ++ [e])) → Q (.ref p) H') : rCatA K (.ref v) (.ref u) H Q := by
  refine ⟨v, u, xs, [.ref t], rfl, rfl, SqT.of hv, SqT.of hu, by show xs.length + 1 ≤ sizeLine; exact small_le (by omega), fun z => ?_, fun _ z => (by cases z), fun _ _ p hp => ?_⟩
  · subst z
    cases hA
    exact k u H (Same.refl H) (.tup hu (.cons he .nil))
  · exact k p _ (same_upd hp) (.tup upd_same ((hA.snoc he).keep (keepT_of (same_upd hp))))
theorem upd2_same {H : Hp} {t u : Addr} {o o' : HO} (ht : H t = none) (hu : upd H t o u = none) : Same H (upd (upd H t o) u o') := (same_upd ht).trans (same_upd hu)


/-! ### fractions -/
/-- p / q is num / den in lowest terms -/
def Rt (p q num den : Int) : Prop := 0 < q ∧ Nat.gcd p.natAbs q.natAbs = 1 ∧ p * den = num * q
theorem natAbs_eq_of_mul {p q : Int} (hq : 0 < q) (h : Nat.gcd p.natAbs q.natAbs = 1) {p' q' : Int} (hq' : 0 < q') (h' : Nat.gcd p'.natAbs q'.natAbs = 1) (e : p * q' = p' * q) : p = p' ∧ q = q' := by
  have en : p.natAbs * q'.natAbs = p'.natAbs * q.natAbs := by rw [← Int.natAbs_mul, ← Int.natAbs_mul, e]
  have d1 : q.natAbs ∣ q'.natAbs := by
    have c : Nat.Coprime q.natAbs p.natAbs := by rw [Nat.coprime_comm]; exact h
    exact c.dvd_of_dvd_mul_left ⟨p'.natAbs, by rw [en, Nat.mul_comm]⟩
  have d2 : q'.natAbs ∣ q.natAbs := by
    have c : Nat.Coprime q'.natAbs p'.natAbs := by rw [Nat.coprime_comm]; exact h'
    exact c.dvd_of_dvd_mul_left ⟨p.natAbs, by rw [← en, Nat.mul_comm]⟩
  have eq : q.natAbs = q'.natAbs := Nat.dvd_antisymm d1 d2
  have eq' : q = q' := by omega
  refine ⟨?_, eq'⟩
  rw [eq'] at e
  exact Int.eq_of_mul_eq_mul_right (by omega) e
theorem rt_uniq {p q p' q' n d n' d' : Int} (h : Rt p q n d) (h' : Rt p' q' n' d') (hd : d ≠ 0) (hd' : d' ≠ 0) (e : n * d' = n' * d) : p = p' ∧ q = q' := by
  obtain ⟨h1, h2, h3⟩ := h
  obtain ⟨g1, g2, g3⟩ := h'
  refine natAbs_eq_of_mul h1 h2 g1 g2 ?_
  have k : (p * q') * (d * d') = (p' * q) * (d * d') := by
    grind
  exact Int.eq_of_mul_eq_mul_right (Int.mul_ne_zero hd hd') k
/-- the sign and the common divisor -/
def fac (n d : Int) : Int := if d < 0 then -((Nat.gcd n.natAbs d.natAbs : Nat) : Int) else ((Nat.gcd n.natAbs d.natAbs : Nat) : Int)
theorem gcd_pos' {n d : Int} (hd : d ≠ 0) : 0 < Nat.gcd n.natAbs d.natAbs := Nat.gcd_pos_of_pos_right _ (Int.natAbs_pos.mpr hd)
theorem fac_ne {n d : Int} (hd : d ≠ 0) : fac n d ≠ 0 := by
  have := gcd_pos' (n := n) hd
  unfold fac
  split <;> omega
theorem fac_abs (n d : Int) : (fac n d).natAbs = Nat.gcd n.natAbs d.natAbs := by
  unfold fac
  split <;> omega
theorem fac_dvd (n d : Int) : fac n d ∣ n ∧ fac n d ∣ d := by
  have h1 : ((Nat.gcd n.natAbs d.natAbs : Nat) : Int) ∣ n := Int.ofNat_dvd_left.mpr (Nat.gcd_dvd_left _ _)
  have h2 : ((Nat.gcd n.natAbs d.natAbs : Nat) : Int) ∣ d := Int.ofNat_dvd_left.mpr (Nat.gcd_dvd_right _ _)
  unfold fac
  split
  · exact ⟨(Int.neg_dvd).mpr h1, (Int.neg_dvd).mpr h2⟩
  · exact ⟨h1, h2⟩
theorem rt_made {n d : Int} (hd : d ≠ 0) : Rt (n.fdiv (fac n d)) (d.fdiv (fac n d)) n d ∧ (n.fdiv (fac n d)).natAbs ≤ n.natAbs ∧ (d.fdiv (fac n d)).natAbs ≤ d.natAbs := by
  have hf := fac_ne (n := n) hd
  obtain ⟨⟨a, ha⟩, ⟨b, hb⟩⟩ := fac_dvd n d
  have fa := fac_abs n d
  have gp := gcd_pos' (n := n) hd
  generalize hfe : fac n d = f at hf ha hb fa
  have e1 : n.fdiv f = a := by rw [ha]; exact Int.mul_fdiv_cancel_left a hf
  have e2 : d.fdiv f = b := by rw [hb]; exact Int.mul_fdiv_cancel_left b hf
  rw [e1, e2]
  have na : n.natAbs = f.natAbs * a.natAbs := by rw [ha, Int.natAbs_mul]
  have nb : d.natAbs = f.natAbs * b.natAbs := by rw [hb, Int.natAbs_mul]
  have fpos : 0 < f.natAbs := by omega
  refine ⟨⟨?_, ?_, ?_⟩, ?_, ?_⟩
  · -- the sign
    have hs : (d < 0 ∧ f < 0) ∨ (0 < d ∧ 0 < f) := by
      unfold fac at hfe
      split at hfe <;> omega
    rcases hs with ⟨h1, h2⟩ | ⟨h1, h2⟩
    · refine Int.not_le.mp fun z => ?_
      have := Int.mul_nonneg_of_nonpos_of_nonpos (Int.le_of_lt h2) z
      omega
    · refine Int.not_le.mp fun z => ?_
      have := Int.mul_nonpos_of_nonneg_of_nonpos (Int.le_of_lt h2) z
      omega
  · have e : Nat.gcd n.natAbs d.natAbs = f.natAbs * Nat.gcd a.natAbs b.natAbs := by rw [na, nb, Nat.gcd_mul_left]
    rw [← fa] at e
    have : f.natAbs * 1 = f.natAbs * Nat.gcd a.natAbs b.natAbs := by rw [Nat.mul_one]; exact e
    exact (Nat.eq_of_mul_eq_mul_left fpos this).symm
  · have x : a * d = n * b := by rw [hb, ha, ← Int.mul_assoc, Int.mul_comm a f]
    exact x
  · rw [na]
    exact Nat.le_mul_of_pos_left _ fpos
  · rw [nb]
    exact Nat.le_mul_of_pos_left _ fpos
theorem Rt.pos {p q n d : Int} (h : Rt p q n d) : 0 < q := h.1
theorem op_fdivX {X : Cx} : OpR X (binaryOp .FloorDiv) (rI (fun _ j => j ≠ 0 ∧ j.natAbs.log2 < 9000) fun i j => .int (i.fdiv j)) :=
  opI fun _ _ _ _ _ _ _ hc q => floordiv_int hc.1 q (.inl (PyProof.noPylong_of_log2 hc.2))
theorem log_lt {j : Int} {b : Nat} (hb : j.natAbs < 2 ^ b) (h0 : 0 < b) (h9 : b ≤ 9000) : j.natAbs.log2 < 9000 := Nat.lt_of_lt_of_le (PySem.Flt.log2_lt_of h0 hb) h9
/-! ### ratios as objects -/
def pf (p q : Int) : List (Str × V) := putF "den" (.int q) (putF "num" (.int p) [])
theorem nd_ : ¬ (("num" : Str) = "den") := by decide +kernel
theorem pf_num (p q : Int) : (pf p q).lookup ("num" : Str) = some (.int p) := by
  unfold pf
  rw [lookup_putF, if_neg nd_, lookup_putF, if_pos rfl]
theorem pf_den (p q : Int) : (pf p q).lookup ("den" : Str) = some (.int q) := by
  unfold pf
  rw [lookup_putF, if_pos rfl]
theorem pf_no (p q : Int) {m : Str} (h1 : ¬ m = "num") (h2 : ¬ m = "den") : (pf p q).lookup m = none := by
  unfold pf
  rw [lookup_putF, if_neg h2, lookup_putF, if_neg h1]
  rfl
/-- at r a ratio p / q -/
def RatAt (C : Addr) (H : Hp) (r : Addr) (p q : Int) : Prop := ∃ dx, H r = some (.ins C dx (pf p q))
theorem no_below (p q : Int) : (pf p q).lookup ("below" : Str) = none := pf_no _ _ (by decide +kernel) (by decide +kernel)
theorem no_at_most (p q : Int) : (pf p q).lookup ("at_most" : Str) = none := pf_no _ _ (by decide +kernel) (by decide +kernel)
theorem no_over (p q : Int) : (pf p q).lookup ("over" : Str) = none := pf_no _ _ (by decide +kernel) (by decide +kernel)
theorem no_sign (p q : Int) : (pf p q).lookup ("sign" : Str) = none := pf_no _ _ (by decide +kernel) (by decide +kernel)
theorem RatAt.same {C : Addr} {H H' : Hp} {r : Addr} {p q : Int} (h : RatAt C H r p q) (s : Same H H') : RatAt C H' r p q := by
  obtain ⟨dx, e⟩ := h
  exact ⟨dx, s _ _ e⟩
/-- an operator of an own class: both are its instances -/
def rBin (C : Addr) (sp : Sp) (E : XK) : R2 := fun x y H Q => ∃ a dx fs b dy gs, x = .ref a ∧ y = .ref b ∧ H a = some (.ins C dx fs) ∧ H b = some (.ins C dy gs) ∧ sp [x, y] H Q E
theorem op_bin {X : Cx} {op : Operator} {C g : Addr} {n : Nat} {fd : FuncData} {ps : List Str} {sp : Sp} {E : XK} {CX : CXT} (hc : PySem.W.selfFirst X.K C = true) (m : Meth X.K C (PySem.dunder op.info.2) g)
    (F : FnOk X.prog X.w X.K X.mg X.base CX n g fd ps sp) (hr : Room n X.A) (hb : Binds X.K fd ps []) (hx : Passes CX X E) : OpR X (binaryOp op) (rBin C sp E) := by
  intro pins s σ H x y v u Q I rx ry h
  obtain ⟨a, dx, fs, b, dy, gs, rfl, rfl, ha, hb', q⟩ := h
  cases (show v = Value.ref a from rx)
  cases (show u = Value.ref b from ry)
  obtain ⟨mA, O, _⟩ := ins_get I.hok ha
  obtain ⟨od, J, _⟩ := O.look
  obtain ⟨mA', O', _⟩ := ins_get I.hok hb'
  obtain ⟨od', J', _⟩ := O'.look
  obtain ⟨mm, hF⟩ := I.fr
  refine PySem.W.binop_K hF I.ok.mod.kin J J'.type hc m.at_ m.fn ?_
  refine wpAny_mono (run_fn (vs := [.ref a, .ref b]) (dvs := []) (ds := []) F hr hb .nil hx I (.cons rfl (.cons rfl .nil)) q) (fun w s' z => ?_) fun _ _ x => x
  obtain ⟨z', H', I', rz, qz⟩ := z
  exact SlX.cmpback rz ⟨z', H', I', rz, qz⟩
def rNeg (C : Addr) (sp : Sp) (E : XK) : V → Hp → VK → Prop := fun x H Q => ∃ a dx fs, x = .ref a ∧ H a = some (.ins C dx fs) ∧ sp [x] H Q E
theorem un_own {X : Cx} {C g : Addr} {n : Nat} {fd : FuncData} {ps : List Str} {sp : Sp} {E : XK} {CX : CXT} (m : Meth X.K C "__neg__" g)
    (F : FnOk X.prog X.w X.K X.mg X.base CX n g fd ps sp) (hr : Room n X.A) (hb : Binds X.K fd ps []) (hx : Passes CX X E) : UnR X (unaryOp .USub) (rNeg C sp E) := by
  intro pins s σ H x v Q I rx h
  obtain ⟨a, dx, fs, rfl, ha, q⟩ := h
  cases (show v = Value.ref a from rx)
  obtain ⟨mA, O, _⟩ := ins_get I.hok ha
  obtain ⟨od, J, _⟩ := O.look
  obtain ⟨mm, hF⟩ := I.fr
  refine PySem.W.ksp_neg hF I.ok.mod.kin J m.at_ m.fn ?_
  exact run_fn (vs := [.ref a]) (dvs := []) (ds := []) F hr hb .nil hx I (.cons rfl .nil) q
theorem op_cmp {X : Cx} {op : CmpOp} {C g : Addr} {n : Nat} {fd : FuncData} {ps : List Str} {sp : Sp} {E : XK} {CX : CXT} (hop : ∀ a b, compareOp op a b = richCompare op a b) (m : Meth X.K C (PySem.cmpInfo op).2.1 g)
    (F : FnOk X.prog X.w X.K X.mg X.base CX n g fd ps sp) (hr : Room n X.A) (hb : Binds X.K fd ps []) (hx : Passes CX X E) : OpR X (compareOp op) (rBin C sp E) := by
  intro pins s σ H x y v u Q I rx ry h
  obtain ⟨a, dx, fs, b, dy, gs, rfl, rfl, ha, hb', q⟩ := h
  cases (show v = Value.ref a from rx)
  cases (show u = Value.ref b from ry)
  obtain ⟨mA, O, _⟩ := ins_get I.hok ha
  obtain ⟨od, J, _⟩ := O.look
  obtain ⟨mA', O', _⟩ := ins_get I.hok hb'
  obtain ⟨od', J', _⟩ := O'.look
  obtain ⟨mm, hF⟩ := I.fr
  rw [hop]
  refine PySem.W.cmp_K (op := op) (tb := .ref C) hr.units0 hF I.ok.mod.kin J J'.type (by unfold PySem.W.notFirst; simp) m.at_ m.fn ?_
  refine wpAny_mono (run_fn (vs := [.ref a, .ref b]) (dvs := []) (ds := []) F hr hb .nil hx I (.cons rfl (.cons rfl .nil)) q) (fun w s' z => ?_) fun _ _ x => x
  obtain ⟨z', H', I', rz, qz⟩ := z
  exact SlX.cmpback rz ⟨z', H', I', rz, qz⟩
theorem rt_of {p q n d n' d' : Int} (h : Rt p q n d) (hd : d ≠ 0) (e : n * d' = n' * d) : Rt p q n' d' := by
  obtain ⟨h1, h2, h3⟩ := h
  refine ⟨h1, h2, Int.eq_of_mul_eq_mul_right hd ?_⟩
  grind
theorem lt_of {x : Int} {a b : Nat} (h : x.natAbs < 2 ^ a) (l : a ≤ b) : x.natAbs < 2 ^ b := Nat.lt_of_lt_of_le h (Nat.pow_le_pow_right (by decide) l)
theorem add_lt {x y : Int} {a : Nat} (h : x.natAbs < 2 ^ a) (g : y.natAbs < 2 ^ a) : (x + y).natAbs < 2 ^ (a + 1) := by
  rw [Nat.pow_succ]
  omega
theorem sub_lt {x y : Int} {a : Nat} (h : x.natAbs < 2 ^ a) (g : y.natAbs < 2 ^ a) : (x - y).natAbs < 2 ^ (a + 1) := by
  rw [Nat.pow_succ]
  omega
theorem rt_lt {p q u v a b c d : Int} (h : Rt p q a b) (g : Rt u v c d) (hb : 0 < b) (hd : 0 < d) : (p * v < u * q ↔ a * d < c * b) ∧ (p * v ≤ u * q ↔ a * d ≤ c * b) ∧ ((p = u ∧ q = v) ↔ a * d = c * b) := by
  obtain ⟨q0, _, e1⟩ := id h
  obtain ⟨v0, _, e2⟩ := id g
  have k1 : (p * v) * (b * d) = (a * d) * (q * v) := by grind
  have k2 : (u * q) * (b * d) = (c * b) * (q * v) := by grind
  have h1 : 0 < b * d := Int.mul_pos hb hd
  have h2 : 0 < q * v := Int.mul_pos q0 v0
  refine ⟨?_, ?_, ?_⟩
  · rw [← Int.mul_lt_mul_right h1, k1, k2, Int.mul_lt_mul_right h2]
  · rw [← Int.mul_le_mul_right h1, k1, k2, Int.mul_le_mul_right h2]
  · constructor
    · rintro ⟨rfl, rfl⟩
      have := k1.symm.trans k2
      exact Int.eq_of_mul_eq_mul_right (by omega) this
    · intro e
      exact rt_uniq h g (by omega) (by omega) e

/-! ### lists of tracked things beside lists of numbers -/
theorem pget {α β : Type} {R : α → β → Prop} : ∀ {xs : List α} {ys : List β} {i : Nat} {x : α}, Paired R xs ys → xs[i]? = some x → ∃ y, ys[i]? = some y ∧ R x y
  | _, _, i, x, .nil, e => by simp at e
  | _, _, 0, x, .cons r _, e => by
    cases e
    exact ⟨_, rfl, r⟩
  | _, _, i + 1, x, .cons _ t, e => by
    rw [List.getElem?_cons_succ] at e
    rw [List.getElem?_cons_succ]
    exact pget t e
theorem pget' {α β : Type} {R : α → β → Prop} : ∀ {xs : List α} {ys : List β} {i : Nat} {y : β}, Paired R xs ys → ys[i]? = some y → ∃ x, xs[i]? = some x ∧ R x y
  | _, _, i, x, .nil, e => by simp at e
  | _, _, 0, x, .cons r _, e => by
    cases e
    exact ⟨_, rfl, r⟩
  | _, _, i + 1, x, .cons _ t, e => by
    rw [List.getElem?_cons_succ] at e
    rw [List.getElem?_cons_succ]
    exact pget' t e
/-- the instances stay -/
def KeepI (H H' : Hp) : Prop := ∀ b C dx fs, H b = some (.ins C dx fs) → H' b = some (.ins C dx fs)
theorem keepI_of {H H' : Hp} (s : Same H H') : KeepI H H' := fun b _ _ _ h => s b _ h
theorem KeepI.trans {H H1 H2 : Hp} (a : KeepI H H1) (b : KeepI H1 H2) : KeepI H H2 := fun c x y z h => b c x y z (a c x y z h)
theorem keepI_lst {H : Hp} {p : Addr} {xs ys : List V} (h : H p = some (.lst xs)) : KeepI H (upd H p (.lst ys)) := fun b C dx fs e => by
  have n : b ≠ p := fun q => by rw [q, h] at e; cases e
  rw [upd_ne n]
  exact e
/-- a tuple of two ints -/
def TupV (H : Hp) (v : V) (t : Int × Int) : Prop := ∃ a, v = .ref a ∧ H a = some (.tup [.int t.1, .int t.2])
theorem TupV.keep {H H' : Hp} (k : KeepT H H') {v : V} {t : Int × Int} (h : TupV H v t) : TupV H' v t := by
  obtain ⟨a, e, q⟩ := h
  exact ⟨a, e, k _ _ q⟩
/-- a ratio made of num and den -/
def RatT (C : Addr) (H : Hp) (v : V) (t : Int × Int) : Prop := ∃ a p q, v = .ref a ∧ RatAt C H a p q ∧ Rt p q t.1 t.2 ∧ p.natAbs ≤ t.1.natAbs ∧ q.natAbs ≤ t.2.natAbs
theorem RatT.keep {C : Addr} {H H' : Hp} (k : KeepI H H') {v : V} {t : Int × Int} (h : RatT C H v t) : RatT C H' v t := by
  obtain ⟨a, p, q, e, ⟨dx, r⟩, m⟩ := h
  exact ⟨a, p, q, e, ⟨dx, k _ _ _ _ r⟩, m⟩
/-- a ratio as it stands -/
def RatZ (C : Addr) (H : Hp) (v : V) (z : Int × Int) : Prop := ∃ a, v = .ref a ∧ RatAt C H a z.1 z.2
def RtZ (z t : Int × Int) : Prop := Rt z.1 z.2 t.1 t.2 ∧ z.1.natAbs ≤ t.1.natAbs ∧ z.2.natAbs ≤ t.2.natAbs
theorem ratZ_of {C : Addr} {H : Hp} : ∀ {xs : List V} {ts : List (Int × Int)}, Paired (RatT C H) xs ts → ∃ zs, Paired (RatZ C H) xs zs ∧ Paired RtZ zs ts
  | _, _, .nil => ⟨[], .nil, .nil⟩
  | _, _, .cons ⟨a, p, q, e, r, m⟩ t => by
    obtain ⟨zs, h1, h2⟩ := ratZ_of t
    exact ⟨(p, q) :: zs, .cons ⟨a, e, r⟩ h1, .cons m h2⟩
theorem paired_snoc_take {α β : Type} {R : α → β → Prop} {xs : List α} {ys : List β} {i : Nat} {x : α} {y : β} (h : Paired R xs (ys.take i)) (e : ys[i]? = some y) (r : R x y) : Paired R (xs ++ [x]) (ys.take (i + 1)) := by
  rw [List.take_add_one, e]
  exact Paired.snoc h r


/-! ### math.lcm -/
theorem lcm_le' (m n : Nat) : Nat.lcm m n ≤ m * n := by
  unfold Nat.lcm
  exact Nat.div_le_self _ _
theorem lcm_one' (m : Nat) : Nat.lcm 1 m = m := by simp [Nat.lcm]
theorem log2_le_of {n k : Nat} (h : n < 2 ^ (k + 1)) : n.log2 ≤ k := PySem.W.mg_log h
def rLcm : List V → Hp → VK → Prop := fun vs H Q => ∃ a b : Int, vs = [.int a, .int b] ∧ a.natAbs < 2 ^ 2000 ∧ b.natAbs < 2 ^ 2000 ∧ Q (.int ((Nat.lcm a.natAbs b.natAbs : Nat) : Int)) H
theorem cr_lcm {X : Cx} : CallR X (.builtin "math.lcm") rLcm := by
  intro pins s σ H vs us Q I r h
  obtain ⟨a, b, rfl, ha, hb, q⟩ := h
  obtain ⟨t, u, rfl⟩ := Vals.int2 r
  have l1 : (max 1 a.natAbs).log2 ≤ 1999 := log2_le_of (by
    have : (1 : Nat) < 2 ^ (1999 + 1) := Nat.one_lt_two_pow (by decide)
    show max 1 a.natAbs < 2 ^ (1999 + 1)
    exact Nat.max_lt.mpr ⟨this, ha⟩)
  have l2 : (max a.natAbs b.natAbs).log2 ≤ 1999 := log2_le_of (by exact Nat.max_lt.mpr ⟨ha, hb⟩)
  have sz : ((((Nat.lcm 1 a.natAbs).lcm b.natAbs : Nat) : Int)).natAbs.log2 < bitsLine := by
    rw [lcm_one', Int.natAbs_natCast]
    have h1 : a.natAbs.lcm b.natAbs < 2 ^ 4000 := by
      refine Nat.lt_of_le_of_lt (lcm_le' _ _) ?_
      rw [show (4000 : Nat) = 2000 + 2000 from rfl, Nat.pow_add]
      exact Nat.mul_lt_mul'' ha hb
    have h2 : (a.natAbs.lcm b.natAbs).log2 ≤ 3999 := log2_le_of h1
    exact Nat.lt_of_le_of_lt h2 (by decide)
  have g := PySem.W.mg_run_lcm a t b u (by omega) (by omega) sz
  rw [lcm_one'] at g
  exact PySem.call_function_meets PySem.W.MGF.kind_lcm PySem.W.MGF.plain_lcm PySem.W.MGF.entry_lcm (PySem.W.MGF.args_lcm _ _) g.meets ⟨.int _, H, I.tok _, ⟨_, rfl⟩, q⟩
/-! ### the least common denominator -/
def lcmF (w : Nat) (z : Int × Int) : Nat := Nat.lcm w z.2.natAbs
def lcmL (zs : List (Int × Int)) : Nat := zs.foldl lcmF 1
theorem fold_dvd : ∀ (zs : List (Int × Int)) (w : Nat), w ∣ zs.foldl lcmF w
  | [], w => Nat.dvd_refl w
  | z :: r, w => Nat.dvd_trans (Nat.dvd_lcm_left w z.2.natAbs) (fold_dvd r (lcmF w z))
theorem fold_pos : ∀ (zs : List (Int × Int)) (w : Nat), 0 < w → (∀ z ∈ zs, 0 < z.2) → 0 < zs.foldl lcmF w
  | [], w, h, _ => h
  | z :: r, w, h, hz => fold_pos r (lcmF w z) (Nat.lcm_pos h (by have := hz z List.mem_cons_self; omega)) fun y hy => hz y (List.mem_cons_of_mem _ hy)
theorem fold_mem : ∀ (zs : List (Int × Int)) (w : Nat) (z : Int × Int), z ∈ zs → z.2.natAbs ∣ zs.foldl lcmF w
  | [], w, z, h => by cases h
  | y :: r, w, z, h => by
    rcases List.mem_cons.mp h with e | h
    · subst e
      exact Nat.dvd_trans (Nat.dvd_lcm_right w z.2.natAbs) (fold_dvd r (lcmF w z))
    · exact fold_mem r (lcmF w y) z h
theorem fold_least : ∀ (zs : List (Int × Int)) (w m : Nat), w ∣ m → (∀ z ∈ zs, z.2.natAbs ∣ m) → zs.foldl lcmF w ∣ m
  | [], w, m, h, _ => h
  | z :: r, w, m, h, hz => fold_least r (lcmF w z) m (Nat.lcm_dvd h (hz z List.mem_cons_self)) fun y hy => hz y (List.mem_cons_of_mem _ hy)
theorem lcmL_take (zs : List (Int × Int)) (i : Nat) : lcmL (zs.take i) ∣ lcmL zs := by
  have e : lcmL zs = (zs.drop i).foldl lcmF (lcmL (zs.take i)) := by
    unfold lcmL
    rw [← List.foldl_append, List.take_append_drop]
  rw [e]
  exact fold_dvd _ _
theorem lcmL_le : ∀ (zs : List (Int × Int)) (w b : Nat), (∀ z ∈ zs, z.2.natAbs < 2 ^ b) → zs.foldl lcmF w ≤ w * 2 ^ (b * zs.length)
  | [], w, b, _ => by simp
  | z :: r, w, b, h => by
    have h1 := lcmL_le r (lcmF w z) b fun y hy => h y (List.mem_cons_of_mem _ hy)
    refine Nat.le_trans h1 ?_
    have h2 : lcmF w z ≤ w * 2 ^ b := Nat.le_trans (lcm_le' _ _) (Nat.mul_le_mul_left _ (Nat.le_of_lt (h z List.mem_cons_self)))
    refine Nat.le_trans (Nat.mul_le_mul_right _ h2) ?_
    rw [List.length_cons, Nat.mul_add, Nat.mul_one, Nat.mul_assoc, ← Nat.pow_add, Nat.add_comm b]
    exact Nat.le_refl _
/-- the numbers over the denominator -/
def overL (zs : List (Int × Int)) (z : Int × Int) : Int := z.1 * ((lcmL zs : Nat) : Int).fdiv z.2
theorem part_of {zs : List (Int × Int)} {z : Int × Int} (h : z ∈ zs) (hz : 0 < z.2) : ∃ m : Int, ((lcmL zs : Nat) : Int) = m * z.2 ∧ overL zs z = z.1 * m := by
  obtain ⟨k, hk⟩ := fold_mem zs 1 z h
  refine ⟨(k : Int), ?_, ?_⟩
  · unfold lcmL
    rw [hk, Int.natCast_mul, Int.mul_comm]
    congr 1
    omega
  · unfold overL lcmL
    rw [hk, Int.natCast_mul, show ((z.2.natAbs : Nat) : Int) = z.2 by omega, Int.mul_fdiv_cancel_left _ (by omega)]
/-- a divisor of the denominator and of all numbers is 1 -/
theorem common_one {zs : List (Int × Int)} {g : Nat} (hp : ∀ z ∈ zs, 0 < z.2 ∧ Nat.gcd z.1.natAbs z.2.natAbs = 1) (h0 : g ∣ lcmL zs) (hg : ∀ z ∈ zs, (g : Int) ∣ overL zs z) : g = 1 := by
  have pos : 0 < lcmL zs := fold_pos zs 1 (by decide) fun z hz => (hp z hz).1
  obtain ⟨m, hm⟩ := h0
  have gpos : 0 < g := Nat.pos_of_ne_zero fun z => by rw [z, Nat.zero_mul] at hm; omega
  have mpos : 0 < m := Nat.pos_of_ne_zero fun z => by rw [z, Nat.mul_zero] at hm; omega
  have all : lcmL zs ∣ m := by
    refine fold_least zs 1 m (Nat.one_dvd _) fun z hz => ?_
    obtain ⟨k, e1, e2⟩ := part_of hz (hp z hz).1
    have q := hg z hz
    rw [e2] at q
    have q1 : g ∣ z.1.natAbs * k.natAbs := by
      have := Int.natAbs_dvd_natAbs.mpr q
      rwa [Int.natAbs_mul, Int.natAbs_natCast] at this
    have q2 : g ∣ z.2.natAbs * k.natAbs := by
      have w : lcmL zs = z.2.natAbs * k.natAbs := by
        have := congrArg Int.natAbs e1
        rw [Int.natAbs_mul, Int.natAbs_natCast] at this
        rw [this, Nat.mul_comm]
      rw [← w]
      exact ⟨m, hm⟩
    have q3 : g ∣ k.natAbs := by
      have := Nat.dvd_gcd q1 q2
      rwa [Nat.gcd_mul_right, (hp z hz).2, Nat.one_mul] at this
    obtain ⟨j, hj⟩ := q3
    refine ⟨j, ?_⟩
    have w : g * m = g * (z.2.natAbs * j) := by
      have := congrArg Int.natAbs e1
      rw [Int.natAbs_mul, Int.natAbs_natCast, hm, hj] at this
      rw [this, Nat.mul_assoc, Nat.mul_comm j]
    exact Nat.eq_of_mul_eq_mul_left gpos w
  have le := Nat.le_of_dvd mpos all
  rw [hm] at le
  have : g * m ≤ 1 * m := by omega
  have := Nat.le_of_mul_le_mul_right this mpos
  omega
theorem lcmL_snoc {zs : List (Int × Int)} {i : Nat} {z : Int × Int} (h : zs[i]? = some z) : lcmL (zs.take (i + 1)) = Nat.lcm (lcmL (zs.take i)) z.2.natAbs := by
  unfold lcmL
  rw [List.take_add_one, h, List.foldl_append]
  rfl

def lawTerm (c : Int) : Int × Int := (c / 60 % 201 - 100, if c % 11 = 3 then 1 + c % 10 ^ 20 else 1 + c % 60)
theorem lawTerm_ok (c : Int) : 0 < (lawTerm c).2 ∧ (lawTerm c).2.natAbs < 2 ^ 67 ∧ (lawTerm c).1.natAbs < 2 ^ 7 := by
  have h1 : 0 ≤ c / 60 % 201 := Int.emod_nonneg _ (by decide)
  have h2 : c / 60 % 201 < 201 := Int.emod_lt_of_pos _ (by decide)
  have h3 : 0 ≤ c % 10 ^ 20 := Int.emod_nonneg _ (by decide)
  have h4 : c % 10 ^ 20 < 10 ^ 20 := Int.emod_lt_of_pos _ (by decide)
  have h5 : 0 ≤ c % 60 := Int.emod_nonneg _ (by decide)
  have h6 : c % 60 < 60 := Int.emod_lt_of_pos _ (by decide)
  have e7 : (2 : Nat) ^ 67 = 147573952589676412928 := by decide
  have e8 : (2 : Nat) ^ 7 = 128 := by decide
  unfold lawTerm
  rw [e7, e8]
  dsimp only
  refine ⟨?_, ?_, by omega⟩
  · split <;> omega
  · split <;> omega

structure Txt (K : PySem.W.Frag) (mg : Str → Option Value) where
  C_Ratio : Addr
  a_Ratio_init : Addr
  d_Ratio_init : FuncData
  F_Ratio_init : FunD K "__init__" "Ratio.__init__" (defArgs s_Ratio_init) (defBody s_Ratio_init) (defScope s_Ratio_init) [.int 1] [] a_Ratio_init d_Ratio_init
  ds_Ratio_init : List Value
  v_Ratio_init : Vals [.int 1] ds_Ratio_init
  bd_Ratio_init : Binds K d_Ratio_init ["self", "num", "den"] ds_Ratio_init
  b_Ratio_init : Binds K d_Ratio_init ["self", "num", "den"] []
  mk_Ratio : Mk K C_Ratio a_Ratio_init
  a_Ratio_add : Addr
  d_Ratio_add : FuncData
  F_Ratio_add : Fun K "__add__" "Ratio.__add__" s_Ratio_add a_Ratio_add d_Ratio_add
  b_Ratio_add : Binds K d_Ratio_add ["self", "other"] []
  me_Ratio_add : Meth K C_Ratio "__add__" a_Ratio_add
  a_Ratio_sub : Addr
  d_Ratio_sub : FuncData
  F_Ratio_sub : Fun K "__sub__" "Ratio.__sub__" s_Ratio_sub a_Ratio_sub d_Ratio_sub
  b_Ratio_sub : Binds K d_Ratio_sub ["self", "other"] []
  me_Ratio_sub : Meth K C_Ratio "__sub__" a_Ratio_sub
  a_Ratio_mul : Addr
  d_Ratio_mul : FuncData
  F_Ratio_mul : Fun K "__mul__" "Ratio.__mul__" s_Ratio_mul a_Ratio_mul d_Ratio_mul
  b_Ratio_mul : Binds K d_Ratio_mul ["self", "other"] []
  me_Ratio_mul : Meth K C_Ratio "__mul__" a_Ratio_mul
  a_Ratio_neg : Addr
  d_Ratio_neg : FuncData
  F_Ratio_neg : Fun K "__neg__" "Ratio.__neg__" s_Ratio_neg a_Ratio_neg d_Ratio_neg
  b_Ratio_neg : Binds K d_Ratio_neg ["self"] []
  me_Ratio_neg : Meth K C_Ratio "__neg__" a_Ratio_neg
  a_Ratio_eq : Addr
  d_Ratio_eq : FuncData
  F_Ratio_eq : Fun K "__eq__" "Ratio.__eq__" s_Ratio_eq a_Ratio_eq d_Ratio_eq
  b_Ratio_eq : Binds K d_Ratio_eq ["self", "other"] []
  me_Ratio_eq : Meth K C_Ratio "__eq__" a_Ratio_eq
  a_Ratio_ne : Addr
  d_Ratio_ne : FuncData
  F_Ratio_ne : Fun K "__ne__" "Ratio.__ne__" s_Ratio_ne a_Ratio_ne d_Ratio_ne
  b_Ratio_ne : Binds K d_Ratio_ne ["self", "other"] []
  me_Ratio_ne : Meth K C_Ratio "__ne__" a_Ratio_ne
  a_common : Addr
  d_common : FuncData
  F_common : Fun K "common" "common" s_common a_common d_common
  b_common : Binds K d_common ["ratios"] []
  m_common : mg "common" = some (.ref a_common)
  a_law_is_integer : Addr
  d_law_is_integer : FuncData
  F_law_is_integer : Fun K "_law_is_integer" "_law_is_integer" s_law_is_integer a_law_is_integer d_law_is_integer
  b_law_is_integer : Binds K d_law_is_integer ["actual"] []
  m_law_is_integer : mg "_law_is_integer" = some (.ref a_law_is_integer)
  a_law_gcd : Addr
  d_law_gcd : FuncData
  F_law_gcd : Fun K "_law_gcd" "_law_gcd" s_law_gcd a_law_gcd d_law_gcd
  b_law_gcd : Binds K d_law_gcd ["a", "b"] []
  m_law_gcd : mg "_law_gcd" = some (.ref a_law_gcd)
  a_law_is_ratio : Addr
  d_law_is_ratio : FuncData
  F_law_is_ratio : Fun K "_law_is_ratio" "_law_is_ratio" s_law_is_ratio a_law_is_ratio d_law_is_ratio
  b_law_is_ratio : Binds K d_law_is_ratio ["actual", "num", "den"] []
  m_law_is_ratio : mg "_law_is_ratio" = some (.ref a_law_is_ratio)
  a_law : Addr
  d_law : FuncData
  F_law : Fun K "law" "law" s_law a_law d_law
  b_law : Binds K d_law ["script"] []
  m_law : mg "law" = some (.ref a_law)
  m_Ratio : mg "Ratio" = some (.ref C_Ratio)
  cl_Ratio : Cls K C_Ratio
  n_Ratio_num : NoAttr K C_Ratio "num"
  n_Ratio_den : NoAttr K C_Ratio "den"
  sf_Ratio : PySem.W.selfFirst K C_Ratio = true
  ic_Ratio : C8.InsC K C_Ratio
  g_gcd : mg "gcd" = some (.builtin "math.gcd")
  g_lcm : mg "lcm" = some (.builtin "math.lcm")
  z_abs : mg "abs" = none
  z_bool : mg "bool" = none
  z_int : mg "int" = none
  z_isinstance : mg "isinstance" = none
  z_len : mg "len" = none
  z_list : mg "list" = none
  z_range : mg "range" = none
  z_tuple : mg "tuple" = none
section
variable {P : Program} {w : World} {K : PySem.W.Frag} {mg : Str → Option Value} {base : Heap}
/-! ### Ratio.__init__ -/
def sp_Ratio_init (T : Txt K mg) : Sp := fun vs H Q _ => ∃ (x dx : Addr) (n d : Int), vs = [.ref x, .int n, .int d] ∧ H x = some (.ins T.C_Ratio dx []) ∧ d ≠ 0 ∧ d.natAbs < 2 ^ 8000 ∧
  ∀ (p q : Int) (H' : Hp), (∀ b o, b ≠ x → H b = some o → H' b = some o) → H' x = some (.ins T.C_Ratio dx (pf p q)) → Rt p q n d → p.natAbs ≤ n.natAbs → q.natAbs ≤ d.natAbs → Q .non H'

theorem ok_Ratio_init (T : Txt K mg) : FnOk P w K mg base CX0 3 T.a_Ratio_init T.d_Ratio_init ["self", "num", "den"] (sp_Ratio_init T) := by
  refine T.F_Ratio_init.ok sc_Ratio_init (fun vs H Q E h => ?_) (fun cdv A outer s H vs Q E hr h => ?_)
  · obtain ⟨x, dx, n, d, rfl, _⟩ := h
    rfl
  obtain ⟨x, dx, n, d, rfl, hx, hd, hb, q⟩ := h
  refine ⟨_, PSs.nox (pss_cons (ps_if (pt_cmpR op_eq (pv 2) pe_int (nomark _)) (pss_one (ps_never)) pss_nil)
      (pss_cons (ps_set (i := 3) sc_Ratio_init.nd rfl (by first | exact Or.inl rfl | exact Or.inr rfl) (pe_callBfun cr_gcd (by rfl) T.g_gcd (pa_cons (pv 1) (pa_cons (pv 2) pa_nil))))
      (C8.pss_cut (ps_if (pt_cmpR op_lt (pv 2) pe_int (nomark _)) (pss_one (ps_set (i := 3) sc_Ratio_init.nd rfl (by first | exact Or.inl rfl | exact Or.inr rfl) (pe_un un_neg (pv 3)))) pss_nil)
      (pss_cons (ps_fld (pv 0) (pe_op op_fdivX (pv 1) (pv 3)) rfl)
      (pss_one (ps_fld (pv 0) (pe_op op_fdivX (pv 2) (pv 3)) rfl)))))), ?_⟩
  refine ⟨_, rfl, rfl, _, rfl, ite2 (fun c => absurd (V.int.inj (of_decide_eq_true c)) hd) (fun _ => ?_)⟩
  refine ⟨_, rfl, _, rfl, n, d, rfl, ?_⟩
  refine ⟨fun σ' H' => σ' = [some (.ref x), some (.int n), some (.int d), some (.int (fac n d))] ∧ H' = H, ?_, ?_⟩
  · refine ⟨_, rfl, _, _, rfl, rfl, _, rfl, ite2 (fun c => ?_) (fun c => ?_)⟩
    · have c' : d < 0 := of_decide_eq_true c
      refine ⟨_, rfl, _, rfl, ?_, rfl⟩
      unfold fac
      rw [if_pos c']
      rfl
    · have c' : ¬ d < 0 := fun z => c (decide_eq_true z)
      refine ⟨?_, rfl⟩
      unfold fac
      rw [if_neg c']
      rfl
  rintro σ1 H1 ⟨rfl, rfl⟩
  have hf := fac_ne (n := n) hd
  have hg : (fac n d).natAbs < 2 ^ 8000 := by
    rw [fac_abs]
    exact Nat.lt_of_le_of_lt (Nat.le_of_dvd (Int.natAbs_pos.mpr hd) (Nat.gcd_dvd_right _ _)) hb
  have hl := log_lt hg (by omega) (by omega)
  obtain ⟨r1, r2, r3⟩ := rt_made (n := n) hd
  refine ⟨_, rfl, _, rfl, _, _, rfl, rfl, ⟨hf, hl⟩, _, rfl, x, T.C_Ratio, dx, [], rfl, hx, T.cl_Ratio, T.n_Ratio_num, by show 0 < 1000; decide, ?_⟩
  refine ⟨_, rfl, _, rfl, _, _, rfl, rfl, ⟨hf, hl⟩, _, rfl, x, T.C_Ratio, dx, _, rfl, upd_same, T.cl_Ratio, T.n_Ratio_den, by show 1 < 1000; decide, ?_⟩
  rw [upd_upd]
  exact q _ _ _ (fun b o n e => by rw [upd_ne n]; exact e) upd_same r1 r2 r3
/-! ### Ratio.__add__ -/
theorem make_ratio (T : Txt K mg) {H : Hp} {R : Addr → Hp → Prop} {E : XK} {n d : Int} (hd : d ≠ 0) (hb : d.natAbs < 2 ^ 8000)
    (k : ∀ (r : Addr) (p q : Int) (H' : Hp), Same H H' → H r = none → RatAt T.C_Ratio H' r p q → Rt p q n d → p.natAbs ≤ n.natAbs → q.natAbs ≤ d.natAbs → R r H') :
    ∀ x dx, H x = none → H dx = none → dx ≠ x → sp_Ratio_init T [.ref x, .int n, .int d] (upd (upd H dx (.own x)) x (.ins T.C_Ratio dx [])) (fun v H2 => v = .non ∧ R x H2) E := by
  intro x dx nx nd ne
  refine ⟨x, dx, n, d, rfl, upd_same, hd, hb, fun p q H' hk hx hr hp hq => ⟨rfl, ?_⟩⟩
  refine k x p q H' (fun b o e => hk b o (ne_of_none e nx) ?_) nx ⟨dx, hx⟩ hr hp hq
  rw [upd_ne (ne_of_none e nx), upd_ne (ne_of_none e nd)]
  exact e
/-- two ratios given, one made of num and den -/
def sp2 (T : Txt K mg) (num den : Int → Int → Int → Int → Int) : Sp := fun vs H Q _ => ∃ (a b : Addr) (p q u v : Int), vs = [.ref a, .ref b] ∧ RatAt T.C_Ratio H a p q ∧ RatAt T.C_Ratio H b u v ∧ 0 < q ∧ 0 < v ∧ p.natAbs < 2 ^ 2000 ∧ q.natAbs < 2 ^ 2000 ∧ u.natAbs < 2 ^ 2000 ∧ v.natAbs < 2 ^ 2000 ∧
  ∀ (r : Addr) (p' q' : Int) (H' : Hp), Same H H' → H r = none → RatAt T.C_Ratio H' r p' q' → Rt p' q' (num p q u v) (den p q u v) → p'.natAbs ≤ (num p q u v).natAbs → q'.natAbs ≤ (den p q u v).natAbs → Q (.ref r) H'
def sp_Ratio_add (T : Txt K mg) : Sp := sp2 T (fun p q u v => p * v + u * q) (fun _ q _ v => q * v)

theorem ok_Ratio_add (T : Txt K mg) : FnOk P w K mg base CX0 5 T.a_Ratio_add T.d_Ratio_add ["self", "other"] (sp_Ratio_add T) := by
  refine T.F_Ratio_add.ok sc_Ratio_add (fun vs H Q E h => ?_) (fun cdv A outer s H vs Q E hr h => ?_)
  · obtain ⟨a, b, p, q, u, v, rfl, _⟩ := h
    rfl
  obtain ⟨a, b, p, q, u, v, rfl, ⟨da, ha⟩, ⟨db, hb⟩, q0, v0, hp, hq, hu, hv, k⟩ := h
  refine ⟨_, (pss_one (ps_ret (pe_make T.mk_Ratio (ok_Ratio_init T) (hr.mono (by decide)) (by rfl) T.m_Ratio T.b_Ratio_init .nil pass0 (pa_cons (pe_op op_add (pe_op op_mulW (pe_fld (pv 0) rfl) (pe_fld (pv 1) rfl)) (pe_op op_mulW (pe_fld (pv 1) rfl) (pe_fld (pv 0) rfl))) (pa_cons (pe_op op_mulW (pe_fld (pv 0) rfl) (pe_fld (pv 1) rfl)) pa_nil))))), ?_⟩
  refine ⟨_, rfl, a, T.C_Ratio, da, _, _, rfl, ha, T.cl_Ratio, T.n_Ratio_num, pf_num _ _, _, rfl, b, T.C_Ratio, db, _, _, rfl, hb, T.cl_Ratio, T.n_Ratio_den, pf_den _ _, _, _, rfl, rfl, wide_mul hp hv (by decide) (by decide) (by decide), ?_⟩
  refine ⟨_, rfl, b, T.C_Ratio, db, _, _, rfl, hb, T.cl_Ratio, T.n_Ratio_num, pf_num _ _, _, rfl, a, T.C_Ratio, da, _, _, rfl, ha, T.cl_Ratio, T.n_Ratio_den, pf_den _ _, _, _, rfl, rfl, wide_mul hu hq (by decide) (by decide) (by decide), _, _, rfl, rfl, ?_⟩
  refine ⟨_, rfl, a, T.C_Ratio, da, _, _, rfl, ha, T.cl_Ratio, T.n_Ratio_den, pf_den _ _, _, rfl, b, T.C_Ratio, db, _, _, rfl, hb, T.cl_Ratio, T.n_Ratio_den, pf_den _ _, _, _, rfl, rfl, wide_mul hq hv (by decide) (by decide) (by decide), ?_⟩
  exact make_ratio T (Int.mul_ne_zero (by omega) (by omega)) (Nat.lt_of_lt_of_le (wide_lt hq hv) (Nat.pow_le_pow_right (by decide) (by decide))) k
/-! ### Ratio.__sub__ -/
def sp_Ratio_sub (T : Txt K mg) : Sp := sp2 T (fun p q u v => p * v - u * q) (fun _ q _ v => q * v)

theorem ok_Ratio_sub (T : Txt K mg) : FnOk P w K mg base CX0 5 T.a_Ratio_sub T.d_Ratio_sub ["self", "other"] (sp_Ratio_sub T) := by
  refine T.F_Ratio_sub.ok sc_Ratio_sub (fun vs H Q E h => ?_) (fun cdv A outer s H vs Q E hr h => ?_)
  · obtain ⟨a, b, p, q, u, v, rfl, _⟩ := h
    rfl
  obtain ⟨a, b, p, q, u, v, rfl, ⟨da, ha⟩, ⟨db, hb⟩, q0, v0, hp, hq, hu, hv, k⟩ := h
  refine ⟨_, (pss_one (ps_ret (pe_make T.mk_Ratio (ok_Ratio_init T) (hr.mono (by decide)) (by rfl) T.m_Ratio T.b_Ratio_init .nil pass0 (pa_cons (pe_op op_sub (pe_op op_mulW (pe_fld (pv 0) rfl) (pe_fld (pv 1) rfl)) (pe_op op_mulW (pe_fld (pv 1) rfl) (pe_fld (pv 0) rfl))) (pa_cons (pe_op op_mulW (pe_fld (pv 0) rfl) (pe_fld (pv 1) rfl)) pa_nil))))), ?_⟩
  refine ⟨_, rfl, a, T.C_Ratio, da, _, _, rfl, ha, T.cl_Ratio, T.n_Ratio_num, pf_num _ _, _, rfl, b, T.C_Ratio, db, _, _, rfl, hb, T.cl_Ratio, T.n_Ratio_den, pf_den _ _, _, _, rfl, rfl, wide_mul hp hv (by decide) (by decide) (by decide), ?_⟩
  refine ⟨_, rfl, b, T.C_Ratio, db, _, _, rfl, hb, T.cl_Ratio, T.n_Ratio_num, pf_num _ _, _, rfl, a, T.C_Ratio, da, _, _, rfl, ha, T.cl_Ratio, T.n_Ratio_den, pf_den _ _, _, _, rfl, rfl, wide_mul hu hq (by decide) (by decide) (by decide), _, _, rfl, rfl, ?_⟩
  refine ⟨_, rfl, a, T.C_Ratio, da, _, _, rfl, ha, T.cl_Ratio, T.n_Ratio_den, pf_den _ _, _, rfl, b, T.C_Ratio, db, _, _, rfl, hb, T.cl_Ratio, T.n_Ratio_den, pf_den _ _, _, _, rfl, rfl, wide_mul hq hv (by decide) (by decide) (by decide), ?_⟩
  exact make_ratio T (Int.mul_ne_zero (by omega) (by omega)) (Nat.lt_of_lt_of_le (wide_lt hq hv) (Nat.pow_le_pow_right (by decide) (by decide))) k
/-! ### Ratio.__mul__ -/
def sp_Ratio_mul (T : Txt K mg) : Sp := sp2 T (fun p _ u _ => p * u) (fun _ q _ v => q * v)

theorem ok_Ratio_mul (T : Txt K mg) : FnOk P w K mg base CX0 5 T.a_Ratio_mul T.d_Ratio_mul ["self", "other"] (sp_Ratio_mul T) := by
  refine T.F_Ratio_mul.ok sc_Ratio_mul (fun vs H Q E h => ?_) (fun cdv A outer s H vs Q E hr h => ?_)
  · obtain ⟨a, b, p, q, u, v, rfl, _⟩ := h
    rfl
  obtain ⟨a, b, p, q, u, v, rfl, ⟨da, ha⟩, ⟨db, hb⟩, q0, v0, hp, hq, hu, hv, k⟩ := h
  refine ⟨_, (pss_one (ps_ret (pe_make T.mk_Ratio (ok_Ratio_init T) (hr.mono (by decide)) (by rfl) T.m_Ratio T.b_Ratio_init .nil pass0 (pa_cons (pe_op op_mulW (pe_fld (pv 0) rfl) (pe_fld (pv 1) rfl)) (pa_cons (pe_op op_mulW (pe_fld (pv 0) rfl) (pe_fld (pv 1) rfl)) pa_nil))))), ?_⟩
  refine ⟨_, rfl, a, T.C_Ratio, da, _, _, rfl, ha, T.cl_Ratio, T.n_Ratio_num, pf_num _ _, _, rfl, b, T.C_Ratio, db, _, _, rfl, hb, T.cl_Ratio, T.n_Ratio_num, pf_num _ _, _, _, rfl, rfl, wide_mul hp hu (by decide) (by decide) (by decide), ?_⟩
  refine ⟨_, rfl, a, T.C_Ratio, da, _, _, rfl, ha, T.cl_Ratio, T.n_Ratio_den, pf_den _ _, _, rfl, b, T.C_Ratio, db, _, _, rfl, hb, T.cl_Ratio, T.n_Ratio_den, pf_den _ _, _, _, rfl, rfl, wide_mul hq hv (by decide) (by decide) (by decide), ?_⟩
  exact make_ratio T (Int.mul_ne_zero (by omega) (by omega)) (Nat.lt_of_lt_of_le (wide_lt hq hv) (Nat.pow_le_pow_right (by decide) (by decide))) k
/-! ### Ratio.__neg__ -/
def sp_Ratio_neg (T : Txt K mg) : Sp := fun vs H Q _ => ∃ (a : Addr) (p q : Int), vs = [.ref a] ∧ RatAt T.C_Ratio H a p q ∧ 0 < q ∧ q.natAbs < 2 ^ 2000 ∧
  ∀ (r : Addr) (p' q' : Int) (H' : Hp), Same H H' → H r = none → RatAt T.C_Ratio H' r p' q' → Rt p' q' (-p) q → Q (.ref r) H'

theorem ok_Ratio_neg (T : Txt K mg) : FnOk P w K mg base CX0 5 T.a_Ratio_neg T.d_Ratio_neg ["self"] (sp_Ratio_neg T) := by
  refine T.F_Ratio_neg.ok sc_Ratio_neg (fun vs H Q E h => ?_) (fun cdv A outer s H vs Q E hr h => ?_)
  · obtain ⟨a, p, q, rfl, _⟩ := h
    rfl
  obtain ⟨a, p, q, rfl, ⟨da, ha⟩, q0, hq, k⟩ := h
  refine ⟨_, (pss_one (ps_ret (pe_make T.mk_Ratio (ok_Ratio_init T) (hr.mono (by decide)) (by rfl) T.m_Ratio T.b_Ratio_init .nil pass0 (pa_cons (pe_un un_neg (pe_fld (pv 0) rfl)) (pa_cons (pe_fld (pv 0) rfl) pa_nil))))), ?_⟩
  refine ⟨_, rfl, a, T.C_Ratio, da, _, _, rfl, ha, T.cl_Ratio, T.n_Ratio_num, pf_num _ _, _, rfl, _, rfl, a, T.C_Ratio, da, _, _, rfl, ha, T.cl_Ratio, T.n_Ratio_den, pf_den _ _, ?_⟩
  exact make_ratio T (by omega) (Nat.lt_of_lt_of_le hq (Nat.pow_le_pow_right (by decide) (by decide))) fun r p' q' H' s' nr hr' rt _ _ => k r p' q' H' s' nr hr' rt
/-! ### Ratio.__eq__ -/
def sp_Ratio_eq (T : Txt K mg) : Sp := fun vs H Q _ => ∃ (a b : Addr) (p q u v : Int), vs = [.ref a, .ref b] ∧ RatAt T.C_Ratio H a p q ∧ RatAt T.C_Ratio H b u v ∧ ∀ c : Bool, (c = true ↔ (p = u ∧ q = v)) → Q (.bl c) H

theorem ok_Ratio_eq (T : Txt K mg) : FnOk P w K mg base CX0 1 T.a_Ratio_eq T.d_Ratio_eq ["self", "other"] (sp_Ratio_eq T) := by
  refine T.F_Ratio_eq.ok sc_Ratio_eq (fun vs H Q E h => ?_) (fun cdv A outer s H vs Q E hr h => ?_)
  · obtain ⟨a, b, p, q, u, v, rfl, _⟩ := h
    rfl
  obtain ⟨a, b, p, q, u, v, rfl, ⟨da, ha⟩, ⟨db, hb⟩, k⟩ := h
  refine ⟨_, (pss_one (ps_ret (pe_and (pe_callB (C8.call_isC T.ic_Ratio) (by rfl) T.z_isinstance (by first | exact PySem.boot_isinstance | decide +kernel) (pa_cons (pv 1) (pa_cons (pe_glob (v := .ref T.C_Ratio) (by rfl) T.m_Ratio rfl) pa_nil))) (pe_and (pe_cmpR op_eq (pe_fld (pv 0) rfl) (pe_fld (pv 1) rfl) (nomark _)) (pe_one (pe_cmpR op_eq (pe_fld (pv 0) rfl) (pe_fld (pv 1) rfl) (nomark _))))))), ?_⟩
  refine ⟨_, rfl, b, db, _, rfl, hb, _, rfl, ?_⟩
  refine ⟨_, rfl, a, T.C_Ratio, da, _, _, rfl, ha, T.cl_Ratio, T.n_Ratio_num, pf_num _ _, _, rfl, b, T.C_Ratio, db, _, _, rfl, hb, T.cl_Ratio, T.n_Ratio_num, pf_num _ _, rfl, _, rfl, ite2 (fun e => ?_) (fun e => ?_)⟩
  · have e' : p = u := V.int.inj (of_decide_eq_true e)
    refine ⟨_, rfl, a, T.C_Ratio, da, _, _, rfl, ha, T.cl_Ratio, T.n_Ratio_den, pf_den _ _, _, rfl, b, T.C_Ratio, db, _, _, rfl, hb, T.cl_Ratio, T.n_Ratio_den, pf_den _ _, rfl, k _ ?_⟩
    rw [decide_eq_true_iff]
    exact ⟨fun z => ⟨e', V.int.inj z⟩, fun z => congrArg V.int z.2⟩
  · have e' : ¬ p = u := fun z => e (decide_eq_true (congrArg V.int z))
    exact k _ ⟨(fun z => by cases z), fun z => absurd z.1 e'⟩
/-! ### Ratio.__ne__ -/
def sp_Ratio_ne (T : Txt K mg) : Sp := fun vs H Q _ => ∃ (a b : Addr) (p q u v : Int), vs = [.ref a, .ref b] ∧ RatAt T.C_Ratio H a p q ∧ RatAt T.C_Ratio H b u v ∧ ∀ c : Bool, (c = true ↔ ¬ (p = u ∧ q = v)) → Q (.bl c) H

theorem ok_Ratio_ne (T : Txt K mg) : FnOk P w K mg base CX0 3 T.a_Ratio_ne T.d_Ratio_ne ["self", "other"] (sp_Ratio_ne T) := by
  refine T.F_Ratio_ne.ok sc_Ratio_ne (fun vs H Q E h => ?_) (fun cdv A outer s H vs Q E hr h => ?_)
  · obtain ⟨a, b, p, q, u, v, rfl, _⟩ := h
    rfl
  obtain ⟨a, b, p, q, u, v, rfl, ⟨da, ha⟩, ⟨db, hb⟩, k⟩ := h
  refine ⟨_, (pss_one (ps_ret (pe_not (pe_cmpR (op_cmp (fun _ _ => rfl) T.me_Ratio_eq (ok_Ratio_eq T) (hr.mono (by decide)) T.b_Ratio_eq pass0) (pv 0) (pv 1) (nomark _))))), ?_⟩
  refine ⟨_, rfl, _, rfl, a, da, _, b, db, _, rfl, rfl, ha, hb, a, b, p, q, u, v, rfl, ⟨da, ha⟩, ⟨db, hb⟩, fun c hc => ⟨c, rfl, k _ ?_⟩⟩
  rw [← hc]
  cases c <;> simp
/-! ### common -/
def sp_common (T : Txt K mg) : Sp := fun vs H Q _ => ∃ (L : Addr) (xs : List V) (zs : List (Int × Int)), vs = [.ref L] ∧ SqL K H L xs ∧ Paired (RatZ T.C_Ratio H) xs zs ∧ (∀ z ∈ zs, 0 < z.2 ∧ z.1.natAbs < 2 ^ 1000) ∧ lcmL zs < 2 ^ 1900 ∧ xs.length ≤ 900 ∧
  ∀ (r l : Addr) (H' : Hp), Same H H' → H' l = some (.lst (zs.map fun z => V.int (overL zs z))) → H' r = some (.tup [.ref l, .int ((lcmL zs : Nat) : Int)]) → Q (.ref r) H'

theorem ok_common (T : Txt K mg) : FnOk P w K mg base CX0 2 T.a_common T.d_common ["ratios"] (sp_common T) := by
  refine T.F_common.ok sc_common (fun vs H Q E h => ?_) (fun cdv A outer s H vs Q E hr h => ?_)
  · obtain ⟨L, xs, zs, rfl, _⟩ := h
    rfl
  obtain ⟨L, xs, zs, rfl, hL, hP, hz, hW, hn, k⟩ := h
  refine ⟨_, (pss_cons (ps_set (i := 1) sc_common.nd rfl (by first | exact Or.inl rfl | exact Or.inr rfl) pe_int)
      (pss_cons (ps_for PassesOwn.never rfl (pi_list (pv 0)) (pg_name (i := 2) sc_common.nd rfl (by first | exact Or.inl rfl | exact Or.inr rfl)) (pss_one (ps_set (i := 1) sc_common.nd rfl (by first | exact Or.inl rfl | exact Or.inr rfl) (pe_callBfun cr_lcm (by rfl) T.g_lcm (pa_cons (pv 1) (pa_cons (pe_fld (pv 2) rfl) pa_nil))))))
      (pss_one (ps_ret (pe_tup (pa_cons (pe_lc (own := [("ratio", 2)]) (g := gName 2) (tt := tYes) rfl sc_common.nd (pi_list (pv 0)) (blkOk_by (N := N_common) (sc := defScope s_common) (by decide +kernel)) (fun _ _ _ _ _ => (pg_name (i := 2) sc_common.nd rfl (by first | exact Or.inl rfl | exact Or.inr rfl))) (fun _ _ _ _ _ => pts_nil) (fun _ _ _ _ _ => (pe_op op_mulW (show PE _ _ (tFld K _ _) from (pe_fld (pv 2) rfl)) (pe_op op_fdivX (pv 1) (show PE _ _ (tFld K _ _) from (pe_fld (pv 2) rfl)))))) (pa_cons (pv 1) pa_nil))))))), ?_⟩
  have hlen := Paired.length hP
  have pos : 0 < lcmL zs := fold_pos zs 1 (by decide) fun z h => (hz z h).1
  have W2 : (((lcmL zs : Nat) : Int)).natAbs < 2 ^ 1900 := by rw [Int.natAbs_natCast]; exact hW
  have zb : ∀ z ∈ zs, z.2.natAbs < 2 ^ 1900 := fun z h => Nat.lt_of_le_of_lt (Nat.le_of_dvd pos (fold_mem zs 1 z h)) hW
  refine ⟨_, rfl, L, rfl, ⟨_, hL⟩, for_list (K := K) (a := L) (xs := xs) (fun i σ' H' => ∃ y, σ' = [some (.ref L), some (.int ((lcmL (zs.take i) : Nat) : Int)), y] ∧ H' = H) ⟨_, rfl, rfl⟩ ?_ ?_ ?_⟩
  · rintro i σ' H' _ ⟨y, rfl, rfl⟩
    exact hL
  · rintro i x σ' H' hi ⟨y, rfl, rfl⟩
    obtain ⟨z, ez, a, rfl, da, ha⟩ := pget hP hi
    have mz := List.mem_of_getElem? ez
    refine ⟨_, rfl, _, rfl, a, T.C_Ratio, da, _, _, rfl, ha, T.cl_Ratio, T.n_Ratio_den, pf_den _ _, _, _, rfl, ?_, lt_of (zb z mz) (by decide), ?_⟩
    · rw [Int.natAbs_natCast]
      exact Nat.lt_of_le_of_lt (Nat.le_of_dvd pos (lcmL_take zs i)) (Nat.lt_of_lt_of_le hW (Nat.pow_le_pow_right (by decide) (by decide)))
    · refine ⟨some (.ref a), ?_, rfl⟩
      rw [lcmL_snoc ez, Int.natAbs_natCast]
      rfl
  rintro σ' H' ⟨y, rfl, rfl⟩
  rw [hlen, List.take_length]
  refine ⟨_, rfl, L, rfl, ⟨_, hL⟩, fun D hD => ?_⟩
  refine lc_list (a := L) (xs := xs) (fun i H2 => Same H' H2 ∧ H2 D = some (.lst ((zs.take i).map fun z => V.int (overL zs z)))) ⟨same_upd hD, upd_same⟩ (fun i H2 _ h => h.1.seq hL) (fun i x H2 hx h => ?_) (fun H2 h => ?_)
  · obtain ⟨z, ez, a, rfl, da, ha⟩ := pget hP hx
    have mz := List.mem_of_getElem? ez
    obtain ⟨z0, z1⟩ := hz z mz
    have a2 := h.1 _ _ ha
    refine ⟨rfl, ?_⟩
    refine ⟨_, rfl, a, T.C_Ratio, da, _, _, rfl, a2, T.cl_Ratio, T.n_Ratio_num, pf_num _ _, _, rfl, _, rfl, a, T.C_Ratio, da, _, _, rfl, a2, T.cl_Ratio, T.n_Ratio_den, pf_den _ _, _, _, rfl, rfl, ⟨by omega, log_lt (zb z mz) (by decide) (by decide)⟩, _, _, rfl, rfl, ?_, ?_⟩
    · refine wide_mul (b := 1900) z1 ?_ (by decide) (by decide) (by decide)
      obtain ⟨m, e1, _⟩ := part_of mz z0
      rw [e1, Int.mul_fdiv_cancel _ (by omega)]
      refine Nat.lt_of_le_of_lt ?_ W2
      rw [e1, Int.natAbs_mul]
      exact Nat.le_mul_of_pos_right _ (by omega)
    · refine ⟨_, h.2, ?_, fun b o e => ?_, ?_⟩
      · rw [List.length_map, List.length_take]
        exact small1000 (by omega)
      · rw [upd_ne (ne_of_none e hD)]
        exact h.1 b o e
      · rw [upd_same, List.take_add_one, ez, List.map_append]
        rfl
  · obtain ⟨s2, e2⟩ := h
    rw [hlen, List.take_length] at e2
    refine ⟨_, rfl, by show 2 ≤ sizeLine; decide, fun r hr => ?_⟩
    exact k r D _ (s2.trans (same_upd hr)) (by rw [upd_ne (ne_of_none e2 hr)]; exact e2) upd_same
/-! ### _law_is_integer -/
def sp_law_is_integer (T : Txt K mg) : Sp := fun vs H Q _ => ∃ (k : Int), vs = [.int k] ∧ Q (.bl true) H

theorem ok_law_is_integer (T : Txt K mg) : FnOk P w K mg base CX0 1 T.a_law_is_integer T.d_law_is_integer ["actual"] (sp_law_is_integer T) := by
  refine T.F_law_is_integer.ok sc_law_is_integer (fun vs H Q E h => ?_) (fun cdv A outer s H vs Q E hr h => ?_)
  · obtain ⟨k, rfl, _⟩ := h
    rfl
  obtain ⟨k, rfl, q⟩ := h
  refine ⟨_, (pss_one (ps_ret (pe_and (pe_callB call_isi (by rfl) T.z_isinstance (by first | exact PySem.boot_isinstance | decide +kernel) (pa_cons (pv 0) (pa_cons (pe_bltn (v := .ty "int") (by rfl) T.z_int (by decide +kernel) rfl) pa_nil))) (pe_one (pe_not (pe_callB call_isi (by rfl) T.z_isinstance (by first | exact PySem.boot_isinstance | decide +kernel) (pa_cons (pv 0) (pa_cons (pe_bltn (v := .ty "bool") (by rfl) T.z_bool (by decide +kernel) rfl) pa_nil)))))))), ?_⟩
  refine ⟨_, rfl, .int k, .ty "int", .type "int", .type "int", true, rfl, .ty _, .base (.int _), kit_ty (by decide +kernel), true, rfl, ?_⟩
  refine iteT ?_
  refine ⟨_, rfl, .int k, .ty "bool", .type "int", .type "bool", false, rfl, .ty _, .base (.int _), kit_ty (by decide +kernel), false, rfl, ?_⟩
  exact q
/-! ### _law_gcd -/
theorem gcd_pow {i N m : Nat} (h : 2 ^ i * m < 2 ^ N) (hi : N ≤ i) : m = 0 := by
  refine Nat.eq_zero_of_not_pos fun z => ?_
  have h1 : 2 ^ N ≤ 2 ^ i := Nat.pow_le_pow_right (by decide) hi
  have h2 : 2 ^ i * 1 ≤ 2 ^ i * m := Nat.mul_le_mul_left _ z
  omega
theorem gcd_half {x y j M : Nat} (hy : 0 < y) (hx : y < x) (h : 2 ^ j * (x * y) < M) : x % y = 0 ∨ 2 ^ (j + 1) * (y * (x % y)) < M := by
  refine .inr (Nat.lt_of_le_of_lt ?_ h)
  have h1 : 2 * (x % y) ≤ x := by
    have h2 := Nat.mod_lt x hy
    have h3 := Nat.div_add_mod x y
    have h4 : 1 ≤ x / y := (Nat.le_div_iff_mul_le hy).mpr (by omega)
    have h5 : y * 1 ≤ y * (x / y) := Nat.mul_le_mul_left _ h4
    omega
  have h6 : 2 ^ (j + 1) * (y * (x % y)) = 2 ^ j * (y * (2 * (x % y))) := by
    rw [Nat.pow_succ]
    simp only [Nat.mul_assoc, Nat.mul_left_comm]
  rw [h6, Nat.mul_comm x y]
  exact Nat.mul_le_mul_left _ (Nat.mul_le_mul_left _ h1)
def sp_law_gcd (T : Txt K mg) : Sp := fun vs H Q _ => ∃ (a b : Int), vs = [.int a, .int b] ∧ a.natAbs < 2 ^ 1900 ∧ b.natAbs < 2 ^ 1900 ∧ Q (.int ((Nat.gcd a.natAbs b.natAbs : Nat) : Int)) H

theorem ok_law_gcd (T : Txt K mg) : FnOk P w K mg base CX0 1 T.a_law_gcd T.d_law_gcd ["a", "b"] (sp_law_gcd T) := by
  refine T.F_law_gcd.ok sc_law_gcd (fun vs H Q E h => ?_) (fun cdv A outer s H vs Q E hr h => ?_)
  · obtain ⟨a, b, rfl, _⟩ := h
    rfl
  obtain ⟨a, b, rfl, ha, hb, q⟩ := h
  refine ⟨_, (pss_cons (ps_set (i := 0) sc_law_gcd.nd rfl (by first | exact Or.inl rfl | exact Or.inr rfl) (pe_callB call_abs (by rfl) T.z_abs (by first | exact PySem.boot_abs | decide +kernel) (pa_cons (pv 0) pa_nil)))
      (pss_cons (ps_set (i := 1) sc_law_gcd.nd rfl (by first | exact Or.inl rfl | exact Or.inr rfl) (pe_callB call_abs (by rfl) T.z_abs (by first | exact PySem.boot_abs | decide +kernel) (pa_cons (pv 1) pa_nil)))
      (pss_cons (ps_for PassesOwn.never rfl (pi_range1 (by rfl) T.z_range (pa_cons pe_int pa_nil)) (pg_name (i := 2) sc_law_gcd.nd rfl (by first | exact Or.inl rfl | exact Or.inr rfl)) (pss_cons (ps_if (pt_cmpR op_eq (pv 1) pe_int (nomark _)) (pss_one (ps_ret (pv 0))) pss_nil)
      (pss_cons (ps_set (i := 3) sc_law_gcd.nd rfl (by first | exact Or.inl rfl | exact Or.inr rfl) (pe_op op_mod (pe_callTy call_int1 (by rfl) T.z_int (by first | exact PySem.boot_int | decide +kernel) (pa_cons (pv 0) pa_nil)) (pv 1)))
      (pss_cons (ps_set (i := 0) sc_law_gcd.nd rfl (by first | exact Or.inl rfl | exact Or.inr rfl) (pv 1))
      (pss_one (ps_set (i := 1) sc_law_gcd.nd rfl (by first | exact Or.inl rfl | exact Or.inr rfl) (pv 3)))))))
      (pss_one (ps_ret (pv 0)))))), ?_⟩
  have absn : ∀ z : Int, (if z < 0 then -z else z) = ((z.natAbs : Nat) : Int) := fun z => by split <;> omega
  refine ⟨_, rfl, a, rfl, _, rfl, b, rfl, ?_⟩
  rw [absn, absn]
  have hab : a.natAbs * b.natAbs < 2 ^ 3800 := by
    have e : (2 : Nat) ^ 3800 = 2 ^ 1900 * 2 ^ 1900 := by rw [← Nat.pow_add]
    rw [e]
    exact Nat.mul_lt_mul'' ha hb
  obtain ⟨N, hN, hab⟩ : ∃ N, N ≤ 3800 ∧ a.natAbs * b.natAbs < 2 ^ N := ⟨3800, Nat.le_refl _, hab⟩
  clear ha hb
  generalize eg : Nat.gcd a.natAbs b.natAbs = g at q
  refine ⟨4000, rfl, by decide, by decide, for_range (n := 4000) (fun i σ' H' => ∃ (x y : Nat) (yk yc : Option V), σ' = [some (.int (x : Int)), some (.int (y : Int)), yk, yc] ∧ H' = H ∧ Nat.gcd x y = g ∧ ((i = 0 ∧ x * y < 2 ^ N) ∨ ∃ j, i = j + 1 ∧ (y = 0 ∨ (y < x ∧ 2 ^ j * (x * y) < 2 ^ N))))
    ⟨a.natAbs, b.natAbs, none, none, rfl, rfl, eg, .inl ⟨rfl, hab⟩⟩ ?_ ?_⟩
  · rintro i σ1 H1 hi ⟨x, y, yk, yc, rfl, rfl, hg, hv⟩
    refine ⟨_, rfl, rfl, _, rfl, ite2 (fun c => ?_) (fun c => ?_)⟩
    · have c' : (y : Int) = 0 := V.int.inj (of_decide_eq_true c)
      have y0 : y = 0 := by omega
      subst y0
      rw [Nat.gcd_zero_right] at hg
      subst hg
      exact ⟨_, rfl, q⟩
    · have y0 : y ≠ 0 := fun z => c (by rw [z]; exact decide_eq_true rfl)
      have yp : 0 < y := Nat.pos_of_ne_zero y0
      refine ⟨_, rfl, .inl ⟨_, rfl, _, rfl, _, _, rfl, rfl, by show (0 : Int) < (y : Int); omega, _, rfl, _, rfl, ?_⟩⟩
      refine ⟨y, x % y, _, _, rfl, rfl, ?_, .inr ⟨i, rfl, ?_⟩⟩
      · rw [Nat.gcd_comm y, ← Nat.gcd_rec, Nat.gcd_comm]
        exact hg
      · rcases hv with ⟨rfl, h1⟩ | ⟨j, rfl, h1 | ⟨h1, h2⟩⟩
        · refine .inr ⟨Nat.mod_lt _ yp, Nat.lt_of_le_of_lt ?_ h1⟩
          rw [Nat.pow_zero, Nat.one_mul, Nat.mul_comm x y]
          exact Nat.mul_le_mul_left _ (Nat.mod_le _ _)
        · exact absurd h1 y0
        · rcases gcd_half yp h1 h2 with h3 | h3
          · exact .inl h3
          · exact .inr ⟨Nat.mod_lt _ yp, h3⟩
  · rintro σ1 H1 ⟨x, y, yk, yc, rfl, rfl, hg, hv⟩
    have y0 : y = 0 := by
      rcases hv with ⟨h, _⟩ | ⟨j, hj, h1 | ⟨h1, h2⟩⟩
      · cases h
      · exact h1
      · have h3 := gcd_pow h2 (by omega)
        rcases Nat.mul_eq_zero.mp h3 with h4 | h4
        · omega
        · exact h4
    subst y0
    rw [Nat.gcd_zero_right] at hg
    subst hg
    exact ⟨_, rfl, q⟩
/-! ### _law_is_ratio -/
def sp_law_is_ratio (T : Txt K mg) : Sp := fun vs H Q _ => ∃ (r : Addr) (p q n d : Int), vs = [.ref r, .int n, .int d] ∧ RatAt T.C_Ratio H r p q ∧ Rt p q n d ∧ d ≠ 0 ∧ n.natAbs < 2 ^ 1900 ∧ d.natAbs < 2 ^ 1900 ∧ Q (.bl true) H

theorem ok_law_is_ratio (T : Txt K mg) : FnOk P w K mg base CX0 2 T.a_law_is_ratio T.d_law_is_ratio ["actual", "num", "den"] (sp_law_is_ratio T) := by
  refine T.F_law_is_ratio.ok sc_law_is_ratio (fun vs H Q E h => ?_) (fun cdv A outer s H vs Q E hr h => ?_)
  · obtain ⟨r, p, q, n, d, rfl, _⟩ := h
    rfl
  obtain ⟨r, p, q, n, d, rfl, ⟨dx, er⟩, hR, hd, hn, hdb, k⟩ := h
  refine ⟨_, (pss_cons (ps_if (pt_not (pt_truth (pe_callB (C8.call_isC T.ic_Ratio) (by rfl) T.z_isinstance (by first | exact PySem.boot_isinstance | decide +kernel) (pa_cons (pv 0) (pa_cons (pe_glob (v := .ref T.C_Ratio) (by rfl) T.m_Ratio rfl) pa_nil))) (fun _ => rfl))) (pss_one (ps_ret pe_bl)) pss_nil)
      (pss_cons (ps_if (PW.pt (pw_or (pt_not (pt_truth (pe_call (ok_law_is_integer T) (hr.mono (by decide)) (by rfl) T.m_law_is_integer T.F_law_is_integer.kp T.b_law_is_integer .nil pass0 (pa_cons (pe_fld (pv 0) rfl) pa_nil)) (fun _ => rfl))) (pw_or1 (pt_not (pt_truth (pe_call (ok_law_is_integer T) (hr.mono (by decide)) (by rfl) T.m_law_is_integer T.F_law_is_integer.kp T.b_law_is_integer .nil pass0 (pa_cons (pe_fld (pv 0) rfl) pa_nil)) (fun _ => rfl)))))) (pss_one (ps_ret pe_bl)) pss_nil)
      (pss_cons (ps_set (i := 3) sc_law_is_ratio.nd rfl (by first | exact Or.inl rfl | exact Or.inr rfl) (pe_call (ok_law_gcd T) (hr.mono (by decide)) (by rfl) T.m_law_gcd T.F_law_gcd.kp T.b_law_gcd .nil pass0 (pa_cons (pv 1) (pa_cons (pv 2) pa_nil))))
      (C8.pss_cut (ps_if (pt_cmpR op_lt (pv 2) pe_int (nomark _)) (pss_one (ps_set (i := 3) sc_law_is_ratio.nd rfl (by first | exact Or.inl rfl | exact Or.inr rfl) (pe_un un_neg (pv 3)))) pss_nil)
      (pss_one (ps_ret (pe_and (pe_cmpR op_eq (pe_fld (pv 0) rfl) (pe_op op_fdivX (pv 1) (pv 3)) (nomark _)) (pe_one (pe_cmpR op_eq (pe_fld (pv 0) rfl) (pe_op op_fdivX (pv 2) (pv 3)) (nomark _)))))))))), ?_⟩
  obtain ⟨m1, _, _⟩ := rt_made (n := n) hd
  obtain ⟨ep, eq⟩ := rt_uniq hR m1 hd hd rfl
  have hf := fac_ne (n := n) hd
  have hg : (fac n d).natAbs < 2 ^ 1900 := by
    rw [fac_abs]
    exact Nat.lt_of_le_of_lt (Nat.le_of_dvd (Int.natAbs_pos.mpr hd) (Nat.gcd_dvd_right _ _)) hdb
  have hl := log_lt hg (by decide) (by decide)
  refine ⟨_, rfl, r, dx, _, rfl, er, true, rfl, ?_⟩
  refine ⟨_, rfl, r, T.C_Ratio, dx, _, _, rfl, er, T.cl_Ratio, T.n_Ratio_num, pf_num _ _, p, rfl, true, rfl, ?_⟩
  refine ⟨_, rfl, r, T.C_Ratio, dx, _, _, rfl, er, T.cl_Ratio, T.n_Ratio_den, pf_den _ _, q, rfl, true, rfl, ?_⟩
  refine ⟨_, rfl, _, rfl, n, d, rfl, hn, hdb, ?_⟩
  refine ⟨fun σ' H' => σ' = [some (.ref r), some (.int n), some (.int d), some (.int (fac n d))] ∧ H' = H, ?_, ?_⟩
  · refine ⟨_, rfl, _, _, rfl, rfl, _, rfl, ite2 (fun c => ?_) (fun c => ?_)⟩
    · have c' : d < 0 := of_decide_eq_true c
      refine ⟨_, rfl, _, rfl, ?_, rfl⟩
      unfold fac
      rw [if_pos c']
      rfl
    · have c' : ¬ d < 0 := fun z => c (decide_eq_true z)
      refine ⟨?_, rfl⟩
      unfold fac
      rw [if_neg c']
      rfl
  rintro σ1 H1 ⟨rfl, rfl⟩
  refine ⟨_, rfl, r, T.C_Ratio, dx, _, _, rfl, er, T.cl_Ratio, T.n_Ratio_num, pf_num _ _, _, rfl, _, rfl, _, _, rfl, rfl, ⟨hf, hl⟩, rfl, _, rfl, ?_⟩
  show if decide (V.int p = V.int (n.fdiv (fac n d))) = true then _ else _
  rw [← ep, decide_eq_true rfl]
  refine ⟨_, rfl, r, T.C_Ratio, dx, _, _, rfl, er, T.cl_Ratio, T.n_Ratio_den, pf_den _ _, _, rfl, _, rfl, _, _, rfl, rfl, ⟨hf, hl⟩, rfl, ?_⟩
  show Q (.bl (decide (V.int q = V.int (d.fdiv (fac n d))))) _
  rw [← eq, decide_eq_true rfl]
  exact k
/-! ### law -/
def sp_law (T : Txt K mg) : Sp := spLaw K

theorem ok_law (T : Txt K mg) : FnOk P w K mg base CX0 9 T.a_law T.d_law ["script"] (sp_law T) := by
  refine T.F_law.ok sc_law (fun vs H Q E h => ?_) (fun cdv A outer s H vs Q E hr h => ?_)
  · obtain ⟨a, ns, rfl, _⟩ := h
    rfl
  obtain ⟨s0, ns, rfl, hS, h63, q⟩ := h
  refine ⟨_, (pss_cons (ps_set (i := 1) sc_law.nd rfl (by first | exact Or.inl rfl | exact Or.inr rfl) (pe_lst pa_nil))
      (pss_cons (ps_for PassesOwn.never rfl (pi_list (pe_slice sl_list (pv 0) po_none (po_some pe_int))) (pg_name (i := 2) sc_law.nd rfl (by first | exact Or.inl rfl | exact Or.inr rfl)) (pss_cons (ps_set (i := 3) sc_law.nd rfl (by first | exact Or.inl rfl | exact Or.inr rfl) (pe_op op_add pe_int (pe_op op_mod (pe_callTy call_int1 (by rfl) T.z_int (by first | exact PySem.boot_int | decide +kernel) (pa_cons (pv 2) pa_nil)) pe_int)))
      (C8.pss_cut (ps_if (pt_cmpR op_eq (pe_op op_mod (pe_callTy call_int1 (by rfl) T.z_int (by first | exact PySem.boot_int | decide +kernel) (pa_cons (pv 2) pa_nil)) pe_int) pe_int (nomark _)) (pss_one (ps_set (i := 3) sc_law.nd rfl (by first | exact Or.inl rfl | exact Or.inr rfl) (pe_op op_add pe_int (pe_op op_mod (pe_callTy call_int1 (by rfl) T.z_int (by first | exact PySem.boot_int | decide +kernel) (pa_cons (pv 2) pa_nil)) (pe_op op_pow pe_int pe_int))))) pss_nil)
      (pss_one (ps_expr (pe_bm PySem.F.plainAttrs_list PySem.F.slot_list_append PySem.F.type_list_append mt_append (pv 1) (pa_cons (pe_tup (pa_cons (pe_op op_sub (pe_op op_mod (pe_op op_fdiv (pv 2) pe_int) pe_int) pe_int) (pa_cons (pv 3) pa_nil))) pa_nil)))))))
      (pss_cons (ps_setLc (i := 4) (own := [("term", 8)]) (g := gName 8) (tt := tYes) rfl sc_law.nd rfl rfl (sw_true rfl rfl rfl (by decide +kernel)) (pi_list (pv 1)) (blkOk_by (N := N_law) (sc := defScope s_law) (by decide +kernel)) (fun _ _ _ _ _ => (pg_name (i := 8) sc_law.nd rfl (by first | exact Or.inl rfl | exact Or.inr rfl))) (fun _ _ _ _ _ => pts_nil) (fun _ _ _ _ _ => (pe_make T.mk_Ratio (ok_Ratio_init T) (hr.mono (by decide)) (by rfl) T.m_Ratio T.b_Ratio_init .nil pass0 (pa_cons (pe_ix (show IxR _ (rIxT K) from ix_tup) (pv 8) pe_int (fun _ _ => rfl)) (pa_cons (pe_ix (show IxR _ (rIxT K) from ix_tup) (pv 8) pe_int (fun _ _ => rfl)) pa_nil)))))
      (pss_cons (ps_set (i := 5) sc_law.nd rfl (by first | exact Or.inl rfl | exact Or.inr rfl) (pe_call (ok_common T) (hr.mono (by decide)) (by rfl) T.m_common T.F_common.kp T.b_common .nil pass0 (pa_cons (pv 4) pa_nil)))
      (pss_cons (ps_if (PW.pt (pw_or (pt_not (pt_truth (pe_callB call_isi (by rfl) T.z_isinstance (by first | exact PySem.boot_isinstance | decide +kernel) (pa_cons (pv 5) (pa_cons (pe_bltn (v := .ty "tuple") (by rfl) T.z_tuple (by decide +kernel) rfl) pa_nil))) (fun _ => rfl))) (pw_or (pt_cmpR op_ne (pe_callB call_len_seq (by rfl) T.z_len (by first | exact PySem.boot_len | decide +kernel) (pa_cons (pv 5) pa_nil)) pe_int (nomark _)) (pw_or1 (pt_not (pt_truth (pe_callB call_isi (by rfl) T.z_isinstance (by first | exact PySem.boot_isinstance | decide +kernel) (pa_cons (pe_ix ix_tup (pv 5) pe_int (fun _ _ => rfl)) (pa_cons (pe_bltn (v := .ty "list") (by rfl) T.z_list (by decide +kernel) rfl) pa_nil))) (fun _ => rfl))))))) (pss_one (ps_ret pe_bl)) pss_nil)
      (pss_cons (ps_if (PW.pt (pw_or (pt_not (pt_truth (pe_call (ok_law_is_integer T) (hr.mono (by decide)) (by rfl) T.m_law_is_integer T.F_law_is_integer.kp T.b_law_is_integer .nil pass0 (pa_cons (pe_ix ix_tup (pv 5) pe_int (fun _ _ => rfl)) pa_nil)) (fun _ => rfl))) (pw_or (pt_cmpR op_lt (pe_ix ix_tup (pv 5) pe_int (fun _ _ => rfl)) pe_int (nomark _)) (pw_or1 (pt_cmpR op_ne (pe_callB call_len_seq (by rfl) T.z_len (by first | exact PySem.boot_len | decide +kernel) (pa_cons (pe_ix ix_tup (pv 5) pe_int (fun _ _ => rfl)) pa_nil)) (pe_callB call_len_seq (by rfl) T.z_len (by first | exact PySem.boot_len | decide +kernel) (pa_cons (pv 1) pa_nil)) (nomark _)))))) (pss_one (ps_ret pe_bl)) pss_nil)
      (pss_cons (ps_set (i := 6) sc_law.nd rfl (by first | exact Or.inl rfl | exact Or.inr rfl) (pe_ix ix_tup (pv 5) pe_int (fun _ _ => rfl)))
      (pss_cons (ps_for PassesOwn.never rfl (pi_range1 (by rfl) T.z_range (pa_cons (pe_callB call_len_seq (by rfl) T.z_len (by first | exact PySem.boot_len | decide +kernel) (pa_cons (pv 1) pa_nil)) pa_nil)) (pg_name (i := 7) sc_law.nd rfl (by first | exact Or.inl rfl | exact Or.inr rfl)) (pss_cons (ps_if (pt_not (pt_truth (pe_call (ok_law_is_integer T) (hr.mono (by decide)) (by rfl) T.m_law_is_integer T.F_law_is_integer.kp T.b_law_is_integer .nil pass0 (pa_cons (pe_ix ix_list (pe_ix ix_tup (pv 5) pe_int (fun _ _ => rfl)) (pv 7) (fun _ _ => rfl)) pa_nil)) (fun _ => rfl))) (pss_one (ps_ret pe_bl)) pss_nil)
      (pss_cons (ps_if (pt_cmpR op_ne (pe_op op_mulW (pe_ix ix_list (pe_ix ix_tup (pv 5) pe_int (fun _ _ => rfl)) (pv 7) (fun _ _ => rfl)) (pe_ix ix_tup (pe_ix ix_list (pv 1) (pv 7) (fun _ _ => rfl)) pe_int (fun _ _ => rfl))) (pe_op op_mulW (pe_ix ix_tup (pe_ix ix_list (pv 1) (pv 7) (fun _ _ => rfl)) pe_int (fun _ _ => rfl)) (pe_ix ix_tup (pv 5) pe_int (fun _ _ => rfl))) (nomark _)) (pss_one (ps_ret pe_bl)) pss_nil)
      (pss_one (ps_set (i := 6) sc_law.nd rfl (by first | exact Or.inl rfl | exact Or.inr rfl) (pe_call (ok_law_gcd T) (hr.mono (by decide)) (by rfl) T.m_law_gcd T.F_law_gcd.kp T.b_law_gcd .nil pass0 (pa_cons (pv 6) (pa_cons (pe_ix ix_list (pe_ix ix_tup (pv 5) pe_int (fun _ _ => rfl)) (pv 7) (fun _ _ => rfl)) pa_nil))))))))
      (pss_cons (ps_if (PW.pt (pw_or (pt_cmpR op_ne (pv 6) pe_int (nomark _)) (pw_or1 (pt_cmpR op_ne (pe_callB call_len_seq (by rfl) T.z_len (by first | exact PySem.boot_len | decide +kernel) (pa_cons (pv 4) pa_nil)) (pe_callB call_len_seq (by rfl) T.z_len (by first | exact PySem.boot_len | decide +kernel) (pa_cons (pv 1) pa_nil)) (nomark _))))) (pss_one (ps_ret pe_bl)) pss_nil)
      (pss_cons (ps_for PassesOwn.never rfl (pi_range1 (by rfl) T.z_range (pa_cons (pe_callB call_len_seq (by rfl) T.z_len (by first | exact PySem.boot_len | decide +kernel) (pa_cons (pv 1) pa_nil)) pa_nil)) (pg_name (i := 7) sc_law.nd rfl (by first | exact Or.inl rfl | exact Or.inr rfl)) (pss_one (ps_if (pt_not (pt_truth (pe_call (ok_law_is_ratio T) (hr.mono (by decide)) (by rfl) T.m_law_is_ratio T.F_law_is_ratio.kp T.b_law_is_ratio .nil pass0 (pa_cons (pe_ix ix_list (pv 4) (pv 7) (fun _ _ => rfl)) (pa_cons (pe_ix ix_tup (pe_ix ix_list (pv 1) (pv 7) (fun _ _ => rfl)) pe_int (fun _ _ => rfl)) (pa_cons (pe_ix ix_tup (pe_ix ix_list (pv 1) (pv 7) (fun _ _ => rfl)) pe_int (fun _ _ => rfl)) pa_nil)))) (fun _ => rfl))) (pss_one (ps_ret pe_bl)) pss_nil)))
      (pss_one (ps_ret pe_bl)))))))))))), ?_⟩
  refine ⟨by show 0 ≤ sizeLine; decide, fun tl htl => ?_⟩
  generalize eH1 : upd H tl _ = H1
  have s1 : Same H H1 := eH1 ▸ same_upd htl
  have t1 : H1 tl = some (.lst []) := eH1 ▸ upd_same
  clear eH1
  refine ⟨_, rfl, 10, rfl, s0, _, rfl, s1.seq hS, fun p hp => ?_⟩
  rw [cut_to' (ns.map V.int) 10 (by decide)]
  generalize eH2 : upd H1 p _ = H2
  have s2 : Same H1 H2 := eH2 ▸ same_upd hp
  have e2 : H2 p = some (.lst ((ns.take 10).map V.int)) := by
    rw [List.map_take]
    exact eH2 ▸ upd_same
  clear eH2
  have t2 := s2 _ _ t1
  have S2 := s1.trans s2
  have np : p ≠ tl := fun z => by rw [z, t1] at hp; cases hp
  -- the terms
  refine ⟨p, rfl, ⟨_, SqL.of e2⟩, for_list (K := K) (a := p) (xs := (ns.take 10).map V.int) (fun i σ' H' => ∃ y2 y3 y4 y5 y6 y7 y8 vs, σ' = [some (.ref s0), some (.ref tl), y2, y3, y4, y5, y6, y7, y8] ∧ (∀ b o, b ≠ tl → H2 b = some o → H' b = some o) ∧ H' tl = some (.lst vs) ∧ Paired (TupV H') vs (((ns.take 10).map lawTerm).take i)) ⟨_, _, _, _, _, _, _, [], rfl, fun _ _ _ h => h, t2, .nil⟩ ?_ ?_ ?_⟩
  · rintro i σ' H' _ ⟨y2, y3, y4, y5, y6, y7, y8, vs, rfl, k, _, _⟩
    exact SqL.of (k _ _ np e2)
  · rintro i x σ' H' hi ⟨y2, y3, y4, y5, y6, y7, y8, vs, rfl, k, ht, hv⟩
    obtain ⟨c, hc, rfl⟩ := int_of_map hi
    have ec : ((ns.take 10).map lawTerm)[i]? = some (lawTerm c) := by rw [List.getElem?_map, hc]; rfl
    refine ⟨_, rfl, .inl ⟨_, rfl, _, _, rfl, rfl, by show (0 : Int) < 60; decide, _, _, rfl, rfl, ?_⟩⟩
    let Mid : L2.St → Hp → Prop := fun σ2 H'' => σ2 = [some (.ref s0), some (.ref tl), some (.int c), some (.int (lawTerm c).2), y4, y5, y6, y7, y8] ∧ H'' = H'
    refine ⟨Mid, ?_, ?_⟩
    · refine ⟨_, rfl, .inl ⟨_, rfl, _, _, rfl, rfl, by show (0 : Int) < 11; decide, rfl, _, rfl, ite2 (fun e => ?_) (fun e => ?_)⟩⟩
      · have e' : c % 11 = 3 := V.int.inj (of_decide_eq_true e)
        refine ⟨_, rfl, .inl ⟨_, rfl, _, _, rfl, rfl, ⟨by decide, by decide, by decide⟩, _, _, rfl, rfl, by show (0 : Int) < 10 ^ 20; decide, _, _, rfl, rfl, ?_, rfl⟩⟩
        unfold lawTerm
        rw [if_pos e']
        rfl
      · have e' : ¬ c % 11 = 3 := fun z => e (decide_eq_true (congrArg V.int z))
        refine ⟨?_, rfl⟩
        unfold lawTerm
        rw [if_neg e']
        rfl
    rintro σ2 H'' ⟨rfl, rfl⟩
    refine ⟨_, rfl, .inl ⟨rfl, _, SqL.of ht⟩, _, rfl, _, _, rfl, rfl, ⟨by decide, by decide⟩, _, _, rfl, rfl, by show (0 : Int) < 201; decide, _, _, rfl, rfl, _, rfl, by show 2 ≤ sizeLine; decide, fun t ht2 => ?_⟩
    have sT := same_upd (o := .tup [.int (c / 60 % 201 - 100), .int (lawTerm c).2]) ht2
    have nt : tl ≠ t := fun z => by rw [← z, ht] at ht2; cases ht2
    have hl : vs.length ≤ 63 := by
      rw [Paired.length hv, List.length_take, List.length_map, List.length_take]
      omega
    refine ⟨tl, _, _, rfl, rfl, sT _ _ ht, small1000 (by omega), ?_⟩
    refine ⟨_, _, _, _, _, _, _, vs ++ [.ref t], rfl, fun b o n e => ?_, upd_same, ?_⟩
    · rw [upd_ne n]
      exact sT _ _ (k b o n e)
    · have kT : KeepT H'' (upd (upd H'' t (.tup [.int (c / 60 % 201 - 100), .int (lawTerm c).2])) tl (.lst (vs ++ [.ref t]))) := (keepT_of sT).trans (keepT_lst (sT _ _ ht))
      refine paired_snoc_take (Paired.mono (fun a b h => TupV.keep kT h) hv) ec ⟨t, rfl, ?_⟩
      rw [upd_ne (Ne.symm nt), upd_same]
      rfl
  rintro σ' H3 ⟨y2, y3, y4, y5, y6, y7, y8, vs, rfl, k3, t3, hv⟩
  rw [List.length_map, ← List.length_map (f := lawTerm), List.take_length] at hv
  have S3 : Same H H3 := fun b o e => by
    have n : b ≠ tl := ne_of_none e htl
    exact k3 b o n (S2 b o e)
  obtain ⟨ts, ets⟩ : ∃ ts, ts = (ns.take 10).map lawTerm := ⟨_, rfl⟩
  rw [← ets] at hv
  have tsok : ∀ t ∈ ts, 0 < t.2 ∧ t.2.natAbs < 2 ^ 67 ∧ t.1.natAbs < 2 ^ 7 := fun t h => by
    rw [ets] at h
    obtain ⟨c, _, rfl⟩ := List.mem_map.mp h
    exact lawTerm_ok c
  have tslen : ts.length ≤ 10 := by rw [ets, List.length_map, List.length_take]; omega
  clear ets k3
  have vlen := Paired.length hv
  -- the ratios
  refine ⟨_, rfl, tl, rfl, ⟨_, SqL.of t3⟩, fun D hD => ?_⟩
  refine lc_list (a := tl) (xs := vs) (fun i H4 => Same H3 H4 ∧ ∃ rs, H4 D = some (.lst rs) ∧ Paired (RatT T.C_Ratio H4) rs (ts.take i)) ⟨same_upd hD, [], upd_same, .nil⟩ (fun i H4 _ h => h.1.seq (SqL.of t3)) (fun i x H4 hx h => ?_) (fun H4 h => ?_)
  · obtain ⟨t, et, a, rfl, ha⟩ := pget hv hx
    obtain ⟨s4, rs, d4, hr4⟩ := h
    obtain ⟨tp, tq, tn⟩ := tsok t (List.mem_of_getElem? et)
    refine ⟨rfl, ?_⟩
    refine ⟨_, rfl, a, _, _, _, rfl, rfl, SqT.of (s4 _ _ ha), atI_nat (j := 0) rfl, _, rfl, a, _, _, _, rfl, rfl, SqT.of (s4 _ _ ha), atI_nat (j := 1) rfl, ?_⟩
    refine make_ratio T (n := t.1) (d := t.2) (by omega) (lt_of tq (by decide)) fun r p' q' H5 s5 nr R5 rt b1 b2 => ?_
    have d5 := s5 _ _ d4
    have hl : rs.length ≤ 63 := by
      rw [Paired.length hr4, List.length_take]
      omega
    refine ⟨_, d5, small1000 (by omega), fun b o e => ?_, rs ++ [.ref r], upd_same, ?_⟩
    · rw [upd_ne (ne_of_none e hD)]
      exact s5 _ _ (s4 b o e)
    · have kI := keepI_lst (ys := rs ++ [V.ref r]) d5
      exact paired_snoc_take (Paired.mono (fun a b h => RatT.keep ((keepI_of s5).trans kI) h) hr4) et (RatT.keep kI ⟨r, p', q', rfl, R5, rt, b1, b2⟩)
  obtain ⟨s4, rs, d4, hr4⟩ := h
  rw [vlen, List.take_length] at hr4
  obtain ⟨zs, hz1, hz2⟩ := ratZ_of hr4
  have S4 := S3.trans s4
  have t4 := s4 _ _ t3
  have hv4 := Paired.mono (fun a b h => TupV.keep (keepT_of s4) h) hv
  have zlen := Paired.length hz2
  have rlen := Paired.length hr4
  have zok : ∀ z ∈ zs, 0 < z.2 ∧ z.2.natAbs < 2 ^ 67 ∧ z.1.natAbs < 2 ^ 7 ∧ Nat.gcd z.1.natAbs z.2.natAbs = 1 := fun z hz => by
    obtain ⟨i, hi⟩ := List.mem_iff_getElem?.mp hz
    obtain ⟨t, ht, ⟨r1, r2, r3⟩⟩ := pget hz2 hi
    obtain ⟨a1, a2, a3⟩ := tsok t (List.mem_of_getElem? ht)
    exact ⟨r1.1, Nat.lt_of_le_of_lt r3 a2, Nat.lt_of_le_of_lt r2 a3, r1.2.1⟩
  have Wlt : lcmL zs < 2 ^ 700 := by
    have h1 := lcmL_le zs 1 67 fun z h => (zok z h).2.1
    have h2 : (2 : Nat) ^ (67 * zs.length) ≤ 2 ^ 670 := Nat.pow_le_pow_right (by decide) (by omega)
    have h3 : (2 : Nat) ^ 670 < 2 ^ 700 := Nat.pow_lt_pow_right (by decide) (by decide)
    unfold lcmL
    omega
  have pos : 0 < lcmL zs := fold_pos zs 1 (by decide) fun z h => (zok z h).1
  have ovb : ∀ z ∈ zs, (overL zs z).natAbs < 2 ^ 707 := fun z hz => by
    obtain ⟨m, e1, e2⟩ := part_of hz (zok z hz).1
    rw [e2]
    refine wide_lt (a := 7) (b := 700) (zok z hz).2.2.1 (Nat.lt_of_le_of_lt ?_ Wlt)
    have := congrArg Int.natAbs e1
    rw [Int.natAbs_mul, Int.natAbs_natCast] at this
    rw [this]
    exact Nat.le_mul_of_pos_right _ (by have := (zok z hz).1; omega)
  -- common(ratios)
  refine ⟨_, rfl, D, rs, zs, rfl, SqL.of d4, hz1, fun z h => ⟨(zok z h).1, lt_of (zok z h).2.2.1 (by decide)⟩, Nat.lt_trans Wlt (Nat.pow_lt_pow_right (by decide) (by decide)), by omega, fun r l H5 s5 l5 r5 => ?_⟩
  have S5 := S4.trans s5
  have t5 := s5 _ _ t4
  have d5 := s5 _ _ d4
  have hv5 := Paired.mono (fun a b h => TupV.keep (keepT_of s5) h) hv4
  have hr5 := Paired.mono (fun a b h => RatT.keep (keepI_of s5) h) hr4
  clear hv4 hr4 hz1 t4 d4 S4 s4 hv t3 S3
  generalize eos : (zs.map fun z => V.int (overL zs z)) = os at l5
  have olen : os.length = zs.length := by rw [← eos, List.length_map]
  have oget : ∀ {i : Nat} {z : Int × Int}, zs[i]? = some z → os[i]? = some (V.int (overL zs z)) := fun {i z} h => by
    rw [← eos, List.getElem?_map, h]
    rfl
  generalize eW : ((lcmL zs : Nat) : Int) = W at r5
  have W1 : 1 ≤ W := by omega
  have Wb : W.natAbs < 2 ^ 700 := by rw [← eW, Int.natAbs_natCast]; exact Wlt
  have ixW : atI [V.ref l, V.int W] 1 = some (V.int W) := atI_nat (j := 1) rfl
  have ixL : atI [V.ref l, V.int W] 0 = some (V.ref l) := atI_nat (j := 0) rfl
  refine ⟨_, rfl, .ref r, .ty "tuple", .type "tuple", .type "tuple", true, rfl, .ty _, .base (.tup r5), kit_ty (by decide +kernel), true, rfl, ?_⟩
  refine ⟨_, rfl, r, _, rfl, .inr (SqT.of r5), rfl, _, rfl, iteNS rfl ?_⟩
  refine ⟨_, rfl, r, _, _, _, rfl, rfl, SqT.of r5, ixL, .ref l, .ty "list", .type "list", .type "list", true, rfl, .ty _, .base (.lst l5), kit_ty (by decide +kernel), true, rfl, ?_⟩
  refine ⟨_, rfl, r, _, _, _, rfl, rfl, SqT.of r5, ixW, W, rfl, true, rfl, ?_⟩
  refine ⟨_, rfl, r, _, _, _, rfl, rfl, SqT.of r5, ixW, _, _, rfl, rfl, _, rfl, ite2 (fun e => absurd (of_decide_eq_true e : W < 1) (by omega)) (fun _ => ?_)⟩
  refine ⟨_, rfl, r, _, _, _, rfl, rfl, SqT.of r5, ixL, l, _, rfl, .inl (SqL.of l5), _, rfl, tl, _, rfl, .inl (SqL.of t5), rfl, _, rfl, iteNS (by rw [olen, zlen, vlen]) ?_⟩
  -- no common divisor
  refine ⟨_, rfl, r, _, _, _, rfl, rfl, SqT.of r5, ixW, ?_⟩
  refine ⟨_, rfl, tl, _, rfl, .inl (SqL.of t5), _, rfl, by omega, by omega, ?_⟩
  refine for_range (fun i σ' H' => ∃ (y : Option V) (g : Nat), σ' = [some (.ref s0), some (.ref tl), y2, y3, some (.ref D), some (.ref r), some (.int (g : Int)), y, y8] ∧ H' = H5 ∧ g ∣ lcmL zs ∧ ∀ z ∈ zs.take i, (g : Int) ∣ overL zs z) ⟨y7, lcmL zs, by rw [← eW]; rfl, rfl, Nat.dvd_refl _, fun z h => by rw [List.take_zero] at h; cases h⟩ ?_ ?_
  · rintro i σ' H' hi ⟨y, g, rfl, rfl, g1, g2⟩
    have ik : (0 : Int) + (i : Int) = (i : Int) := Int.zero_add _
    rw [ik]
    have hi' : i < zs.length := by rw [zlen, ← vlen]; omega
    obtain ⟨z, ez⟩ : ∃ z, zs[i]? = some z := ⟨zs[i], List.getElem?_eq_getElem hi'⟩
    have mz := List.mem_of_getElem? ez
    obtain ⟨t, et, rt, _, _⟩ := pget hz2 ez
    obtain ⟨va, eva, a, rfl, ha⟩ := pget' hv5 et
    obtain ⟨tp, tq, tn⟩ := tsok t (List.mem_of_getElem? et)
    have io : atI os (i : Int) = some (V.int (overL zs z)) := atI_nat (oget ez)
    have it : atI vs (i : Int) = some (V.ref a) := atI_nat eva
    have i0 : atI [V.int t.1, V.int t.2] 0 = some (V.int t.1) := atI_nat (j := 0) rfl
    have i1 : atI [V.int t.1, V.int t.2] 1 = some (V.int t.2) := atI_nat (j := 1) rfl
    obtain ⟨m, m1, m2⟩ := part_of mz (zok z mz).1
    refine ⟨_, rfl, r, _, _, _, rfl, rfl, SqT.of r5, ixL, _, rfl, l, _, _, _, rfl, rfl, SqL.of l5, io, overL zs z, rfl, true, rfl, ?_⟩
    refine ⟨_, rfl, r, _, _, _, rfl, rfl, SqT.of r5, ixL, _, rfl, l, _, _, _, rfl, rfl, SqL.of l5, io, _, rfl, _, rfl, tl, _, _, _, rfl, rfl, SqL.of t5, it, a, _, _, _, rfl, rfl, SqT.of ha, i1, _, _, rfl, rfl, wide_mul (ovb z mz) tq (by decide) (by decide) (by decide), ?_⟩
    refine ⟨_, rfl, _, rfl, tl, _, _, _, rfl, rfl, SqL.of t5, it, a, _, _, _, rfl, rfl, SqT.of ha, i0, _, rfl, r, _, _, _, rfl, rfl, SqT.of r5, ixW, _, _, rfl, rfl, wide_mul tn Wb (by decide) (by decide) (by decide), rfl, _, rfl, iteNS ?_ ?_⟩
    · have e3 := rt.2.2
      have e4 : z.1 * m * t.2 = t.1 * (m * z.2) := by rw [Int.mul_right_comm, e3, Int.mul_assoc, Int.mul_comm z.2 m]
      rw [← eW, m2, m1]
      exact congrArg V.int e4
    · refine ⟨_, rfl, _, rfl, r, _, _, _, rfl, rfl, SqT.of r5, ixL, _, rfl, l, _, _, _, rfl, rfl, SqL.of l5, io, (g : Int), overL zs z, rfl, ?_, lt_of (ovb z mz) (by decide), ?_⟩
      · rw [Int.natAbs_natCast]
        exact Nat.lt_of_le_of_lt (Nat.le_of_dvd pos g1) (Nat.lt_trans Wlt (Nat.pow_lt_pow_right (by decide) (by decide)))
      · refine ⟨some (.int (i : Int)), Nat.gcd g (overL zs z).natAbs, by rw [Int.natAbs_natCast]; rfl, rfl, Nat.dvd_trans (Nat.gcd_dvd_left _ _) g1, fun z' hz' => ?_⟩
        rw [List.take_add_one, ez] at hz'
        rcases List.mem_append.mp hz' with h | h
        · exact Int.dvd_trans (Int.natCast_dvd_natCast.mpr (Nat.gcd_dvd_left _ _)) (g2 z' h)
        · obtain rfl := List.mem_singleton.mp h
          exact Int.ofNat_dvd_left.mpr (Nat.gcd_dvd_right _ _)
  rintro σ' H' ⟨y, g, rfl, rfl, g1, g2⟩
  rw [show ((vs.length : Nat) : Int).toNat = zs.length by rw [zlen, ← vlen]; omega, List.take_length] at g2
  have gone := common_one (fun z h => ⟨(zok z h).1, (zok z h).2.2.2⟩) g1 g2
  subst gone
  refine ⟨_, rfl, rfl, _, rfl, iteNS rfl ?_⟩
  refine ⟨_, rfl, D, _, rfl, .inl (SqL.of d5), _, rfl, tl, _, rfl, .inl (SqL.of t5), rfl, _, rfl, iteNS (by rw [rlen, vlen]) ?_⟩
  refine ⟨_, rfl, tl, _, rfl, .inl (SqL.of t5), _, rfl, by omega, by omega, ?_⟩
  refine for_range (fun i σ'' H'' => ∃ y, σ'' = [some (.ref s0), some (.ref tl), y2, y3, some (.ref D), some (.ref r), some (.int 1), y, y8] ∧ H'' = H') ⟨_, rfl, rfl⟩ ?_ ?_
  · rintro i σ'' H'' hi ⟨y', rfl, rfl⟩
    have ik : (0 : Int) + (i : Int) = (i : Int) := Int.zero_add _
    rw [ik]
    have hi' : i < ts.length := by rw [← vlen]; omega
    obtain ⟨t, et⟩ : ∃ t, ts[i]? = some t := ⟨ts[i], List.getElem?_eq_getElem hi'⟩
    obtain ⟨va, eva, a, rfl, ha⟩ := pget' hv5 et
    obtain ⟨ra, era, b, p', q', rfl, Rb, rt, _, _⟩ := pget' hr5 et
    obtain ⟨tp, tq, tn⟩ := tsok t (List.mem_of_getElem? et)
    have it : atI vs (i : Int) = some (V.ref a) := atI_nat eva
    have ir : atI rs (i : Int) = some (V.ref b) := atI_nat era
    have i0 : atI [V.int t.1, V.int t.2] 0 = some (V.int t.1) := atI_nat (j := 0) rfl
    have i1 : atI [V.int t.1, V.int t.2] 1 = some (V.int t.2) := atI_nat (j := 1) rfl
    refine ⟨_, rfl, _, rfl, D, _, _, _, rfl, rfl, SqL.of d5, ir, _, rfl, _, rfl, tl, _, _, _, rfl, rfl, SqL.of t5, it, a, _, _, _, rfl, rfl, SqT.of ha, i0, _, rfl, _, rfl, tl, _, _, _, rfl, rfl, SqL.of t5, it, a, _, _, _, rfl, rfl, SqT.of ha, i1, ?_⟩
    refine ⟨b, p', q', t.1, t.2, rfl, Rb, rt, by omega, lt_of tn (by decide), lt_of tq (by decide), true, rfl, ?_⟩
    exact ⟨_, rfl, rfl⟩
  rintro σ'' H'' ⟨y', rfl, rfl⟩
  exact q _
end
/-! ### what the top has written -/
theorem all_mk {l : PySem.W.OpenLaw} {w : World} {K : PySem.W.Frag} {h : Heap} {mg : Str → Option Value} {fa : Addr} (X : K.In h) (G : h.Ns mainGlobals mg) (hfa : mg "law" = some (.ref fa))
    {C_Ratio : Addr}
    {f1 : Addr} {od1 an1 : Option Addr} {sl1 : Array (Option Value)} {oc1 kV1 dc1 pm1 cd1 ct1 : Value}
    {Tt1 : Addr} {tc1 : Value} {td1 : Option Addr} {tn1 : Nat} {tl1 : Array (Option Value)} {tk1 : Tok}
    {f2 : Addr} {od2 an2 : Option Addr} {sl2 : Array (Option Value)} {oc2 kV2 dc2 pm2 cd2 ct2 : Value}
    {f3 : Addr} {od3 an3 : Option Addr} {sl3 : Array (Option Value)} {oc3 kV3 dc3 pm3 cd3 ct3 : Value}
    {f4 : Addr} {od4 an4 : Option Addr} {sl4 : Array (Option Value)} {oc4 kV4 dc4 pm4 cd4 ct4 : Value}
    {f5 : Addr} {od5 an5 : Option Addr} {sl5 : Array (Option Value)} {oc5 kV5 dc5 pm5 cd5 ct5 : Value}
    {f6 : Addr} {od6 an6 : Option Addr} {sl6 : Array (Option Value)} {oc6 kV6 dc6 pm6 cd6 ct6 : Value}
    {f7 : Addr} {od7 an7 : Option Addr} {sl7 : Array (Option Value)} {oc7 kV7 dc7 pm7 cd7 ct7 : Value}
    {f8 : Addr} {od8 an8 : Option Addr} {sl8 : Array (Option Value)} {oc8 kV8 dc8 pm8 cd8 ct8 : Value}
    {f9 : Addr} {od9 an9 : Option Addr} {sl9 : Array (Option Value)} {oc9 kV9 dc9 pm9 cd9 ct9 : Value}
    {f10 : Addr} {od10 an10 : Option Addr} {sl10 : Array (Option Value)} {oc10 kV10 dc10 pm10 cd10 ct10 : Value}
    {f11 : Addr} {od11 an11 : Option Addr} {sl11 : Array (Option Value)} {oc11 kV11 dc11 pm11 cd11 ct11 : Value}
    {f12 : Addr} {od12 an12 : Option Addr} {sl12 : Array (Option Value)} {oc12 kV12 dc12 pm12 cd12 ct12 : Value}
    (ac_Ratio : PySem.W.nsIn K mainGlobals "Ratio" = some (some (.ref C_Ratio)))
    (pg_Ratio : PySem.W.plainGet K C_Ratio Str.empty = true)
    (hd_Ratio : PySem.W.hasDictIn K C_Ratio = true)
    (po_Ratio : PySem.W.plainOver K C_Ratio = true)
    (sa_Ratio : PySem.W.findIn K (.ref C_Ratio) "__setattr__" = some (some (.builtin "object.__setattr__")))
    (mkc_Ratio : PySem.W.makesIn K C_Ratio = true)
    (kpc_Ratio : PySem.W.keepIn K (.ref C_Ratio) = true)
    (na_Ratio_num : PySem.W.findIn K (.ref C_Ratio) "num" = some none)
    (na_Ratio_den : PySem.W.findIn K (.ref C_Ratio) "den" = some none)
    (sf_Ratio : PySem.W.selfFirst K C_Ratio = true)
    (xa_Ratio : PySem.W.findIn K (.ref C_Ratio) "__class__" = some (some (.builtin "object.__class__")))
    (xn_Ratio : PySem.W.specialIn K (.builtin "object.__class__") "__get__" = some (some (.builtin "getset_descriptor.__get__")))
    (xt_Ratio : PySem.W.takesIn K (.builtin "object.__class__") = some true)
    (xm_Ratio : PySem.W.mroIn K C_Ratio (.type "object") = some true)
    (a1 : PySem.W.findIn K (.ref C_Ratio) "__init__" = some (some (.ref f1)))
    (i1 : PySem.W.isFn K (.ref f1) = true)
    (l1 : K.lookup f1 = some ⟨oc1, od1, .func (PySem.W.fnOf "__init__" "Ratio.__init__" (defArgs s_Ratio_init) (defBody s_Ratio_init) (defScope s_Ratio_init) (.ref Tt1) kV1 dc1 pm1 an1 cd1 ct1), sl1⟩)
    (c1 : PySem.W.codeIn K cd1 "Ratio.__init__" = true)
    (k1 : PySem.W.keepIn K (.ref f1) = true)
    (t1 : K.lookup Tt1 = some ⟨tc1, td1, .seq #[.int 1 tk1] tn1, tl1⟩)
    (a2 : PySem.W.findIn K (.ref C_Ratio) "__add__" = some (some (.ref f2)))
    (i2 : PySem.W.isFn K (.ref f2) = true)
    (l2 : K.lookup f2 = some ⟨oc2, od2, .func (PySem.W.fnOf "__add__" "Ratio.__add__" (defArgs s_Ratio_add) (defBody s_Ratio_add) (defScope s_Ratio_add) .none kV2 dc2 pm2 an2 cd2 ct2), sl2⟩)
    (c2 : PySem.W.codeIn K cd2 "Ratio.__add__" = true)
    (k2 : PySem.W.keepIn K (.ref f2) = true)
    (a3 : PySem.W.findIn K (.ref C_Ratio) "__sub__" = some (some (.ref f3)))
    (i3 : PySem.W.isFn K (.ref f3) = true)
    (l3 : K.lookup f3 = some ⟨oc3, od3, .func (PySem.W.fnOf "__sub__" "Ratio.__sub__" (defArgs s_Ratio_sub) (defBody s_Ratio_sub) (defScope s_Ratio_sub) .none kV3 dc3 pm3 an3 cd3 ct3), sl3⟩)
    (c3 : PySem.W.codeIn K cd3 "Ratio.__sub__" = true)
    (k3 : PySem.W.keepIn K (.ref f3) = true)
    (a4 : PySem.W.findIn K (.ref C_Ratio) "__mul__" = some (some (.ref f4)))
    (i4 : PySem.W.isFn K (.ref f4) = true)
    (l4 : K.lookup f4 = some ⟨oc4, od4, .func (PySem.W.fnOf "__mul__" "Ratio.__mul__" (defArgs s_Ratio_mul) (defBody s_Ratio_mul) (defScope s_Ratio_mul) .none kV4 dc4 pm4 an4 cd4 ct4), sl4⟩)
    (c4 : PySem.W.codeIn K cd4 "Ratio.__mul__" = true)
    (k4 : PySem.W.keepIn K (.ref f4) = true)
    (a5 : PySem.W.findIn K (.ref C_Ratio) "__neg__" = some (some (.ref f5)))
    (i5 : PySem.W.isFn K (.ref f5) = true)
    (l5 : K.lookup f5 = some ⟨oc5, od5, .func (PySem.W.fnOf "__neg__" "Ratio.__neg__" (defArgs s_Ratio_neg) (defBody s_Ratio_neg) (defScope s_Ratio_neg) .none kV5 dc5 pm5 an5 cd5 ct5), sl5⟩)
    (c5 : PySem.W.codeIn K cd5 "Ratio.__neg__" = true)
    (k5 : PySem.W.keepIn K (.ref f5) = true)
    (a6 : PySem.W.findIn K (.ref C_Ratio) "__eq__" = some (some (.ref f6)))
    (i6 : PySem.W.isFn K (.ref f6) = true)
    (l6 : K.lookup f6 = some ⟨oc6, od6, .func (PySem.W.fnOf "__eq__" "Ratio.__eq__" (defArgs s_Ratio_eq) (defBody s_Ratio_eq) (defScope s_Ratio_eq) .none kV6 dc6 pm6 an6 cd6 ct6), sl6⟩)
    (c6 : PySem.W.codeIn K cd6 "Ratio.__eq__" = true)
    (k6 : PySem.W.keepIn K (.ref f6) = true)
    (a7 : PySem.W.findIn K (.ref C_Ratio) "__ne__" = some (some (.ref f7)))
    (i7 : PySem.W.isFn K (.ref f7) = true)
    (l7 : K.lookup f7 = some ⟨oc7, od7, .func (PySem.W.fnOf "__ne__" "Ratio.__ne__" (defArgs s_Ratio_ne) (defBody s_Ratio_ne) (defScope s_Ratio_ne) .none kV7 dc7 pm7 an7 cd7 ct7), sl7⟩)
    (c7 : PySem.W.codeIn K cd7 "Ratio.__ne__" = true)
    (k7 : PySem.W.keepIn K (.ref f7) = true)
    (a8 : PySem.W.nsIn K mainGlobals "common" = some (some (.ref f8)))
    (l8 : K.lookup f8 = some ⟨oc8, od8, .func (PySem.W.fnOf "common" "common" (defArgs s_common) (defBody s_common) (defScope s_common) .none kV8 dc8 pm8 an8 cd8 ct8), sl8⟩)
    (c8 : PySem.W.codeIn K cd8 "common" = true)
    (k8 : PySem.W.keepIn K (.ref f8) = true)
    (a9 : PySem.W.nsIn K mainGlobals "_law_is_integer" = some (some (.ref f9)))
    (l9 : K.lookup f9 = some ⟨oc9, od9, .func (PySem.W.fnOf "_law_is_integer" "_law_is_integer" (defArgs s_law_is_integer) (defBody s_law_is_integer) (defScope s_law_is_integer) .none kV9 dc9 pm9 an9 cd9 ct9), sl9⟩)
    (c9 : PySem.W.codeIn K cd9 "_law_is_integer" = true)
    (k9 : PySem.W.keepIn K (.ref f9) = true)
    (a10 : PySem.W.nsIn K mainGlobals "_law_gcd" = some (some (.ref f10)))
    (l10 : K.lookup f10 = some ⟨oc10, od10, .func (PySem.W.fnOf "_law_gcd" "_law_gcd" (defArgs s_law_gcd) (defBody s_law_gcd) (defScope s_law_gcd) .none kV10 dc10 pm10 an10 cd10 ct10), sl10⟩)
    (c10 : PySem.W.codeIn K cd10 "_law_gcd" = true)
    (k10 : PySem.W.keepIn K (.ref f10) = true)
    (a11 : PySem.W.nsIn K mainGlobals "_law_is_ratio" = some (some (.ref f11)))
    (l11 : K.lookup f11 = some ⟨oc11, od11, .func (PySem.W.fnOf "_law_is_ratio" "_law_is_ratio" (defArgs s_law_is_ratio) (defBody s_law_is_ratio) (defScope s_law_is_ratio) .none kV11 dc11 pm11 an11 cd11 ct11), sl11⟩)
    (c11 : PySem.W.codeIn K cd11 "_law_is_ratio" = true)
    (k11 : PySem.W.keepIn K (.ref f11) = true)
    (a12 : PySem.W.nsIn K mainGlobals "law" = some (some (.ref f12)))
    (l12 : K.lookup f12 = some ⟨oc12, od12, .func (PySem.W.fnOf "law" "law" (defArgs s_law) (defBody s_law) (defScope s_law) .none kV12 dc12 pm12 an12 cd12 ct12), sl12⟩)
    (c12 : PySem.W.codeIn K cd12 "law" = true)
    (k12 : PySem.W.keepIn K (.ref f12) = true)
    (g_gcd : PySem.W.nsIn K mainGlobals "gcd" = some (some (.builtin "math.gcd")))
    (g_lcm : PySem.W.nsIn K mainGlobals "lcm" = some (some (.builtin "math.lcm")))
    (z_abs : PySem.W.nsIn K mainGlobals "abs" = some none)
    (z_bool : PySem.W.nsIn K mainGlobals "bool" = some none)
    (z_int : PySem.W.nsIn K mainGlobals "int" = some none)
    (z_isinstance : PySem.W.nsIn K mainGlobals "isinstance" = some none)
    (z_len : PySem.W.nsIn K mainGlobals "len" = some none)
    (z_list : PySem.W.nsIn K mainGlobals "list" = some none)
    (z_range : PySem.W.nsIn K mainGlobals "range" = some none)
    (z_tuple : PySem.W.nsIn K mainGlobals "tuple" = some none) :
    ∃ fd : FuncData, (∀ (s : Shared) (v : Value), BindsTo s fd ⟨[v], []⟩ [("script", v)]) ∧ ∀ base : Heap, K.In base → base.Ns mainGlobals mg → FnOk l.prog w K mg base CX0 9 fa fd ["script"] (spLaw K) := by
  have e := hfa.symm.trans (PySem.W.mg_of X G a12)
  cases e
  have FD1 : FunD K "__init__" "Ratio.__init__" (defArgs s_Ratio_init) (defBody s_Ratio_init) (defScope s_Ratio_init) [.int 1] [] f1 _ := ⟨⟨_, _, _, _, _, _, _, _, _, _, rfl, l1, c1, .inr ⟨(by simp), _, _, _, _, rfl, t1, rfl, (.cons (by first | exact ⟨_, rfl⟩ | rfl) .nil)⟩, .inl rfl⟩, k1⟩
  obtain ⟨dz1, vz1, bz1⟩ := FD1.binds1 (ps := ["self", "num", "den"]) 3 1 (by simp) (by decide) (fun _ _ _ _ _ _ _ us its h1 h2 => match us, its, h1, h2 with | [_, _, _], [_], _, _ => ⟨_, rfl, rfl⟩)
  cases vz1
  obtain ⟨ds1, vd1, bd1⟩ := FD1.binds1 (ps := ["self", "num", "den"]) 2 0 (by simp) (by decide) (fun _ _ _ _ _ _ _ us its h1 h2 => match us, its, h1, h2 with | [_, _], [_], _, _ => ⟨_, rfl, rfl⟩)
  let T : Txt K mg := { C_Ratio := C_Ratio, m_Ratio := PySem.W.mg_of X G ac_Ratio, cl_Ratio := ⟨pg_Ratio, hd_Ratio, po_Ratio, sa_Ratio⟩, n_Ratio_num := na_Ratio_num, n_Ratio_den := na_Ratio_den, sf_Ratio := sf_Ratio, ic_Ratio := ⟨⟨pg_Ratio, hd_Ratio, po_Ratio, sa_Ratio⟩, xa_Ratio, xn_Ratio, xt_Ratio, xm_Ratio, (by unfold PySem.W.kitOne; simp)⟩, a_Ratio_init := f1, d_Ratio_init := _, F_Ratio_init := FD1, ds_Ratio_init := ds1, v_Ratio_init := vd1, bd_Ratio_init := bd1, b_Ratio_init := bz1, mk_Ratio := ⟨mkc_Ratio, a1, i1, kpc_Ratio⟩, a_Ratio_add := f2, d_Ratio_add := _, F_Ratio_add := fun_mk (st := s_Ratio_add) l2 c2 k2, b_Ratio_add := (fun_mk (st := s_Ratio_add) l2 c2 k2).binds (ps := ["self", "other"]) (fun _ _ _ _ _ _ us hl => match us, hl with | [_, _], _ => rfl), me_Ratio_add := ⟨a2, i2, k2⟩, a_Ratio_sub := f3, d_Ratio_sub := _, F_Ratio_sub := fun_mk (st := s_Ratio_sub) l3 c3 k3, b_Ratio_sub := (fun_mk (st := s_Ratio_sub) l3 c3 k3).binds (ps := ["self", "other"]) (fun _ _ _ _ _ _ us hl => match us, hl with | [_, _], _ => rfl), me_Ratio_sub := ⟨a3, i3, k3⟩, a_Ratio_mul := f4, d_Ratio_mul := _, F_Ratio_mul := fun_mk (st := s_Ratio_mul) l4 c4 k4, b_Ratio_mul := (fun_mk (st := s_Ratio_mul) l4 c4 k4).binds (ps := ["self", "other"]) (fun _ _ _ _ _ _ us hl => match us, hl with | [_, _], _ => rfl), me_Ratio_mul := ⟨a4, i4, k4⟩, a_Ratio_neg := f5, d_Ratio_neg := _, F_Ratio_neg := fun_mk (st := s_Ratio_neg) l5 c5 k5, b_Ratio_neg := (fun_mk (st := s_Ratio_neg) l5 c5 k5).binds (ps := ["self"]) (fun _ _ _ _ _ _ us hl => match us, hl with | [_], _ => rfl), me_Ratio_neg := ⟨a5, i5, k5⟩, a_Ratio_eq := f6, d_Ratio_eq := _, F_Ratio_eq := fun_mk (st := s_Ratio_eq) l6 c6 k6, b_Ratio_eq := (fun_mk (st := s_Ratio_eq) l6 c6 k6).binds (ps := ["self", "other"]) (fun _ _ _ _ _ _ us hl => match us, hl with | [_, _], _ => rfl), me_Ratio_eq := ⟨a6, i6, k6⟩, a_Ratio_ne := f7, d_Ratio_ne := _, F_Ratio_ne := fun_mk (st := s_Ratio_ne) l7 c7 k7, b_Ratio_ne := (fun_mk (st := s_Ratio_ne) l7 c7 k7).binds (ps := ["self", "other"]) (fun _ _ _ _ _ _ us hl => match us, hl with | [_, _], _ => rfl), me_Ratio_ne := ⟨a7, i7, k7⟩, a_common := f8, d_common := _, F_common := fun_mk (st := s_common) l8 c8 k8, b_common := (fun_mk (st := s_common) l8 c8 k8).binds (ps := ["ratios"]) (fun _ _ _ _ _ _ us hl => match us, hl with | [_], _ => rfl), m_common := PySem.W.mg_of X G a8, a_law_is_integer := f9, d_law_is_integer := _, F_law_is_integer := fun_mk (st := s_law_is_integer) l9 c9 k9, b_law_is_integer := (fun_mk (st := s_law_is_integer) l9 c9 k9).binds (ps := ["actual"]) (fun _ _ _ _ _ _ us hl => match us, hl with | [_], _ => rfl), m_law_is_integer := PySem.W.mg_of X G a9, a_law_gcd := f10, d_law_gcd := _, F_law_gcd := fun_mk (st := s_law_gcd) l10 c10 k10, b_law_gcd := (fun_mk (st := s_law_gcd) l10 c10 k10).binds (ps := ["a", "b"]) (fun _ _ _ _ _ _ us hl => match us, hl with | [_, _], _ => rfl), m_law_gcd := PySem.W.mg_of X G a10, a_law_is_ratio := f11, d_law_is_ratio := _, F_law_is_ratio := fun_mk (st := s_law_is_ratio) l11 c11 k11, b_law_is_ratio := (fun_mk (st := s_law_is_ratio) l11 c11 k11).binds (ps := ["actual", "num", "den"]) (fun _ _ _ _ _ _ us hl => match us, hl with | [_, _, _], _ => rfl), m_law_is_ratio := PySem.W.mg_of X G a11, a_law := fa, d_law := _, F_law := fun_mk (st := s_law) l12 c12 k12, b_law := (fun_mk (st := s_law) l12 c12 k12).binds (ps := ["script"]) (fun _ _ _ _ _ _ us hl => match us, hl with | [_], _ => rfl), m_law := PySem.W.mg_of X G a12, g_gcd := PySem.W.mg_of X G g_gcd, g_lcm := PySem.W.mg_of X G g_lcm, z_abs := PySem.W.mg_none_of X G z_abs, z_bool := PySem.W.mg_none_of X G z_bool, z_int := PySem.W.mg_none_of X G z_int, z_isinstance := PySem.W.mg_none_of X G z_isinstance, z_len := PySem.W.mg_none_of X G z_len, z_list := PySem.W.mg_none_of X G z_list, z_range := PySem.W.mg_none_of X G z_range, z_tuple := PySem.W.mg_none_of X G z_tuple }
  exact ⟨T.d_law, fun s v => .of_eq rfl, fun base _ _ => ok_law T⟩
end Own
open PySem PySem.W PyProof.Rows
set_option maxHeartbeats 0 in
theorem PySem.Challenge.cw_sureplay_k06_common_form_holds : PySem.Challenge.rw_sureplay_k06_common_form.Holds := by
  w_on; o_law; k_head; (case hw => w_witness2)
  k_fill
  refine L2.walk_of (l := PySem.Challenge.rw_sureplay_k06_common_form) (n := 63) (k := 9) (x := "script") (CX := fun _ => L2.CX0) (sp := fun w => Own.spLaw _) rfl (by decide) rfl ⟨rfl, by decide, by decide⟩ (fun w h Y => PySem.W.kIn_of Y) ?F (fun _ _ a ns hl _ hS => ⟨a, ns, rfl, hS, hl, fun _ => rfl⟩) (fun _ _ _ _ _ h => h)
  case F =>
    intro w mg fa h KX G hmg
    refine' Own.all_mk KX G hmg ?ac_Ratio ?pg_Ratio ?hd_Ratio ?po_Ratio ?sa_Ratio ?mkc_Ratio ?kpc_Ratio ?na_Ratio_num ?na_Ratio_den ?sf_Ratio ?xa_Ratio ?xn_Ratio ?xt_Ratio ?xm_Ratio ?a1 ?i1 ?l1 ?c1 ?k1 ?t1 ?a2 ?i2 ?l2 ?c2 ?k2 ?a3 ?i3 ?l3 ?c3 ?k3 ?a4 ?i4 ?l4 ?c4 ?k4 ?a5 ?i5 ?l5 ?c5 ?k5 ?a6 ?i6 ?l6 ?c6 ?k6 ?a7 ?i7 ?l7 ?c7 ?k7 ?a8 ?l8 ?c8 ?k8 ?a9 ?l9 ?c9 ?k9 ?a10 ?l10 ?c10 ?k10 ?a11 ?l11 ?c11 ?k11 ?a12 ?l12 ?c12 ?k12 ?g_gcd ?g_lcm ?z_abs ?z_bool ?z_int ?z_isinstance ?z_len ?z_list ?z_range ?z_tuple
    (case ac_Ratio => k_is)
    (case pg_Ratio => k_is)
    (case hd_Ratio => k_is)
    (case po_Ratio => k_is)
    (case sa_Ratio => k_is)
    (case mkc_Ratio => k_is)
    (case kpc_Ratio => k_is)
    (case na_Ratio_num => k_is)
    (case na_Ratio_den => k_is)
    (case sf_Ratio => k_is)
    (case xa_Ratio => k_is)
    (case xn_Ratio => k_is)
    (case xt_Ratio => k_is)
    (case xm_Ratio => k_is)
    (case a1 => k_is)
    (case i1 => k_is)
    (case l1 => k_is)
    (case c1 => k_is)
    (case k1 => k_is)
    (case t1 => k_is)
    (case a2 => k_is)
    (case i2 => k_is)
    (case l2 => k_is)
    (case c2 => k_is)
    (case k2 => k_is)
    (case a3 => k_is)
    (case i3 => k_is)
    (case l3 => k_is)
    (case c3 => k_is)
    (case k3 => k_is)
    (case a4 => k_is)
    (case i4 => k_is)
    (case l4 => k_is)
    (case c4 => k_is)
    (case k4 => k_is)
    (case a5 => k_is)
    (case i5 => k_is)
    (case l5 => k_is)
    (case c5 => k_is)
    (case k5 => k_is)
    (case a6 => k_is)
    (case i6 => k_is)
    (case l6 => k_is)
    (case c6 => k_is)
    (case k6 => k_is)
    (case a7 => k_is)
    (case i7 => k_is)
    (case l7 => k_is)
    (case c7 => k_is)
    (case k7 => k_is)
    (case a8 => k_is)
    (case l8 => k_is)
    (case c8 => k_is)
    (case k8 => k_is)
    (case a9 => k_is)
    (case l9 => k_is)
    (case c9 => k_is)
    (case k9 => k_is)
    (case a10 => k_is)
    (case l10 => k_is)
    (case c10 => k_is)
    (case k10 => k_is)
    (case a11 => k_is)
    (case l11 => k_is)
    (case c11 => k_is)
    (case k11 => k_is)
    (case a12 => k_is)
    (case l12 => k_is)
    (case c12 => k_is)
    (case k12 => k_is)
    (case g_gcd => k_is)
    (case g_lcm => k_is)
    (case z_abs => k_is)
    (case z_bool => k_is)
    (case z_int => k_is)
    (case z_isinstance => k_is)
    (case z_len => k_is)
    (case z_list => k_is)
    (case z_range => k_is)
    (case z_tuple => k_is)
#print axioms PySem.Challenge.cw_sureplay_k06_common_form_holds
