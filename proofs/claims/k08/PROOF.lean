import PyProof.Rows.All
import Wide.All
import OpenK.AllK
import Wide.FinOn
import HandS.TupAny
import HandS.ForMost
import HandS.IsInst
import HandS.Codes
import HandS.Gcd
import HandS.Wide
import HandS.Defaults
import HandS.SlotsOwn
import HandS.DeepEq
import PySem.Challenge.RW_sureplay_k08_lists_of_lots
set_option Elab.async false
set_option linter.all false
set_option maxRecDepth 100000
set_option maxHeartbeats 4000000
namespace Own
open PySem PySem.Spec PyProof.Rows L2
def topS (i : Nat) : Stmt := PySem.Challenge.pw_sureplay_k08_lists_of_lots.main.body.getD i (.Pass ⟨0, 0, 0, 0⟩)
abbrev s_Ratio_init : Stmt := (inClass (topS 6) 0)
abbrev N_Ratio_init : List Str := ["self", "num", "den", "factor"]
theorem sc_Ratio_init : FnScope N_Ratio_init ["self", "num", "den"] (defScope s_Ratio_init) := ⟨rfl, rfl, rfl, by decide +kernel, rfl, by decide +kernel, by decide +kernel⟩
abbrev s_Ratio_add : Stmt := (inClass (topS 6) 1)
abbrev N_Ratio_add : List Str := ["self", "other"]
theorem sc_Ratio_add : FnScope N_Ratio_add ["self", "other"] (defScope s_Ratio_add) := ⟨rfl, rfl, rfl, by decide +kernel, rfl, by decide +kernel, by decide +kernel⟩
abbrev s_Ratio_sub : Stmt := (inClass (topS 6) 2)
abbrev N_Ratio_sub : List Str := ["self", "other"]
theorem sc_Ratio_sub : FnScope N_Ratio_sub ["self", "other"] (defScope s_Ratio_sub) := ⟨rfl, rfl, rfl, by decide +kernel, rfl, by decide +kernel, by decide +kernel⟩
abbrev s_Ratio_mul : Stmt := (inClass (topS 6) 3)
abbrev N_Ratio_mul : List Str := ["self", "other"]
theorem sc_Ratio_mul : FnScope N_Ratio_mul ["self", "other"] (defScope s_Ratio_mul) := ⟨rfl, rfl, rfl, by decide +kernel, rfl, by decide +kernel, by decide +kernel⟩
abbrev s_Ratio_neg : Stmt := (inClass (topS 6) 4)
abbrev N_Ratio_neg : List Str := ["self"]
theorem sc_Ratio_neg : FnScope N_Ratio_neg ["self"] (defScope s_Ratio_neg) := ⟨rfl, rfl, rfl, by decide +kernel, rfl, by decide +kernel, by decide +kernel⟩
abbrev s_Ratio_eq : Stmt := (inClass (topS 6) 5)
abbrev N_Ratio_eq : List Str := ["self", "other"]
theorem sc_Ratio_eq : FnScope N_Ratio_eq ["self", "other"] (defScope s_Ratio_eq) := ⟨rfl, rfl, rfl, by decide +kernel, rfl, by decide +kernel, by decide +kernel⟩
abbrev s_Ratio_ne : Stmt := (inClass (topS 6) 6)
abbrev N_Ratio_ne : List Str := ["self", "other"]
theorem sc_Ratio_ne : FnScope N_Ratio_ne ["self", "other"] (defScope s_Ratio_ne) := ⟨rfl, rfl, rfl, by decide +kernel, rfl, by decide +kernel, by decide +kernel⟩
abbrev s_Ratio_sign : Stmt := (inClass (topS 6) 12)
abbrev N_Ratio_sign : List Str := ["self"]
theorem sc_Ratio_sign : FnScope N_Ratio_sign ["self"] (defScope s_Ratio_sign) := ⟨rfl, rfl, rfl, by decide +kernel, rfl, by decide +kernel, by decide +kernel⟩
abbrev s_total : Stmt := (topS 7)
abbrev N_total : List Str := ["ratios", "whole", "ratio"]
theorem sc_total : FnScope N_total ["ratios"] (defScope s_total) := ⟨rfl, rfl, rfl, by decide +kernel, rfl, by decide +kernel, by decide +kernel⟩
abbrev s_are_lots : Stmt := (topS 9)
abbrev N_are_lots : List Str := ["ratios", "ratio"]
theorem sc_are_lots : FnScope N_are_lots ["ratios"] (defScope s_are_lots) := ⟨rfl, rfl, rfl, by decide +kernel, rfl, by decide +kernel, by decide +kernel⟩
abbrev s_law_cell : Stmt := (topS 11)
abbrev N_law_cell : List Str := ["script", "k"]
theorem sc_law_cell : FnScope N_law_cell ["script", "k"] (defScope s_law_cell) := ⟨rfl, rfl, rfl, by decide +kernel, rfl, by decide +kernel, by decide +kernel⟩
abbrev s_law_bool : Stmt := (topS 13)
abbrev N_law_bool : List Str := ["actual", "due"]
theorem sc_law_bool : FnScope N_law_bool ["actual", "due"] (defScope s_law_bool) := ⟨rfl, rfl, rfl, by decide +kernel, rfl, by decide +kernel, by decide +kernel⟩
abbrev s_law : Stmt := (topS 14)
abbrev N_law : List Str := ["script", "parts", "way", "whole", "due", "part", "ratios", "kept", "told", "cell"]
theorem sc_law : FnScope N_law ["script"] (defScope s_law) := ⟨rfl, rfl, rfl, by decide +kernel, rfl, by decide +kernel, by decide +kernel⟩
def spLaw (K : PySem.W.Frag) : Sp := fun vs H Q _ => ∃ (a : Addr) (ns : List Int), vs = [.ref a] ∧ SqL K H a (ns.map V.int) ∧ ns.length ≤ 63 ∧ ∀ H', Q (.bl true) H'
def cell (ns : List Int) (k : Int) : Int := ns.getD k.toNat 0
theorem same_upd {H : Hp} {p : Addr} {o : HO} (h : H p = none) : Same H (upd H p o) := fun b x e => by
  rw [upd_ne (ne_of_none e h)]
  exact e
theorem cut_from (xs : List V) (k : Nat) : cutV xs (some (k : Int)) none = xs.drop k := by
  unfold cutV
  rw [HT.sIx_nat, HT.sIx_none]
  by_cases h : k ≤ xs.length
  · rw [Nat.min_eq_left h]
    exact List.take_of_length_le (by rw [List.length_drop]; omega)
  · rw [Nat.min_eq_right (by omega), List.drop_eq_nil_of_le (by omega), List.drop_eq_nil_of_le (by omega)]
    simp
theorem cut_to (xs : List V) (k : Nat) : cutV xs none (some (k : Int)) = xs.take k := by
  unfold cutV
  rw [HT.sIx_nat, HT.sIx_none, List.drop_zero, Nat.sub_zero]
  by_cases h : k ≤ xs.length
  · rw [Nat.min_eq_left h]
  · rw [Nat.min_eq_right (by omega), List.take_of_length_le (Nat.le_refl _), List.take_of_length_le (by omega)]
theorem cut_to' (xs : List V) (k : Int) (h : 0 ≤ k) : cutV xs none (some k) = xs.take k.toNat := by
  obtain ⟨m, rfl⟩ := Int.eq_ofNat_of_zero_le h
  exact cut_to xs m
theorem cut_from' (xs : List V) (k : Int) (h : 0 ≤ k) : cutV xs (some k) none = xs.drop k.toNat := by
  obtain ⟨m, rfl⟩ := Int.eq_ofNat_of_zero_le h
  exact cut_from xs m
theorem small_le {n : Nat} (h : n ≤ 1000) : n ≤ sizeLine := Nat.le_of_lt (small1000 h)
theorem at_ofG {α : Type} {xs : List α} {z : Int} {j : Nat} {v : α} (e : z = (j : Int)) (h : xs[j]? = some v) : atI xs z = some v := by
  rw [e]
  exact atI_nat h
theorem int_of_map {ns : List Int} {i : Nat} {y : V} (hi : (ns.map V.int)[i]? = some y) : ∃ z, ns[i]? = some z ∧ y = V.int z := by
  rw [List.getElem?_map] at hi
  cases e : ns[i]? with
  | none => rw [e] at hi; cases hi
  | some u => rw [e] at hi; exact ⟨u, rfl, (Option.some.inj hi).symm⟩
theorem dp_ints {K : PySem.W.Frag} {H : Hp} : ∀ ns : List Int, DpAll K H (ns.map V.int) (ns.map PyData.int)
  | [] => .nil
  | n :: r => .cons (.int n) (dp_ints r)
theorem lay_ints : ∀ ns : List Int, PyData.canLayAll0 (ns.map PyData.int) = true ∧ PyData.depthAll (ns.map PyData.int) = 0
  | [] => ⟨by simp [PyData.canLayAll0], by simp [PyData.depthAll]⟩
  | n :: r => by
    have ih := lay_ints r
    exact ⟨by simp [PyData.canLayAll0, PyData.canLay0, ih.1], by simp [PyData.depthAll, PyData.depth, ih.2]⟩
theorem shaped_ints (ns : List Int) : SeqAt.shaped (.list (ns.map PyData.int)) = true := by
  have h := lay_ints ns
  unfold SeqAt.shaped
  simp [PyData.canLay0, PyData.depth, h.1, h.2]
theorem eqv_ints (ns : List Int) : PyData.eqv (.list (ns.map PyData.int)) (.list (ns.map PyData.int)) = true :=
  SeqAt.eqv_refl _ (by rw [PyData.canLay0]; exact (lay_ints ns).1)

mutual
/-- data that never changes: scalars and tracked tuples of such -/
inductive Im (H : Hp) : V → PyData → Prop
  | non : Im H .non .none
  | bl (b : Bool) : Im H (.bl b) (.bool b)
  | int (i : Int) : Im H (.int i) (.int i)
  | str (x : Str) : Im H (.str x) (.str x)
  | tup {a : Addr} {xs : List V} {ds : List PyData} : H a = some (.tup xs) → ImAll H xs ds → Im H (.ref a) (.tuple ds)
inductive ImAll (H : Hp) : List V → List PyData → Prop
  | nil : ImAll H [] []
  | cons {v : V} {vs : List V} {d : PyData} {ds : List PyData} : Im H v d → ImAll H vs ds → ImAll H (v :: vs) (d :: ds)
end
/-- the tracked tuples stay -/
def KeepT (H H' : Hp) : Prop := ∀ b xs, H b = some (.tup xs) → H' b = some (.tup xs)
theorem KeepT.refl (H : Hp) : KeepT H H := fun _ _ h => h
theorem KeepT.trans {H H1 H2 : Hp} (a : KeepT H H1) (b : KeepT H1 H2) : KeepT H H2 := fun c x h => b c x (a c x h)
theorem keepT_of {H H' : Hp} (s : Same H H') : KeepT H H' := fun b xs h => s b _ h
theorem keepT_lst {H : Hp} {p : Addr} {xs ys : List V} (h : H p = some (.lst xs)) : KeepT H (upd H p (.lst ys)) := fun b zs e => by
  have n : b ≠ p := fun q => by rw [q, h] at e; cases e
  rw [upd_ne n]
  exact e
mutual
theorem Im.keep {H H' : Hp} (k : KeepT H H') : ∀ {v : V} {d : PyData}, Im H v d → Im H' v d
  | _, _, .non => .non
  | _, _, .bl b => .bl b
  | _, _, .int i => .int i
  | _, _, .str x => .str x
  | _, _, .tup h a => .tup (k _ _ h) (ImAll.keep k a)
theorem ImAll.keep {H H' : Hp} (k : KeepT H H') : ∀ {vs : List V} {ds : List PyData}, ImAll H vs ds → ImAll H' vs ds
  | _, _, .nil => .nil
  | _, _, .cons h a => .cons (Im.keep k h) (ImAll.keep k a)
end
mutual
theorem Im.dp {K : PySem.W.Frag} {H : Hp} : ∀ {v : V} {d : PyData}, Im H v d → Dp K H v d
  | _, _, .non => .non
  | _, _, .bl b => .bl b
  | _, _, .int i => .int i
  | _, _, .str x => .str x
  | _, _, .tup h a => .tup (SqT.of h) (ImAll.dp a)
theorem ImAll.dp {K : PySem.W.Frag} {H : Hp} : ∀ {vs : List V} {ds : List PyData}, ImAll H vs ds → DpAll K H vs ds
  | _, _, .nil => .nil
  | _, _, .cons h a => .cons (Im.dp h) (ImAll.dp a)
end
theorem ImAll.len {H : Hp} : ∀ {vs : List V} {ds : List PyData}, ImAll H vs ds → vs.length = ds.length
  | _, _, .nil => rfl
  | _, _, .cons _ a => by rw [List.length_cons, List.length_cons, ImAll.len a]
theorem ImAll.append {H : Hp} : ∀ {vs us : List V} {ds es : List PyData}, ImAll H vs ds → ImAll H us es → ImAll H (vs ++ us) (ds ++ es)
  | _, _, _, _, .nil, b => b
  | _, _, _, _, .cons h a, b => .cons h (ImAll.append a b)
theorem ImAll.get {H : Hp} : ∀ {vs : List V} {ds : List PyData} {i : Nat} {d : PyData}, ImAll H vs ds → ds[i]? = some d → ∃ v, vs[i]? = some v ∧ Im H v d
  | _, _, 0, _, .cons h _, e => by
    cases e
    exact ⟨_, rfl, h⟩
  | _, _, i + 1, _, .cons _ a, e => by
    rw [List.getElem?_cons_succ] at e
    rw [List.getElem?_cons_succ]
    exact ImAll.get a e
theorem ImAll.take {H : Hp} : ∀ {vs : List V} {ds : List PyData} (i : Nat), ImAll H vs ds → ImAll H (vs.take i) (ds.take i)
  | _, _, 0, _ => by
    rw [List.take_zero, List.take_zero]
    exact .nil
  | _, _, _ + 1, .nil => by
    rw [List.take_nil, List.take_nil]
    exact .nil
  | _, _, i + 1, .cons h a => .cons h (ImAll.take i a)
theorem ImAll.snoc {H : Hp} {vs : List V} {ds : List PyData} {v : V} {d : PyData} (a : ImAll H vs ds) (h : Im H v d) : ImAll H (vs ++ [v]) (ds ++ [d]) := a.append (.cons h .nil)
theorem ImAll.rev {H : Hp} : ∀ {vs : List V} {ds : List PyData}, ImAll H vs ds → ImAll H vs.reverse ds.reverse
  | _, _, .nil => .nil
  | _, _, .cons h a => by
    rw [List.reverse_cons, List.reverse_cons]
    exact (ImAll.rev a).snoc h
mutual
/-- all sequences are short -/
def wide : PyData → Bool
  | .list xs => decide (xs.length ≤ 1000000) && wideAll xs
  | .tuple xs => decide (xs.length ≤ 1000000) && wideAll xs
  | .none => true
  | .bool _ => true
  | .int _ => true
  | .str _ => true
  | .dict _ => false
def wideAll : List PyData → Bool
  | [] => true
  | x :: r => wide x && wideAll r
end
/-- what a comparison asks of data: sizes -/
def Lay (n : Nat) (d : PyData) : Prop := d.canLay0 = true ∧ d.depth ≤ n ∧ wide d = true
theorem lay_all : ∀ {n : Nat} {ds : List PyData}, (∀ d ∈ ds, Lay n d) → PyData.canLayAll0 ds = true ∧ PyData.depthAll ds ≤ n ∧ wideAll ds = true
  | n, [], _ => ⟨by simp [PyData.canLayAll0], by simp [PyData.depthAll], by simp [wideAll]⟩
  | n, d :: r, h => by
    have h1 := h d List.mem_cons_self
    have h2 := lay_all fun e he => h e (List.mem_cons_of_mem d he)
    refine ⟨by simp [PyData.canLayAll0, h1.1, h2.1], ?_, by simp [wideAll, h1.2.2, h2.2.2]⟩
    simp only [PyData.depthAll]
    exact Nat.max_le.mpr ⟨h1.2.1, h2.2.1⟩
theorem lay_tuple {n : Nat} {ds : List PyData} (hl : ds.length ≤ 1000000) (h : ∀ d ∈ ds, Lay n d) : Lay (n + 1) (.tuple ds) := by
  have q := lay_all h
  exact ⟨by simp [PyData.canLay0, q.1], by simp only [PyData.depth]; omega, by simp only [wide, q.2.2, decide_eq_true hl]; rfl⟩
theorem lay_list {n : Nat} {ds : List PyData} (hl : ds.length ≤ 1000000) (h : ∀ d ∈ ds, Lay n d) : Lay (n + 1) (.list ds) := by
  have q := lay_all h
  exact ⟨by simp [PyData.canLay0, q.1], by simp only [PyData.depth]; omega, by simp only [wide, q.2.2, decide_eq_true hl]; rfl⟩
theorem Lay.mono {n m : Nat} {d : PyData} (h : Lay n d) (l : n ≤ m) : Lay m d := ⟨h.1, Nat.le_trans h.2.1 l, h.2.2⟩
theorem Lay.shaped {n : Nat} {d : PyData} (h : Lay n d) (l : n ≤ 64) : SeqAt.shaped d = true := by
  unfold SeqAt.shaped
  rw [h.1, decide_eq_true (Nat.le_trans h.2.1 l)]
  rfl
theorem Lay.refl {n : Nat} {d : PyData} (h : Lay n d) : PyData.eqv d d = true := SeqAt.eqv_refl _ h.1
theorem lay_int (i : Int) : Lay 0 (.int i) := ⟨by simp [PyData.canLay0], by simp [PyData.depth], by simp [wide]⟩
theorem lay_str {x : Str} (h : PyData.strOk x = true) : Lay 0 (.str x) := ⟨by simp [PyData.canLay0, h], by simp [PyData.depth], by simp [wide]⟩
theorem lay_none : Lay 0 .none := ⟨by simp [PyData.canLay0], by simp [PyData.depth], by simp [wide]⟩
theorem lay_bool (b : Bool) : Lay 0 (.bool b) := ⟨by simp [PyData.canLay0], by simp [PyData.depth], by simp [wide]⟩
theorem wide_get {ds : List PyData} {i : Nat} {d : PyData} : wideAll ds = true → ds[i]? = some d → wide d = true := by
  induction ds generalizing i with
  | nil => intro _ h; simp at h
  | cons x r ih =>
    intro hw h
    simp only [wideAll, Bool.and_eq_true] at hw
    cases i with
    | zero => cases h; exact hw.1
    | succ i => exact ih (i := i) hw.2 (by rw [List.getElem?_cons_succ] at h; exact h)
/-- view + (event,) -/
theorem cat_ev {K : PySem.W.Frag} {H : Hp} {v t u : Addr} {xs : List V} {ds : List PyData} {e : PyData} {Q : VK} (hv : H v = some (.tup xs)) (hA : ImAll H xs ds) (he : Im H (.ref t) e) (hu : H u = some (.tup [.ref t])) (hz : xs.length ≤ 900)
    (k : ∀ (p : Addr) (H' : Hp), Same H H' → Im H' (.ref p) (.tuple (ds ++ [e])) → Q (.ref p) H') : rCatA K (.ref v) (.ref u) H Q := by
  refine ⟨v, u, xs, [.ref t], rfl, rfl, SqT.of hv, SqT.of hu, by show xs.length + 1 ≤ sizeLine; exact small_le (by omega), fun z => ?_, fun _ z => (by cases z), fun _ _ p hp => ?_⟩
  · subst z
    cases hA
    exact k u H (Same.refl H) (.tup hu (.cons he .nil))
  · exact k p _ (same_upd hp) (.tup upd_same ((hA.snoc he).keep (keepT_of (same_upd hp))))
theorem upd2_same {H : Hp} {t u : Addr} {o o' : HO} (ht : H t = none) (hu : upd H t o u = none) : Same H (upd (upd H t o) u o') := (same_upd ht).trans (same_upd hu)


/-! ### fractions -/
/-- p / q is num / den in lowest terms -/
def Rt (p q num den : Int) : Prop := 0 < q ∧ Nat.gcd p.natAbs q.natAbs = 1 ∧ p * den = num * q
theorem natAbs_eq_of_mul {p q : Int} (hq : 0 < q) (h : Nat.gcd p.natAbs q.natAbs = 1) {p' q' : Int} (hq' : 0 < q') (h' : Nat.gcd p'.natAbs q'.natAbs = 1) (e : p * q' = p' * q) : p = p' ∧ q = q' := by
  have en : p.natAbs * q'.natAbs = p'.natAbs * q.natAbs := by rw [← Int.natAbs_mul, ← Int.natAbs_mul, e]
  have d1 : q.natAbs ∣ q'.natAbs := by
    have c : Nat.Coprime q.natAbs p.natAbs := by rw [Nat.coprime_comm]; exact h
    exact c.dvd_of_dvd_mul_left ⟨p'.natAbs, by rw [en, Nat.mul_comm]⟩
  have d2 : q'.natAbs ∣ q.natAbs := by
    have c : Nat.Coprime q'.natAbs p'.natAbs := by rw [Nat.coprime_comm]; exact h'
    exact c.dvd_of_dvd_mul_left ⟨p.natAbs, by rw [← en, Nat.mul_comm]⟩
  have eq : q.natAbs = q'.natAbs := Nat.dvd_antisymm d1 d2
  have eq' : q = q' := by omega
  refine ⟨?_, eq'⟩
  rw [eq'] at e
  exact Int.eq_of_mul_eq_mul_right (by omega) e
theorem rt_uniq {p q p' q' n d n' d' : Int} (h : Rt p q n d) (h' : Rt p' q' n' d') (hd : d ≠ 0) (hd' : d' ≠ 0) (e : n * d' = n' * d) : p = p' ∧ q = q' := by
  obtain ⟨h1, h2, h3⟩ := h
  obtain ⟨g1, g2, g3⟩ := h'
  refine natAbs_eq_of_mul h1 h2 g1 g2 ?_
  have k : (p * q') * (d * d') = (p' * q) * (d * d') := by
    grind
  exact Int.eq_of_mul_eq_mul_right (Int.mul_ne_zero hd hd') k
/-- the sign and the common divisor -/
def fac (n d : Int) : Int := if d < 0 then -((Nat.gcd n.natAbs d.natAbs : Nat) : Int) else ((Nat.gcd n.natAbs d.natAbs : Nat) : Int)
theorem gcd_pos' {n d : Int} (hd : d ≠ 0) : 0 < Nat.gcd n.natAbs d.natAbs := Nat.gcd_pos_of_pos_right _ (Int.natAbs_pos.mpr hd)
theorem fac_ne {n d : Int} (hd : d ≠ 0) : fac n d ≠ 0 := by
  have := gcd_pos' (n := n) hd
  unfold fac
  split <;> omega
theorem fac_abs (n d : Int) : (fac n d).natAbs = Nat.gcd n.natAbs d.natAbs := by
  unfold fac
  split <;> omega
theorem fac_dvd (n d : Int) : fac n d ∣ n ∧ fac n d ∣ d := by
  have h1 : ((Nat.gcd n.natAbs d.natAbs : Nat) : Int) ∣ n := Int.ofNat_dvd_left.mpr (Nat.gcd_dvd_left _ _)
  have h2 : ((Nat.gcd n.natAbs d.natAbs : Nat) : Int) ∣ d := Int.ofNat_dvd_left.mpr (Nat.gcd_dvd_right _ _)
  unfold fac
  split
  · exact ⟨(Int.neg_dvd).mpr h1, (Int.neg_dvd).mpr h2⟩
  · exact ⟨h1, h2⟩
theorem rt_made {n d : Int} (hd : d ≠ 0) : Rt (n.fdiv (fac n d)) (d.fdiv (fac n d)) n d ∧ (n.fdiv (fac n d)).natAbs ≤ n.natAbs ∧ (d.fdiv (fac n d)).natAbs ≤ d.natAbs := by
  have hf := fac_ne (n := n) hd
  obtain ⟨⟨a, ha⟩, ⟨b, hb⟩⟩ := fac_dvd n d
  have fa := fac_abs n d
  have gp := gcd_pos' (n := n) hd
  generalize hfe : fac n d = f at hf ha hb fa
  have e1 : n.fdiv f = a := by rw [ha]; exact Int.mul_fdiv_cancel_left a hf
  have e2 : d.fdiv f = b := by rw [hb]; exact Int.mul_fdiv_cancel_left b hf
  rw [e1, e2]
  have na : n.natAbs = f.natAbs * a.natAbs := by rw [ha, Int.natAbs_mul]
  have nb : d.natAbs = f.natAbs * b.natAbs := by rw [hb, Int.natAbs_mul]
  have fpos : 0 < f.natAbs := by omega
  refine ⟨⟨?_, ?_, ?_⟩, ?_, ?_⟩
  · -- the sign
    have hs : (d < 0 ∧ f < 0) ∨ (0 < d ∧ 0 < f) := by
      unfold fac at hfe
      split at hfe <;> omega
    rcases hs with ⟨h1, h2⟩ | ⟨h1, h2⟩
    · refine Int.not_le.mp fun z => ?_
      have := Int.mul_nonneg_of_nonpos_of_nonpos (Int.le_of_lt h2) z
      omega
    · refine Int.not_le.mp fun z => ?_
      have := Int.mul_nonpos_of_nonneg_of_nonpos (Int.le_of_lt h2) z
      omega
  · have e : Nat.gcd n.natAbs d.natAbs = f.natAbs * Nat.gcd a.natAbs b.natAbs := by rw [na, nb, Nat.gcd_mul_left]
    rw [← fa] at e
    have : f.natAbs * 1 = f.natAbs * Nat.gcd a.natAbs b.natAbs := by rw [Nat.mul_one]; exact e
    exact (Nat.eq_of_mul_eq_mul_left fpos this).symm
  · have x : a * d = n * b := by rw [hb, ha, ← Int.mul_assoc, Int.mul_comm a f]
    exact x
  · rw [na]
    exact Nat.le_mul_of_pos_left _ fpos
  · rw [nb]
    exact Nat.le_mul_of_pos_left _ fpos
theorem Rt.pos {p q n d : Int} (h : Rt p q n d) : 0 < q := h.1
theorem op_fdivX {X : Cx} : OpR X (binaryOp .FloorDiv) (rI (fun _ j => j ≠ 0 ∧ j.natAbs.log2 < 9000) fun i j => .int (i.fdiv j)) :=
  opI fun _ _ _ _ _ _ _ hc q => floordiv_int hc.1 q (.inl (PyProof.noPylong_of_log2 hc.2))
theorem log_lt {j : Int} {b : Nat} (hb : j.natAbs < 2 ^ b) (h0 : 0 < b) (h9 : b ≤ 9000) : j.natAbs.log2 < 9000 := Nat.lt_of_lt_of_le (PySem.Flt.log2_lt_of h0 hb) h9
/-! ### ratios as objects -/
def pf (p q : Int) : List (Str × V) := putF "den" (.int q) (putF "num" (.int p) [])
theorem nd_ : ¬ (("num" : Str) = "den") := by decide +kernel
theorem pf_num (p q : Int) : (pf p q).lookup ("num" : Str) = some (.int p) := by
  unfold pf
  rw [lookup_putF, if_neg nd_, lookup_putF, if_pos rfl]
theorem pf_den (p q : Int) : (pf p q).lookup ("den" : Str) = some (.int q) := by
  unfold pf
  rw [lookup_putF, if_pos rfl]
theorem pf_no (p q : Int) {m : Str} (h1 : ¬ m = "num") (h2 : ¬ m = "den") : (pf p q).lookup m = none := by
  unfold pf
  rw [lookup_putF, if_neg h2, lookup_putF, if_neg h1]
  rfl
/-- at r a ratio p / q -/
def RatAt (C : Addr) (H : Hp) (r : Addr) (p q : Int) : Prop := ∃ dx, H r = some (.ins C dx (pf p q))
theorem no_below (p q : Int) : (pf p q).lookup ("below" : Str) = none := pf_no _ _ (by decide +kernel) (by decide +kernel)
theorem no_at_most (p q : Int) : (pf p q).lookup ("at_most" : Str) = none := pf_no _ _ (by decide +kernel) (by decide +kernel)
theorem no_over (p q : Int) : (pf p q).lookup ("over" : Str) = none := pf_no _ _ (by decide +kernel) (by decide +kernel)
theorem no_sign (p q : Int) : (pf p q).lookup ("sign" : Str) = none := pf_no _ _ (by decide +kernel) (by decide +kernel)
theorem RatAt.same {C : Addr} {H H' : Hp} {r : Addr} {p q : Int} (h : RatAt C H r p q) (s : Same H H') : RatAt C H' r p q := by
  obtain ⟨dx, e⟩ := h
  exact ⟨dx, s _ _ e⟩
/-- an operator of an own class: both are its instances -/
def rBin (C : Addr) (sp : Sp) (E : XK) : R2 := fun x y H Q => ∃ a dx fs b dy gs, x = .ref a ∧ y = .ref b ∧ H a = some (.ins C dx fs) ∧ H b = some (.ins C dy gs) ∧ sp [x, y] H Q E
theorem op_bin {X : Cx} {op : Operator} {C g : Addr} {n : Nat} {fd : FuncData} {ps : List Str} {sp : Sp} {E : XK} {CX : CXT} (hc : PySem.W.selfFirst X.K C = true) (m : Meth X.K C (PySem.dunder op.info.2) g)
    (F : FnOk X.prog X.w X.K X.mg X.base CX n g fd ps sp) (hr : Room n X.A) (hb : Binds X.K fd ps []) (hx : Passes CX X E) : OpR X (binaryOp op) (rBin C sp E) := by
  intro pins s σ H x y v u Q I rx ry h
  obtain ⟨a, dx, fs, b, dy, gs, rfl, rfl, ha, hb', q⟩ := h
  cases (show v = Value.ref a from rx)
  cases (show u = Value.ref b from ry)
  obtain ⟨mA, O, _⟩ := ins_get I.hok ha
  obtain ⟨od, J, _⟩ := O.look
  obtain ⟨mA', O', _⟩ := ins_get I.hok hb'
  obtain ⟨od', J', _⟩ := O'.look
  obtain ⟨mm, hF⟩ := I.fr
  refine PySem.W.binop_K hF I.ok.mod.kin J J'.type hc m.at_ m.fn ?_
  refine wpAny_mono (run_fn (vs := [.ref a, .ref b]) (dvs := []) (ds := []) F hr hb .nil hx I (.cons rfl (.cons rfl .nil)) q) (fun w s' z => ?_) fun _ _ x => x
  obtain ⟨z', H', I', rz, qz⟩ := z
  exact SlX.cmpback rz ⟨z', H', I', rz, qz⟩
def rNeg (C : Addr) (sp : Sp) (E : XK) : V → Hp → VK → Prop := fun x H Q => ∃ a dx fs, x = .ref a ∧ H a = some (.ins C dx fs) ∧ sp [x] H Q E
theorem un_own {X : Cx} {C g : Addr} {n : Nat} {fd : FuncData} {ps : List Str} {sp : Sp} {E : XK} {CX : CXT} (m : Meth X.K C "__neg__" g)
    (F : FnOk X.prog X.w X.K X.mg X.base CX n g fd ps sp) (hr : Room n X.A) (hb : Binds X.K fd ps []) (hx : Passes CX X E) : UnR X (unaryOp .USub) (rNeg C sp E) := by
  intro pins s σ H x v Q I rx h
  obtain ⟨a, dx, fs, rfl, ha, q⟩ := h
  cases (show v = Value.ref a from rx)
  obtain ⟨mA, O, _⟩ := ins_get I.hok ha
  obtain ⟨od, J, _⟩ := O.look
  obtain ⟨mm, hF⟩ := I.fr
  refine PySem.W.ksp_neg hF I.ok.mod.kin J m.at_ m.fn ?_
  exact run_fn (vs := [.ref a]) (dvs := []) (ds := []) F hr hb .nil hx I (.cons rfl .nil) q
theorem op_cmp {X : Cx} {op : CmpOp} {C g : Addr} {n : Nat} {fd : FuncData} {ps : List Str} {sp : Sp} {E : XK} {CX : CXT} (hop : ∀ a b, compareOp op a b = richCompare op a b) (m : Meth X.K C (PySem.cmpInfo op).2.1 g)
    (F : FnOk X.prog X.w X.K X.mg X.base CX n g fd ps sp) (hr : Room n X.A) (hb : Binds X.K fd ps []) (hx : Passes CX X E) : OpR X (compareOp op) (rBin C sp E) := by
  intro pins s σ H x y v u Q I rx ry h
  obtain ⟨a, dx, fs, b, dy, gs, rfl, rfl, ha, hb', q⟩ := h
  cases (show v = Value.ref a from rx)
  cases (show u = Value.ref b from ry)
  obtain ⟨mA, O, _⟩ := ins_get I.hok ha
  obtain ⟨od, J, _⟩ := O.look
  obtain ⟨mA', O', _⟩ := ins_get I.hok hb'
  obtain ⟨od', J', _⟩ := O'.look
  obtain ⟨mm, hF⟩ := I.fr
  rw [hop]
  refine PySem.W.cmp_K (op := op) (tb := .ref C) hr.units0 hF I.ok.mod.kin J J'.type (by unfold PySem.W.notFirst; simp) m.at_ m.fn ?_
  refine wpAny_mono (run_fn (vs := [.ref a, .ref b]) (dvs := []) (ds := []) F hr hb .nil hx I (.cons rfl (.cons rfl .nil)) q) (fun w s' z => ?_) fun _ _ x => x
  obtain ⟨z', H', I', rz, qz⟩ := z
  exact SlX.cmpback rz ⟨z', H', I', rz, qz⟩
theorem rt_of {p q n d n' d' : Int} (h : Rt p q n d) (hd : d ≠ 0) (e : n * d' = n' * d) : Rt p q n' d' := by
  obtain ⟨h1, h2, h3⟩ := h
  refine ⟨h1, h2, Int.eq_of_mul_eq_mul_right hd ?_⟩
  grind
theorem lt_of {x : Int} {a b : Nat} (h : x.natAbs < 2 ^ a) (l : a ≤ b) : x.natAbs < 2 ^ b := Nat.lt_of_lt_of_le h (Nat.pow_le_pow_right (by decide) l)
theorem add_lt {x y : Int} {a : Nat} (h : x.natAbs < 2 ^ a) (g : y.natAbs < 2 ^ a) : (x + y).natAbs < 2 ^ (a + 1) := by
  rw [Nat.pow_succ]
  omega
theorem sub_lt {x y : Int} {a : Nat} (h : x.natAbs < 2 ^ a) (g : y.natAbs < 2 ^ a) : (x - y).natAbs < 2 ^ (a + 1) := by
  rw [Nat.pow_succ]
  omega
theorem rt_lt {p q u v a b c d : Int} (h : Rt p q a b) (g : Rt u v c d) (hb : 0 < b) (hd : 0 < d) : (p * v < u * q ↔ a * d < c * b) ∧ (p * v ≤ u * q ↔ a * d ≤ c * b) ∧ ((p = u ∧ q = v) ↔ a * d = c * b) := by
  obtain ⟨q0, _, e1⟩ := id h
  obtain ⟨v0, _, e2⟩ := id g
  have k1 : (p * v) * (b * d) = (a * d) * (q * v) := by grind
  have k2 : (u * q) * (b * d) = (c * b) * (q * v) := by grind
  have h1 : 0 < b * d := Int.mul_pos hb hd
  have h2 : 0 < q * v := Int.mul_pos q0 v0
  refine ⟨?_, ?_, ?_⟩
  · rw [← Int.mul_lt_mul_right h1, k1, k2, Int.mul_lt_mul_right h2]
  · rw [← Int.mul_le_mul_right h1, k1, k2, Int.mul_le_mul_right h2]
  · constructor
    · rintro ⟨rfl, rfl⟩
      have := k1.symm.trans k2
      exact Int.eq_of_mul_eq_mul_right (by omega) this
    · intro e
      exact rt_uniq h g (by omega) (by omega) e

/-! ### lists of tracked things beside lists of numbers -/
theorem pget {α β : Type} {R : α → β → Prop} : ∀ {xs : List α} {ys : List β} {i : Nat} {x : α}, Paired R xs ys → xs[i]? = some x → ∃ y, ys[i]? = some y ∧ R x y
  | _, _, i, x, .nil, e => by simp at e
  | _, _, 0, x, .cons r _, e => by
    cases e
    exact ⟨_, rfl, r⟩
  | _, _, i + 1, x, .cons _ t, e => by
    rw [List.getElem?_cons_succ] at e
    rw [List.getElem?_cons_succ]
    exact pget t e
theorem pget' {α β : Type} {R : α → β → Prop} : ∀ {xs : List α} {ys : List β} {i : Nat} {y : β}, Paired R xs ys → ys[i]? = some y → ∃ x, xs[i]? = some x ∧ R x y
  | _, _, i, x, .nil, e => by simp at e
  | _, _, 0, x, .cons r _, e => by
    cases e
    exact ⟨_, rfl, r⟩
  | _, _, i + 1, x, .cons _ t, e => by
    rw [List.getElem?_cons_succ] at e
    rw [List.getElem?_cons_succ]
    exact pget' t e
/-- the instances stay -/
def KeepI (H H' : Hp) : Prop := ∀ b C dx fs, H b = some (.ins C dx fs) → H' b = some (.ins C dx fs)
theorem keepI_of {H H' : Hp} (s : Same H H') : KeepI H H' := fun b _ _ _ h => s b _ h
theorem KeepI.trans {H H1 H2 : Hp} (a : KeepI H H1) (b : KeepI H1 H2) : KeepI H H2 := fun c x y z h => b c x y z (a c x y z h)
theorem keepI_lst {H : Hp} {p : Addr} {xs ys : List V} (h : H p = some (.lst xs)) : KeepI H (upd H p (.lst ys)) := fun b C dx fs e => by
  have n : b ≠ p := fun q => by rw [q, h] at e; cases e
  rw [upd_ne n]
  exact e
/-- a tuple of two ints -/
def TupV (H : Hp) (v : V) (t : Int × Int) : Prop := ∃ a, v = .ref a ∧ H a = some (.tup [.int t.1, .int t.2])
theorem TupV.keep {H H' : Hp} (k : KeepT H H') {v : V} {t : Int × Int} (h : TupV H v t) : TupV H' v t := by
  obtain ⟨a, e, q⟩ := h
  exact ⟨a, e, k _ _ q⟩
/-- a ratio made of num and den -/
def RatT (C : Addr) (H : Hp) (v : V) (t : Int × Int) : Prop := ∃ a p q, v = .ref a ∧ RatAt C H a p q ∧ Rt p q t.1 t.2 ∧ p.natAbs ≤ t.1.natAbs ∧ q.natAbs ≤ t.2.natAbs
theorem RatT.keep {C : Addr} {H H' : Hp} (k : KeepI H H') {v : V} {t : Int × Int} (h : RatT C H v t) : RatT C H' v t := by
  obtain ⟨a, p, q, e, ⟨dx, r⟩, m⟩ := h
  exact ⟨a, p, q, e, ⟨dx, k _ _ _ _ r⟩, m⟩
/-- a ratio as it stands -/
def RatZ (C : Addr) (H : Hp) (v : V) (z : Int × Int) : Prop := ∃ a, v = .ref a ∧ RatAt C H a z.1 z.2
def RtZ (z t : Int × Int) : Prop := Rt z.1 z.2 t.1 t.2 ∧ z.1.natAbs ≤ t.1.natAbs ∧ z.2.natAbs ≤ t.2.natAbs
theorem ratZ_of {C : Addr} {H : Hp} : ∀ {xs : List V} {ts : List (Int × Int)}, Paired (RatT C H) xs ts → ∃ zs, Paired (RatZ C H) xs zs ∧ Paired RtZ zs ts
  | _, _, .nil => ⟨[], .nil, .nil⟩
  | _, _, .cons ⟨a, p, q, e, r, m⟩ t => by
    obtain ⟨zs, h1, h2⟩ := ratZ_of t
    exact ⟨(p, q) :: zs, .cons ⟨a, e, r⟩ h1, .cons m h2⟩
theorem paired_snoc_take {α β : Type} {R : α → β → Prop} {xs : List α} {ys : List β} {i : Nat} {x : α} {y : β} (h : Paired R xs (ys.take i)) (e : ys[i]? = some y) (r : R x y) : Paired R (xs ++ [x]) (ys.take (i + 1)) := by
  rw [List.take_add_one, e]
  exact Paired.snoc h r


/-! ### sums of fractions -/
def fadd (f z : Int × Int) : Int × Int := (f.1 * z.2 + z.1 * f.2, f.2 * z.2)
def fsum (zs : List (Int × Int)) : Int × Int := zs.foldl fadd (0, 1)
theorem fsum_snoc {zs : List (Int × Int)} {i : Nat} {z : Int × Int} (h : zs[i]? = some z) : fsum (zs.take (i + 1)) = fadd (fsum (zs.take i)) z := by
  unfold fsum
  rw [List.take_add_one, h, List.foldl_append]
  rfl
theorem fold_fpos : ∀ (zs : List (Int × Int)) (f : Int × Int), 0 < f.2 → (∀ z ∈ zs, 0 < z.2) → 0 < (zs.foldl fadd f).2
  | [], f, h, _ => h
  | z :: r, f, h, hz => fold_fpos r (fadd f z) (Int.mul_pos h (hz z List.mem_cons_self)) fun y hy => hz y (List.mem_cons_of_mem _ hy)
theorem fsum_pos {zs : List (Int × Int)} (h : ∀ z ∈ zs, 0 < z.2) : 0 < (fsum zs).2 := fold_fpos zs (0, 1) (by decide) h
/-- fractions over one denominator -/
theorem fold_over {w : Int} : ∀ {zs : List (Int × Int)} {nl : List Int} (f : Int × Int) (m : Int), Paired (fun (z : Int × Int) (n : Int) => z.1 * w = n * z.2) zs nl → f.1 * w = m * f.2 → (zs.foldl fadd f).1 * w = (m + nl.sum) * (zs.foldl fadd f).2
  | _, _, f, m, .nil, h => by rw [List.sum_nil, Int.add_zero]; exact h
  | _, _, f, m, .cons (a := z) (b := n) e t, h => by
    have step : (fadd f z).1 * w = (m + n) * (fadd f z).2 := by
      unfold fadd
      dsimp only
      grind
    have q := fold_over (fadd f z) (m + n) t step
    rw [List.sum_cons, ← Int.add_assoc]
    exact q
theorem fsum_over {w : Int} {zs : List (Int × Int)} {nl : List Int} (h : Paired (fun (z : Int × Int) (n : Int) => z.1 * w = n * z.2) zs nl) : (fsum zs).1 * w = nl.sum * (fsum zs).2 := by
  have q := fold_over (0, 1) 0 h (by rw [Int.zero_mul, Int.zero_mul])
  rw [Int.zero_add] at q
  exact q

theorem cut_mid (xs : List V) (a b : Nat) (h : a ≤ b) : cutV xs (some (a : Int)) (some (b : Int)) = (xs.drop a).take (b - a) := by
  unfold cutV
  rw [HT.sIx_nat, HT.sIx_nat]
  by_cases h1 : a ≤ xs.length
  · rw [Nat.min_eq_left h1]
    by_cases h2 : b ≤ xs.length
    · rw [Nat.min_eq_left h2]
    · rw [Nat.min_eq_right (by omega), List.take_of_length_le (by rw [List.length_drop]; omega), List.take_of_length_le (by rw [List.length_drop]; omega)]
  · rw [Nat.min_eq_right (show xs.length ≤ a by omega), Nat.min_eq_right (show xs.length ≤ b by omega), List.drop_eq_nil_of_le (Nat.le_refl _), List.drop_eq_nil_of_le (show xs.length ≤ a by omega)]
    simp
theorem ixN_ok {n : Nat} {k : Int} (h0 : 0 ≤ k) (h1 : k < n) : ixN n k = some k.toNat := by
  unfold ixN
  rw [if_pos h0, if_pos h1]
theorem sum_abs : ∀ {l : List Int} {b : Nat}, (∀ x ∈ l, x.natAbs ≤ b) → l.sum.natAbs ≤ b * l.length
  | [], b, _ => by simp
  | x :: r, b, h => by
    have h1 := h x List.mem_cons_self
    have h2 := sum_abs fun y hy => h y (List.mem_cons_of_mem x hy)
    rw [List.sum_cons, List.length_cons, Nat.mul_add, Nat.mul_one]
    omega
theorem same_refs {C : Addr} {K : PySem.W.Frag} {H : Hp} : ∀ {rs : List V} {ts : List (Int × Int)}, Paired (RatT C H) rs ts → Paired (EqV K H 1) rs rs
  | _, _, .nil => .nil
  | _, _, .cons ⟨a, _, _, e, _⟩ t => .cons (.inr (.inl ⟨a, e, e⟩)) (same_refs t)
theorem eq_room {A : Around} {k : Nat} (h : Room k A) : A.units + 64 < cLine := by
  have := h.un
  omega
def nonneg (w : Int) (l : List Int) : Bool := l.all fun n => !decide (n * w < 0)
theorem nonneg_snoc {w : Int} {l : List Int} {i : Nat} {n : Int} (h : l[i]? = some n) : nonneg w (l.take (i + 1)) = (nonneg w (l.take i) && !decide (n * w < 0)) := by
  unfold nonneg
  rw [List.take_add_one, h, List.all_append]
  simp

structure Txt (K : PySem.W.Frag) (mg : Str → Option Value) where
  C_Ratio : Addr
  a_Ratio_init : Addr
  d_Ratio_init : FuncData
  F_Ratio_init : FunD K "__init__" "Ratio.__init__" (defArgs s_Ratio_init) (defBody s_Ratio_init) (defScope s_Ratio_init) [.int 1] [] a_Ratio_init d_Ratio_init
  ds_Ratio_init : List Value
  v_Ratio_init : Vals [.int 1] ds_Ratio_init
  bd_Ratio_init : Binds K d_Ratio_init ["self", "num", "den"] ds_Ratio_init
  b_Ratio_init : Binds K d_Ratio_init ["self", "num", "den"] []
  mk_Ratio : Mk K C_Ratio a_Ratio_init
  a_Ratio_add : Addr
  d_Ratio_add : FuncData
  F_Ratio_add : Fun K "__add__" "Ratio.__add__" s_Ratio_add a_Ratio_add d_Ratio_add
  b_Ratio_add : Binds K d_Ratio_add ["self", "other"] []
  me_Ratio_add : Meth K C_Ratio "__add__" a_Ratio_add
  a_Ratio_sub : Addr
  d_Ratio_sub : FuncData
  F_Ratio_sub : Fun K "__sub__" "Ratio.__sub__" s_Ratio_sub a_Ratio_sub d_Ratio_sub
  b_Ratio_sub : Binds K d_Ratio_sub ["self", "other"] []
  me_Ratio_sub : Meth K C_Ratio "__sub__" a_Ratio_sub
  a_Ratio_mul : Addr
  d_Ratio_mul : FuncData
  F_Ratio_mul : Fun K "__mul__" "Ratio.__mul__" s_Ratio_mul a_Ratio_mul d_Ratio_mul
  b_Ratio_mul : Binds K d_Ratio_mul ["self", "other"] []
  me_Ratio_mul : Meth K C_Ratio "__mul__" a_Ratio_mul
  a_Ratio_neg : Addr
  d_Ratio_neg : FuncData
  F_Ratio_neg : Fun K "__neg__" "Ratio.__neg__" s_Ratio_neg a_Ratio_neg d_Ratio_neg
  b_Ratio_neg : Binds K d_Ratio_neg ["self"] []
  me_Ratio_neg : Meth K C_Ratio "__neg__" a_Ratio_neg
  a_Ratio_eq : Addr
  d_Ratio_eq : FuncData
  F_Ratio_eq : Fun K "__eq__" "Ratio.__eq__" s_Ratio_eq a_Ratio_eq d_Ratio_eq
  b_Ratio_eq : Binds K d_Ratio_eq ["self", "other"] []
  me_Ratio_eq : Meth K C_Ratio "__eq__" a_Ratio_eq
  a_Ratio_ne : Addr
  d_Ratio_ne : FuncData
  F_Ratio_ne : Fun K "__ne__" "Ratio.__ne__" s_Ratio_ne a_Ratio_ne d_Ratio_ne
  b_Ratio_ne : Binds K d_Ratio_ne ["self", "other"] []
  me_Ratio_ne : Meth K C_Ratio "__ne__" a_Ratio_ne
  a_Ratio_sign : Addr
  d_Ratio_sign : FuncData
  F_Ratio_sign : Fun K "sign" "Ratio.sign" s_Ratio_sign a_Ratio_sign d_Ratio_sign
  b_Ratio_sign : Binds K d_Ratio_sign ["self"] []
  me_Ratio_sign : Meth K C_Ratio "sign" a_Ratio_sign
  a_total : Addr
  d_total : FuncData
  F_total : Fun K "total" "total" s_total a_total d_total
  b_total : Binds K d_total ["ratios"] []
  m_total : mg "total" = some (.ref a_total)
  a_are_lots : Addr
  d_are_lots : FuncData
  F_are_lots : Fun K "are_lots" "are_lots" s_are_lots a_are_lots d_are_lots
  b_are_lots : Binds K d_are_lots ["ratios"] []
  m_are_lots : mg "are_lots" = some (.ref a_are_lots)
  a_law_cell : Addr
  d_law_cell : FuncData
  F_law_cell : Fun K "_law_cell" "_law_cell" s_law_cell a_law_cell d_law_cell
  b_law_cell : Binds K d_law_cell ["script", "k"] []
  m_law_cell : mg "_law_cell" = some (.ref a_law_cell)
  a_law_bool : Addr
  d_law_bool : FuncData
  F_law_bool : Fun K "_law_bool" "_law_bool" s_law_bool a_law_bool d_law_bool
  b_law_bool : Binds K d_law_bool ["actual", "due"] []
  m_law_bool : mg "_law_bool" = some (.ref a_law_bool)
  a_law : Addr
  d_law : FuncData
  F_law : Fun K "law" "law" s_law a_law d_law
  b_law : Binds K d_law ["script"] []
  m_law : mg "law" = some (.ref a_law)
  m_Ratio : mg "Ratio" = some (.ref C_Ratio)
  cl_Ratio : Cls K C_Ratio
  n_Ratio_num : NoAttr K C_Ratio "num"
  n_Ratio_den : NoAttr K C_Ratio "den"
  sf_Ratio : PySem.W.selfFirst K C_Ratio = true
  ic_Ratio : C8.InsC K C_Ratio
  g_gcd : mg "gcd" = some (.builtin "math.gcd")
  z_all : mg "all" = none
  z_bool : mg "bool" = none
  z_int : mg "int" = none
  z_isinstance : mg "isinstance" = none
  z_len : mg "len" = none
  z_list : mg "list" = none
  z_max : mg "max" = none
  z_sum : mg "sum" = none
section
variable {P : Program} {w : World} {K : PySem.W.Frag} {mg : Str → Option Value} {base : Heap}
/-! ### Ratio.__init__ -/
def sp_Ratio_init (T : Txt K mg) : Sp := fun vs H Q _ => ∃ (x dx : Addr) (n d : Int), vs = [.ref x, .int n, .int d] ∧ H x = some (.ins T.C_Ratio dx []) ∧ d ≠ 0 ∧ d.natAbs < 2 ^ 8000 ∧
  ∀ (p q : Int) (H' : Hp), (∀ b o, b ≠ x → H b = some o → H' b = some o) → H' x = some (.ins T.C_Ratio dx (pf p q)) → Rt p q n d → p.natAbs ≤ n.natAbs → q.natAbs ≤ d.natAbs → Q .non H'

theorem ok_Ratio_init (T : Txt K mg) : FnOk P w K mg base CX0 3 T.a_Ratio_init T.d_Ratio_init ["self", "num", "den"] (sp_Ratio_init T) := by
  refine T.F_Ratio_init.ok sc_Ratio_init (fun vs H Q E h => ?_) (fun cdv A outer s H vs Q E hr h => ?_)
  · obtain ⟨x, dx, n, d, rfl, _⟩ := h
    rfl
  obtain ⟨x, dx, n, d, rfl, hx, hd, hb, q⟩ := h
  refine ⟨_, PSs.nox (pss_cons (ps_if (pt_cmpR op_eq (pv 2) pe_int (nomark _)) (pss_one (ps_never)) pss_nil)
      (pss_cons (ps_set (i := 3) sc_Ratio_init.nd rfl (by first | exact Or.inl rfl | exact Or.inr rfl) (pe_callBfun cr_gcd (by rfl) T.g_gcd (pa_cons (pv 1) (pa_cons (pv 2) pa_nil))))
      (C8.pss_cut (ps_if (pt_cmpR op_lt (pv 2) pe_int (nomark _)) (pss_one (ps_set (i := 3) sc_Ratio_init.nd rfl (by first | exact Or.inl rfl | exact Or.inr rfl) (pe_un un_neg (pv 3)))) pss_nil)
      (pss_cons (ps_fld (pv 0) (pe_op op_fdivX (pv 1) (pv 3)) rfl)
      (pss_one (ps_fld (pv 0) (pe_op op_fdivX (pv 2) (pv 3)) rfl)))))), ?_⟩
  refine ⟨_, rfl, rfl, _, rfl, ite2 (fun c => absurd (V.int.inj (of_decide_eq_true c)) hd) (fun _ => ?_)⟩
  refine ⟨_, rfl, _, rfl, n, d, rfl, ?_⟩
  refine ⟨fun σ' H' => σ' = [some (.ref x), some (.int n), some (.int d), some (.int (fac n d))] ∧ H' = H, ?_, ?_⟩
  · refine ⟨_, rfl, _, _, rfl, rfl, _, rfl, ite2 (fun c => ?_) (fun c => ?_)⟩
    · have c' : d < 0 := of_decide_eq_true c
      refine ⟨_, rfl, _, rfl, ?_, rfl⟩
      unfold fac
      rw [if_pos c']
      rfl
    · have c' : ¬ d < 0 := fun z => c (decide_eq_true z)
      refine ⟨?_, rfl⟩
      unfold fac
      rw [if_neg c']
      rfl
  rintro σ1 H1 ⟨rfl, rfl⟩
  have hf := fac_ne (n := n) hd
  have hg : (fac n d).natAbs < 2 ^ 8000 := by
    rw [fac_abs]
    exact Nat.lt_of_le_of_lt (Nat.le_of_dvd (Int.natAbs_pos.mpr hd) (Nat.gcd_dvd_right _ _)) hb
  have hl := log_lt hg (by omega) (by omega)
  obtain ⟨r1, r2, r3⟩ := rt_made (n := n) hd
  refine ⟨_, rfl, _, rfl, _, _, rfl, rfl, ⟨hf, hl⟩, _, rfl, x, T.C_Ratio, dx, [], rfl, hx, T.cl_Ratio, T.n_Ratio_num, by show 0 < 1000; decide, ?_⟩
  refine ⟨_, rfl, _, rfl, _, _, rfl, rfl, ⟨hf, hl⟩, _, rfl, x, T.C_Ratio, dx, _, rfl, upd_same, T.cl_Ratio, T.n_Ratio_den, by show 1 < 1000; decide, ?_⟩
  rw [upd_upd]
  exact q _ _ _ (fun b o n e => by rw [upd_ne n]; exact e) upd_same r1 r2 r3
/-! ### Ratio.__add__ -/
theorem make_ratio (T : Txt K mg) {H : Hp} {R : Addr → Hp → Prop} {E : XK} {n d : Int} (hd : d ≠ 0) (hb : d.natAbs < 2 ^ 8000)
    (k : ∀ (r : Addr) (p q : Int) (H' : Hp), Same H H' → H r = none → RatAt T.C_Ratio H' r p q → Rt p q n d → p.natAbs ≤ n.natAbs → q.natAbs ≤ d.natAbs → R r H') :
    ∀ x dx, H x = none → H dx = none → dx ≠ x → sp_Ratio_init T [.ref x, .int n, .int d] (upd (upd H dx (.own x)) x (.ins T.C_Ratio dx [])) (fun v H2 => v = .non ∧ R x H2) E := by
  intro x dx nx nd ne
  refine ⟨x, dx, n, d, rfl, upd_same, hd, hb, fun p q H' hk hx hr hp hq => ⟨rfl, ?_⟩⟩
  refine k x p q H' (fun b o e => hk b o (ne_of_none e nx) ?_) nx ⟨dx, hx⟩ hr hp hq
  rw [upd_ne (ne_of_none e nx), upd_ne (ne_of_none e nd)]
  exact e
/-- two ratios given, one made of num and den -/
def sp2 (T : Txt K mg) (num den : Int → Int → Int → Int → Int) : Sp := fun vs H Q _ => ∃ (a b : Addr) (p q u v : Int), vs = [.ref a, .ref b] ∧ RatAt T.C_Ratio H a p q ∧ RatAt T.C_Ratio H b u v ∧ 0 < q ∧ 0 < v ∧ p.natAbs < 2 ^ 2000 ∧ q.natAbs < 2 ^ 2000 ∧ u.natAbs < 2 ^ 2000 ∧ v.natAbs < 2 ^ 2000 ∧
  ∀ (r : Addr) (p' q' : Int) (H' : Hp), Same H H' → H r = none → RatAt T.C_Ratio H' r p' q' → Rt p' q' (num p q u v) (den p q u v) → p'.natAbs ≤ (num p q u v).natAbs → q'.natAbs ≤ (den p q u v).natAbs → Q (.ref r) H'
def sp_Ratio_add (T : Txt K mg) : Sp := sp2 T (fun p q u v => p * v + u * q) (fun _ q _ v => q * v)

theorem ok_Ratio_add (T : Txt K mg) : FnOk P w K mg base CX0 5 T.a_Ratio_add T.d_Ratio_add ["self", "other"] (sp_Ratio_add T) := by
  refine T.F_Ratio_add.ok sc_Ratio_add (fun vs H Q E h => ?_) (fun cdv A outer s H vs Q E hr h => ?_)
  · obtain ⟨a, b, p, q, u, v, rfl, _⟩ := h
    rfl
  obtain ⟨a, b, p, q, u, v, rfl, ⟨da, ha⟩, ⟨db, hb⟩, q0, v0, hp, hq, hu, hv, k⟩ := h
  refine ⟨_, (pss_one (ps_ret (pe_make T.mk_Ratio (ok_Ratio_init T) (hr.mono (by decide)) (by rfl) T.m_Ratio T.b_Ratio_init .nil pass0 (pa_cons (pe_op op_add (pe_op op_mulW (pe_fld (pv 0) rfl) (pe_fld (pv 1) rfl)) (pe_op op_mulW (pe_fld (pv 1) rfl) (pe_fld (pv 0) rfl))) (pa_cons (pe_op op_mulW (pe_fld (pv 0) rfl) (pe_fld (pv 1) rfl)) pa_nil))))), ?_⟩
  refine ⟨_, rfl, a, T.C_Ratio, da, _, _, rfl, ha, T.cl_Ratio, T.n_Ratio_num, pf_num _ _, _, rfl, b, T.C_Ratio, db, _, _, rfl, hb, T.cl_Ratio, T.n_Ratio_den, pf_den _ _, _, _, rfl, rfl, wide_mul hp hv (by decide) (by decide) (by decide), ?_⟩
  refine ⟨_, rfl, b, T.C_Ratio, db, _, _, rfl, hb, T.cl_Ratio, T.n_Ratio_num, pf_num _ _, _, rfl, a, T.C_Ratio, da, _, _, rfl, ha, T.cl_Ratio, T.n_Ratio_den, pf_den _ _, _, _, rfl, rfl, wide_mul hu hq (by decide) (by decide) (by decide), _, _, rfl, rfl, ?_⟩
  refine ⟨_, rfl, a, T.C_Ratio, da, _, _, rfl, ha, T.cl_Ratio, T.n_Ratio_den, pf_den _ _, _, rfl, b, T.C_Ratio, db, _, _, rfl, hb, T.cl_Ratio, T.n_Ratio_den, pf_den _ _, _, _, rfl, rfl, wide_mul hq hv (by decide) (by decide) (by decide), ?_⟩
  exact make_ratio T (Int.mul_ne_zero (by omega) (by omega)) (Nat.lt_of_lt_of_le (wide_lt hq hv) (Nat.pow_le_pow_right (by decide) (by decide))) k
/-! ### Ratio.__sub__ -/
def sp_Ratio_sub (T : Txt K mg) : Sp := sp2 T (fun p q u v => p * v - u * q) (fun _ q _ v => q * v)

theorem ok_Ratio_sub (T : Txt K mg) : FnOk P w K mg base CX0 5 T.a_Ratio_sub T.d_Ratio_sub ["self", "other"] (sp_Ratio_sub T) := by
  refine T.F_Ratio_sub.ok sc_Ratio_sub (fun vs H Q E h => ?_) (fun cdv A outer s H vs Q E hr h => ?_)
  · obtain ⟨a, b, p, q, u, v, rfl, _⟩ := h
    rfl
  obtain ⟨a, b, p, q, u, v, rfl, ⟨da, ha⟩, ⟨db, hb⟩, q0, v0, hp, hq, hu, hv, k⟩ := h
  refine ⟨_, (pss_one (ps_ret (pe_make T.mk_Ratio (ok_Ratio_init T) (hr.mono (by decide)) (by rfl) T.m_Ratio T.b_Ratio_init .nil pass0 (pa_cons (pe_op op_sub (pe_op op_mulW (pe_fld (pv 0) rfl) (pe_fld (pv 1) rfl)) (pe_op op_mulW (pe_fld (pv 1) rfl) (pe_fld (pv 0) rfl))) (pa_cons (pe_op op_mulW (pe_fld (pv 0) rfl) (pe_fld (pv 1) rfl)) pa_nil))))), ?_⟩
  refine ⟨_, rfl, a, T.C_Ratio, da, _, _, rfl, ha, T.cl_Ratio, T.n_Ratio_num, pf_num _ _, _, rfl, b, T.C_Ratio, db, _, _, rfl, hb, T.cl_Ratio, T.n_Ratio_den, pf_den _ _, _, _, rfl, rfl, wide_mul hp hv (by decide) (by decide) (by decide), ?_⟩
  refine ⟨_, rfl, b, T.C_Ratio, db, _, _, rfl, hb, T.cl_Ratio, T.n_Ratio_num, pf_num _ _, _, rfl, a, T.C_Ratio, da, _, _, rfl, ha, T.cl_Ratio, T.n_Ratio_den, pf_den _ _, _, _, rfl, rfl, wide_mul hu hq (by decide) (by decide) (by decide), _, _, rfl, rfl, ?_⟩
  refine ⟨_, rfl, a, T.C_Ratio, da, _, _, rfl, ha, T.cl_Ratio, T.n_Ratio_den, pf_den _ _, _, rfl, b, T.C_Ratio, db, _, _, rfl, hb, T.cl_Ratio, T.n_Ratio_den, pf_den _ _, _, _, rfl, rfl, wide_mul hq hv (by decide) (by decide) (by decide), ?_⟩
  exact make_ratio T (Int.mul_ne_zero (by omega) (by omega)) (Nat.lt_of_lt_of_le (wide_lt hq hv) (Nat.pow_le_pow_right (by decide) (by decide))) k
/-! ### Ratio.__mul__ -/
def sp_Ratio_mul (T : Txt K mg) : Sp := sp2 T (fun p _ u _ => p * u) (fun _ q _ v => q * v)

theorem ok_Ratio_mul (T : Txt K mg) : FnOk P w K mg base CX0 5 T.a_Ratio_mul T.d_Ratio_mul ["self", "other"] (sp_Ratio_mul T) := by
  refine T.F_Ratio_mul.ok sc_Ratio_mul (fun vs H Q E h => ?_) (fun cdv A outer s H vs Q E hr h => ?_)
  · obtain ⟨a, b, p, q, u, v, rfl, _⟩ := h
    rfl
  obtain ⟨a, b, p, q, u, v, rfl, ⟨da, ha⟩, ⟨db, hb⟩, q0, v0, hp, hq, hu, hv, k⟩ := h
  refine ⟨_, (pss_one (ps_ret (pe_make T.mk_Ratio (ok_Ratio_init T) (hr.mono (by decide)) (by rfl) T.m_Ratio T.b_Ratio_init .nil pass0 (pa_cons (pe_op op_mulW (pe_fld (pv 0) rfl) (pe_fld (pv 1) rfl)) (pa_cons (pe_op op_mulW (pe_fld (pv 0) rfl) (pe_fld (pv 1) rfl)) pa_nil))))), ?_⟩
  refine ⟨_, rfl, a, T.C_Ratio, da, _, _, rfl, ha, T.cl_Ratio, T.n_Ratio_num, pf_num _ _, _, rfl, b, T.C_Ratio, db, _, _, rfl, hb, T.cl_Ratio, T.n_Ratio_num, pf_num _ _, _, _, rfl, rfl, wide_mul hp hu (by decide) (by decide) (by decide), ?_⟩
  refine ⟨_, rfl, a, T.C_Ratio, da, _, _, rfl, ha, T.cl_Ratio, T.n_Ratio_den, pf_den _ _, _, rfl, b, T.C_Ratio, db, _, _, rfl, hb, T.cl_Ratio, T.n_Ratio_den, pf_den _ _, _, _, rfl, rfl, wide_mul hq hv (by decide) (by decide) (by decide), ?_⟩
  exact make_ratio T (Int.mul_ne_zero (by omega) (by omega)) (Nat.lt_of_lt_of_le (wide_lt hq hv) (Nat.pow_le_pow_right (by decide) (by decide))) k
/-! ### Ratio.__neg__ -/
def sp_Ratio_neg (T : Txt K mg) : Sp := fun vs H Q _ => ∃ (a : Addr) (p q : Int), vs = [.ref a] ∧ RatAt T.C_Ratio H a p q ∧ 0 < q ∧ q.natAbs < 2 ^ 2000 ∧
  ∀ (r : Addr) (p' q' : Int) (H' : Hp), Same H H' → H r = none → RatAt T.C_Ratio H' r p' q' → Rt p' q' (-p) q → Q (.ref r) H'

theorem ok_Ratio_neg (T : Txt K mg) : FnOk P w K mg base CX0 5 T.a_Ratio_neg T.d_Ratio_neg ["self"] (sp_Ratio_neg T) := by
  refine T.F_Ratio_neg.ok sc_Ratio_neg (fun vs H Q E h => ?_) (fun cdv A outer s H vs Q E hr h => ?_)
  · obtain ⟨a, p, q, rfl, _⟩ := h
    rfl
  obtain ⟨a, p, q, rfl, ⟨da, ha⟩, q0, hq, k⟩ := h
  refine ⟨_, (pss_one (ps_ret (pe_make T.mk_Ratio (ok_Ratio_init T) (hr.mono (by decide)) (by rfl) T.m_Ratio T.b_Ratio_init .nil pass0 (pa_cons (pe_un un_neg (pe_fld (pv 0) rfl)) (pa_cons (pe_fld (pv 0) rfl) pa_nil))))), ?_⟩
  refine ⟨_, rfl, a, T.C_Ratio, da, _, _, rfl, ha, T.cl_Ratio, T.n_Ratio_num, pf_num _ _, _, rfl, _, rfl, a, T.C_Ratio, da, _, _, rfl, ha, T.cl_Ratio, T.n_Ratio_den, pf_den _ _, ?_⟩
  exact make_ratio T (by omega) (Nat.lt_of_lt_of_le hq (Nat.pow_le_pow_right (by decide) (by decide))) fun r p' q' H' s' nr hr' rt _ _ => k r p' q' H' s' nr hr' rt
/-! ### Ratio.__eq__ -/
def sp_Ratio_eq (T : Txt K mg) : Sp := fun vs H Q _ => ∃ (a b : Addr) (p q u v : Int), vs = [.ref a, .ref b] ∧ RatAt T.C_Ratio H a p q ∧ RatAt T.C_Ratio H b u v ∧ ∀ c : Bool, (c = true ↔ (p = u ∧ q = v)) → Q (.bl c) H

theorem ok_Ratio_eq (T : Txt K mg) : FnOk P w K mg base CX0 1 T.a_Ratio_eq T.d_Ratio_eq ["self", "other"] (sp_Ratio_eq T) := by
  refine T.F_Ratio_eq.ok sc_Ratio_eq (fun vs H Q E h => ?_) (fun cdv A outer s H vs Q E hr h => ?_)
  · obtain ⟨a, b, p, q, u, v, rfl, _⟩ := h
    rfl
  obtain ⟨a, b, p, q, u, v, rfl, ⟨da, ha⟩, ⟨db, hb⟩, k⟩ := h
  refine ⟨_, (pss_one (ps_ret (pe_and (pe_callB (C8.call_isC T.ic_Ratio) (by rfl) T.z_isinstance (by first | exact PySem.boot_isinstance | decide +kernel) (pa_cons (pv 1) (pa_cons (pe_glob (v := .ref T.C_Ratio) (by rfl) T.m_Ratio rfl) pa_nil))) (pe_and (pe_cmpR op_eq (pe_fld (pv 0) rfl) (pe_fld (pv 1) rfl) (nomark _)) (pe_one (pe_cmpR op_eq (pe_fld (pv 0) rfl) (pe_fld (pv 1) rfl) (nomark _))))))), ?_⟩
  refine ⟨_, rfl, b, db, _, rfl, hb, _, rfl, ?_⟩
  refine ⟨_, rfl, a, T.C_Ratio, da, _, _, rfl, ha, T.cl_Ratio, T.n_Ratio_num, pf_num _ _, _, rfl, b, T.C_Ratio, db, _, _, rfl, hb, T.cl_Ratio, T.n_Ratio_num, pf_num _ _, rfl, _, rfl, ite2 (fun e => ?_) (fun e => ?_)⟩
  · have e' : p = u := V.int.inj (of_decide_eq_true e)
    refine ⟨_, rfl, a, T.C_Ratio, da, _, _, rfl, ha, T.cl_Ratio, T.n_Ratio_den, pf_den _ _, _, rfl, b, T.C_Ratio, db, _, _, rfl, hb, T.cl_Ratio, T.n_Ratio_den, pf_den _ _, rfl, k _ ?_⟩
    rw [decide_eq_true_iff]
    exact ⟨fun z => ⟨e', V.int.inj z⟩, fun z => congrArg V.int z.2⟩
  · have e' : ¬ p = u := fun z => e (decide_eq_true (congrArg V.int z))
    exact k _ ⟨(fun z => by cases z), fun z => absurd z.1 e'⟩
/-! ### Ratio.__ne__ -/
def sp_Ratio_ne (T : Txt K mg) : Sp := fun vs H Q _ => ∃ (a b : Addr) (p q u v : Int), vs = [.ref a, .ref b] ∧ RatAt T.C_Ratio H a p q ∧ RatAt T.C_Ratio H b u v ∧ ∀ c : Bool, (c = true ↔ ¬ (p = u ∧ q = v)) → Q (.bl c) H

theorem ok_Ratio_ne (T : Txt K mg) : FnOk P w K mg base CX0 3 T.a_Ratio_ne T.d_Ratio_ne ["self", "other"] (sp_Ratio_ne T) := by
  refine T.F_Ratio_ne.ok sc_Ratio_ne (fun vs H Q E h => ?_) (fun cdv A outer s H vs Q E hr h => ?_)
  · obtain ⟨a, b, p, q, u, v, rfl, _⟩ := h
    rfl
  obtain ⟨a, b, p, q, u, v, rfl, ⟨da, ha⟩, ⟨db, hb⟩, k⟩ := h
  refine ⟨_, (pss_one (ps_ret (pe_not (pe_cmpR (op_cmp (fun _ _ => rfl) T.me_Ratio_eq (ok_Ratio_eq T) (hr.mono (by decide)) T.b_Ratio_eq pass0) (pv 0) (pv 1) (nomark _))))), ?_⟩
  refine ⟨_, rfl, _, rfl, a, da, _, b, db, _, rfl, rfl, ha, hb, a, b, p, q, u, v, rfl, ⟨da, ha⟩, ⟨db, hb⟩, fun c hc => ⟨c, rfl, k _ ?_⟩⟩
  rw [← hc]
  cases c <;> simp
/-! ### Ratio.sign -/
def sgn (p : Int) : Int := if p < 0 then -1 else if p > 0 then 1 else 0
def sp_Ratio_sign (T : Txt K mg) : Sp := fun vs H Q _ => ∃ (a : Addr) (p q : Int), vs = [.ref a] ∧ RatAt T.C_Ratio H a p q ∧ Q (.int (sgn p)) H

theorem ok_Ratio_sign (T : Txt K mg) : FnOk P w K mg base CX0 1 T.a_Ratio_sign T.d_Ratio_sign ["self"] (sp_Ratio_sign T) := by
  refine T.F_Ratio_sign.ok sc_Ratio_sign (fun vs H Q E h => ?_) (fun cdv A outer s H vs Q E hr h => ?_)
  · obtain ⟨a, p, q, rfl, _⟩ := h
    rfl
  obtain ⟨a, p, q, rfl, ⟨da, ha⟩, k⟩ := h
  unfold sgn at k
  refine ⟨_, (pss_cons (ps_if (pt_cmpR op_lt (pe_fld (pv 0) rfl) pe_int (nomark _)) (pss_one (ps_ret (pe_un un_neg pe_int))) pss_nil)
      (pss_one (ps_ret (pe_ifExp (pt_cmpR op_gt (pe_fld (pv 0) rfl) pe_int (nomark _)) pe_int pe_int)))), ?_⟩
  refine ⟨_, rfl, a, T.C_Ratio, da, _, _, rfl, ha, T.cl_Ratio, T.n_Ratio_num, pf_num _ _, _, _, rfl, rfl, _, rfl, ite2 (fun e => ?_) (fun e => ?_)⟩
  · have e' : p < 0 := of_decide_eq_true e
    rw [if_pos e'] at k
    exact ⟨_, rfl, k⟩
  · have e' : ¬ p < 0 := fun z => e (decide_eq_true z)
    rw [if_neg e'] at k
    refine ⟨_, rfl, a, T.C_Ratio, da, _, _, rfl, ha, T.cl_Ratio, T.n_Ratio_num, pf_num _ _, _, _, rfl, rfl, _, rfl, ite2 (fun e => ?_) (fun e => ?_)⟩
    · have e' : 0 < p := of_decide_eq_true e
      rw [if_pos e'] at k
      exact k
    · have e' : ¬ 0 < p := fun z => e (decide_eq_true z)
      rw [if_neg e'] at k
      exact k
/-! ### total -/
def sp_total (T : Txt K mg) : Sp := fun vs H Q _ => ∃ (L : Addr) (xs : List V) (zs : List (Int × Int)) (a : Nat), vs = [.ref L] ∧ SqL K H L xs ∧ Paired (RatZ T.C_Ratio H) xs zs ∧ (∀ z ∈ zs, 0 < z.2 ∧ z.1.natAbs < 2 ^ a ∧ z.2.natAbs < 2 ^ a) ∧ (a + 1) * zs.length ≤ 1800 ∧ a ≤ 1800 ∧
  ∀ (r : Addr) (p q : Int) (H' : Hp), Same H H' → RatAt T.C_Ratio H' r p q → Rt p q (fsum zs).1 (fsum zs).2 → p.natAbs < 2 ^ ((a + 1) * zs.length + 1) → q.natAbs < 2 ^ ((a + 1) * zs.length + 1) → Q (.ref r) H'

theorem ok_total (T : Txt K mg) : FnOk P w K mg base CX0 7 T.a_total T.d_total ["ratios"] (sp_total T) := by
  refine T.F_total.ok sc_total (fun vs H Q E h => ?_) (fun cdv A outer s H vs Q E hr h => ?_)
  · obtain ⟨L, xs, zs, a, rfl, _⟩ := h
    rfl
  obtain ⟨L, xs, zs, a, rfl, hL, hP, hz, hn, ha, k⟩ := h
  refine ⟨_, (pss_cons (ps_set (i := 1) sc_total.nd rfl (by first | exact Or.inl rfl | exact Or.inr rfl) (pe_make T.mk_Ratio (ok_Ratio_init T) (hr.mono (by decide)) (by rfl) T.m_Ratio T.bd_Ratio_init T.v_Ratio_init pass0 (pa_cons pe_int pa_nil)))
      (pss_cons (ps_for PassesOwn.never rfl (pi_list (pv 0)) (pg_name (i := 2) sc_total.nd rfl (by first | exact Or.inl rfl | exact Or.inr rfl)) (pss_one (ps_set (i := 1) sc_total.nd rfl (by first | exact Or.inl rfl | exact Or.inr rfl) (pe_op (op_bin T.sf_Ratio T.me_Ratio_add (ok_Ratio_add T) (hr.mono (by decide)) T.b_Ratio_add pass0) (pv 1) (pv 2)))))
      (pss_one (ps_ret (pv 1))))), ?_⟩
  have hlen := Paired.length hP
  refine make_ratio T (n := 0) (d := 1) (by decide) (by decide) fun w0 p0 q0 H1 s1 _ W0 r0 bp bq => ?_
  refine ⟨_, rfl, L, rfl, ⟨_, s1.seq hL⟩, for_list (K := K) (a := L) (xs := xs) (fun i σ' H' => ∃ w p q y, σ' = [some (.ref L), some (.ref w), y] ∧ Same H H' ∧ RatAt T.C_Ratio H' w p q ∧ Rt p q (fsum (zs.take i)).1 (fsum (zs.take i)).2 ∧ p.natAbs < 2 ^ ((a + 1) * i + 1) ∧ q.natAbs < 2 ^ ((a + 1) * i + 1))
    ⟨w0, p0, q0, _, rfl, s1, W0, by rw [List.take_zero]; exact r0, Nat.lt_of_le_of_lt bp (Nat.pow_pos (by decide)), Nat.lt_of_le_of_lt bq (Nat.one_lt_two_pow (by omega))⟩ ?_ ?_ ?_⟩
  · rintro i σ' H' _ ⟨w, p, q, y, rfl, s2, _⟩
    exact s2.seq hL
  · rintro i x σ' H' hi ⟨w, p, q, y, rfl, s2, RW, rt, hp, hq⟩
    obtain ⟨z, ez, b, rfl, RZ⟩ := pget hP hi
    obtain ⟨z0, z1, z2⟩ := hz z (List.mem_of_getElem? ez)
    have hi' : i < zs.length := (List.getElem?_eq_some_iff.mp ez).1
    have le1 : (a + 1) * i + 1 ≤ 2000 := by
      have := Nat.mul_le_mul_left (a + 1) (Nat.le_of_lt hi')
      omega
    replace RZ := RZ.same s2
    obtain ⟨dw, ew⟩ := id RW
    obtain ⟨dz, eb⟩ := id RZ
    have D0 : 0 < (fsum (zs.take i)).2 := fsum_pos fun y hy => (hz y (List.mem_of_mem_take hy)).1
    refine ⟨_, rfl, _, rfl, w, dw, _, b, dz, _, rfl, rfl, ew, eb, w, b, p, q, z.1, z.2, rfl, RW, RZ, rt.1, z0, lt_of hp le1, lt_of hq le1, lt_of z1 (by omega), lt_of z2 (by omega), fun m u v H4 s4 _ M4 rM b1 b2 => ?_⟩
    have e3 := rt.2.2
    refine ⟨m, u, v, some (.ref b), rfl, s2.trans s4, M4, ?_, ?_, ?_⟩
    · rw [fsum_snoc ez]
      unfold fadd
      refine rt_of rM (Int.mul_ne_zero (by have := rt.1; omega) (by omega)) ?_
      dsimp only
      generalize (fsum (zs.take i)).1 = N at e3 ⊢
      generalize (fsum (zs.take i)).2 = D at e3 ⊢
      grind
    · have e4 : (a + 1) * (i + 1) + 1 = (a + 1) * i + 1 + a + 1 := by rw [Nat.mul_add, Nat.mul_one]; omega
      rw [e4]
      have x1 : (p * z.2).natAbs < 2 ^ ((a + 1) * i + 1 + a) := wide_lt hp z2
      have x2 : (z.1 * q).natAbs < 2 ^ ((a + 1) * i + 1 + a) := by rw [Int.mul_comm]; exact wide_lt hq z1
      exact Nat.lt_of_le_of_lt b1 (add_lt x1 x2)
    · have e4 : (a + 1) * (i + 1) + 1 = (a + 1) * i + 1 + a + 1 := by rw [Nat.mul_add, Nat.mul_one]; omega
      rw [e4]
      exact Nat.lt_of_le_of_lt b2 (lt_of (wide_lt hq z2) (Nat.le_succ _))
  · rintro σ' H' ⟨w, p, q, y, rfl, s2, RW, rt, hp, hq⟩
    rw [hlen] at hp hq
    rw [hlen, List.take_length] at rt
    exact ⟨_, rfl, k w p q H' s2 RW rt hp hq⟩
/-! ### are_lots -/
theorem sgn_ge {p q n w : Int} (hq : 0 < q) (hw : w ≠ 0) (e : p * w = n * q) : decide (0 ≤ sgn p) = !decide (n * w < 0) := by
  have e2 : p * (w * w) = (n * w) * q := by grind
  have w2 : 0 < w * w := by
    rcases Int.lt_or_gt_of_ne hw with h | h
    · exact Int.mul_pos_of_neg_of_neg h h
    · exact Int.mul_pos h h
  have iff : 0 ≤ p ↔ ¬ (n * w < 0) := by
    constructor
    · intro h z
      have h1 := Int.mul_nonneg h (Int.le_of_lt w2)
      have h2 := Int.mul_neg_of_neg_of_pos z hq
      omega
    · intro h
      refine Int.not_lt.mp fun z => ?_
      have h1 := Int.mul_neg_of_neg_of_pos z w2
      have h2 := Int.mul_nonneg (Int.not_lt.mp h) (Int.le_of_lt hq)
      omega
  have s : 0 ≤ sgn p ↔ 0 ≤ p := by
    unfold sgn
    split
    · omega
    · split <;> omega
  rw [← decide_not, decide_eq_decide, s, iff]
theorem all_sgn {w : Int} (hw : w ≠ 0) : ∀ {zs : List (Int × Int)} {nl : List Int}, Paired (fun (z : Int × Int) (n : Int) => z.1 * w = n * z.2) zs nl → (∀ z ∈ zs, 0 < z.2) → (zs.map fun z => decide (0 ≤ sgn z.1)).all id = nl.all fun n => !decide (n * w < 0)
  | _, _, .nil, _ => rfl
  | _, _, .cons (a := z) (b := n) e t, h => by
    rw [List.map_cons, List.all_cons, List.all_cons, all_sgn hw t fun y hy => h y (List.mem_cons_of_mem _ hy)]
    congr 1
    exact sgn_ge (h z List.mem_cons_self) hw e
def sp_are_lots (T : Txt K mg) : Sp := fun vs H Q _ => ∃ (L : Addr) (xs : List V) (zs : List (Int × Int)) (nl : List Int) (w : Int) (a : Nat), vs = [.ref L] ∧ SqL K H L xs ∧ Paired (RatZ T.C_Ratio H) xs zs ∧ (∀ z ∈ zs, 0 < z.2 ∧ z.1.natAbs < 2 ^ a ∧ z.2.natAbs < 2 ^ a) ∧ (a + 1) * zs.length ≤ 1800 ∧ a ≤ 1800 ∧ zs.length ≤ 900 ∧
  w ≠ 0 ∧ Paired (fun (z : Int × Int) (n : Int) => z.1 * w = n * z.2) zs nl ∧ ∀ H', Same H H' → Q (.bl ((nl.all fun n => !decide (n * w < 0)) && decide (nl.sum = w))) H'

theorem ok_are_lots (T : Txt K mg) : FnOk P w K mg base CX0 9 T.a_are_lots T.d_are_lots ["ratios"] (sp_are_lots T) := by
  refine T.F_are_lots.ok sc_are_lots (fun vs H Q E h => ?_) (fun cdv A outer s H vs Q E hr h => ?_)
  · obtain ⟨L, xs, zs, nl, w, a, rfl, _⟩ := h
    rfl
  obtain ⟨L, xs, zs, nl, w, a, rfl, hL, hP, hz, hn, ha, h9, hw, hv, k⟩ := h
  refine ⟨_, (pss_one (ps_ret (pe_and (pe_callB (cr_all rfl) (by rfl) T.z_all (by first | exact PySem.boot_all | decide +kernel) (pa_cons (pe_lc (own := [("ratio", 1)]) (g := gName 1) (tt := tYes) rfl sc_are_lots.nd (pi_list (pv 0)) (blkOk_by (N := N_are_lots) (sc := defScope s_are_lots) (by decide +kernel)) (fun _ _ _ _ _ => (pg_name (i := 1) sc_are_lots.nd rfl (by first | exact Or.inl rfl | exact Or.inr rfl))) (fun _ _ _ _ _ => pts_nil) (fun _ _ _ _ _ => (pe_cmpR op_ge (pe_meth0 (pv 1) T.cl_Ratio T.me_Ratio_sign (ok_Ratio_sign T) (hr.mono (by decide)) T.b_Ratio_sign .nil pass0) pe_int (nomark _)))) pa_nil)) (pe_one (pe_cmpR (op_cmp (fun _ _ => rfl) T.me_Ratio_eq (ok_Ratio_eq T) (hr.mono (by decide)) T.b_Ratio_eq pass0) (pe_call (ok_total T) (hr.mono (by decide)) (by rfl) T.m_total T.F_total.kp T.b_total .nil pass0 (pa_cons (pv 0) pa_nil)) (pe_make T.mk_Ratio (ok_Ratio_init T) (hr.mono (by decide)) (by rfl) T.m_Ratio T.bd_Ratio_init T.v_Ratio_init pass0 (pa_cons pe_int pa_nil)) (nomark _)))))), ?_⟩
  have hlen := Paired.length hP
  rw [← all_sgn hw hv fun z h => (hz z h).1] at k
  refine ⟨_, rfl, L, rfl, ⟨_, hL⟩, fun D hD => ?_⟩
  refine lc_list (a := L) (xs := xs) (fun i H2 => Same H H2 ∧ H2 D = some (.lst (((zs.take i).map fun z => decide (0 ≤ sgn z.1)).map V.bl))) ⟨same_upd hD, upd_same⟩ (fun i H2 _ h => h.1.seq hL) (fun i x H2 hx h => ?_) (fun H2 h => ?_)
  · obtain ⟨z, ez, b, rfl, RZ⟩ := pget hP hx
    obtain ⟨db, eb⟩ := id (RZ.same h.1)
    refine ⟨rfl, ?_⟩
    refine ⟨_, rfl, b, db, _, rfl, eb, no_sign _ _, b, z.1, z.2, rfl, RZ.same h.1, _, _, rfl, rfl, _, h.2, ?_, fun c o e => ?_, ?_⟩
    · rw [List.length_map, List.length_map, List.length_take]
      exact small1000 (by omega)
    · rw [upd_ne (ne_of_none e hD)]
      exact h.1 c o e
    · rw [upd_same, List.take_add_one, ez, List.map_append, List.map_append]
      rfl
  obtain ⟨s2, e2⟩ := h
  rw [hlen, List.take_length] at e2
  refine ⟨D, _, rfl, SqL.of e2, _, rfl, ite2 (fun c => ?_) (fun c => ?_)⟩
  · rw [c, Bool.true_and] at k
    refine ⟨_, rfl, L, xs, zs, a, rfl, s2.seq hL, Paired.mono (fun x z h => ?_) hP, hz, hn, ha, fun r p q H3 s3 R3 rt hp hq => ?_⟩
    · obtain ⟨b, e, R⟩ := h
      exact ⟨b, e, R.same s2⟩
    refine make_ratio T (n := 1) (d := 1) (by decide) (by decide) fun o p1 q1 H4 s4 _ R4 rt1 _ _ => ?_
    obtain ⟨dr, er⟩ := id (R3.same s4)
    obtain ⟨dO, eo⟩ := id R4
    refine ⟨r, dr, _, o, dO, _, rfl, rfl, er, eo, r, o, p, q, p1, q1, rfl, R3.same s4, R4, fun t ht => ?_⟩
    have D0 := fsum_pos fun z h => (hz z h).1
    have ov := fsum_over hv
    have q2 := (rt_lt rt rt1 D0 (by decide)).2.2
    have eq : t = decide (nl.sum = w) := by
      have iff : (p = p1 ∧ q = q1) ↔ nl.sum = w := by
        rw [q2, Int.mul_one, Int.one_mul]
        constructor
        · intro e
          rw [e] at ov
          rw [Int.mul_comm] at ov
          exact (Int.eq_of_mul_eq_mul_right (by omega) ov).symm
        · intro e
          rw [e, Int.mul_comm] at ov
          exact Int.eq_of_mul_eq_mul_left hw ov
      rw [iff] at ht
      cases t with
      | true => exact (decide_eq_true (ht.mp rfl)).symm
      | false => exact (decide_eq_false fun z => Bool.noConfusion (ht.mpr z)).symm
    subst eq
    exact k _ (s2.trans (s3.trans s4))
  · have c' : (zs.map fun z => decide (0 ≤ sgn z.1)).all id = false := by simpa using c
    rw [c', Bool.false_and] at k
    exact k _ s2
/-! ### _law_cell -/
def sp_law_cell (T : Txt K mg) : Sp := fun vs H Q _ => ∃ (a : Addr) (ns : List Int) (k : Int), vs = [.ref a, .int k] ∧ SqL K H a (ns.map V.int) ∧ 0 ≤ k ∧ Q (.int (cell ns k)) H

theorem ok_law_cell (T : Txt K mg) : FnOk P w K mg base CX0 1 T.a_law_cell T.d_law_cell ["script", "k"] (sp_law_cell T) := by
  refine T.F_law_cell.ok sc_law_cell (fun vs H Q E h => ?_) (fun cdv A outer s H vs Q E hr h => ?_)
  · obtain ⟨a, ns, k, rfl, _⟩ := h
    rfl
  obtain ⟨a, ns, k, rfl, hS, hk, q⟩ := h
  refine ⟨_, (pss_cons (ps_if (pt_cmpR op_lt (pv 1) (pe_callB call_len_seq (by rfl) T.z_len (by first | exact PySem.boot_len | decide +kernel) (pa_cons (pv 0) pa_nil)) (nomark _)) (pss_one (ps_ret (pe_ix ix_list (pv 0) (pv 1) (fun _ _ => rfl)))) pss_nil)
      (pss_one (ps_ret pe_int))), ?_⟩
  refine ⟨_, rfl, _, rfl, a, _, rfl, .inl hS, _, _, rfl, rfl, _, rfl, ite2 (fun c => ?_) (fun c => ?_)⟩
  · have c' : k < (((ns.map V.int).length : Nat) : Int) := of_decide_eq_true c
    rw [List.length_map] at c'
    have hlt : k.toNat < ns.length := by omega
    refine ⟨_, rfl, _, rfl, a, _, k, .int (cell ns k), rfl, rfl, hS, at_of (j := k.toNat) (by omega) ?_, q⟩
    rw [List.getElem?_map, List.getElem?_eq_getElem hlt]
    unfold cell
    rw [List.getD_eq_getElem?_getD, List.getElem?_eq_getElem hlt]
    rfl
  · have c' : ¬ k < (((ns.map V.int).length : Nat) : Int) := fun z => c (decide_eq_true z)
    rw [List.length_map] at c'
    have e : cell ns k = 0 := by
      unfold cell
      rw [List.getD_eq_getElem?_getD, List.getElem?_eq_none (by omega)]
      rfl
    rw [e] at q
    exact q
/-! ### _law_bool -/
def sp_law_bool (T : Txt K mg) : Sp := fun vs H Q _ => ∃ (b : Bool), vs = [.bl b, .bl b] ∧ Q (.bl true) H

theorem ok_law_bool (T : Txt K mg) : FnOk P w K mg base CX0 1 T.a_law_bool T.d_law_bool ["actual", "due"] (sp_law_bool T) := by
  refine T.F_law_bool.ok sc_law_bool (fun vs H Q E h => ?_) (fun cdv A outer s H vs Q E hr h => ?_)
  · obtain ⟨b, rfl, _⟩ := h
    rfl
  obtain ⟨b, rfl, q⟩ := h
  refine ⟨_, (pss_one (ps_ret (pe_and (pe_callB call_isi (by rfl) T.z_isinstance (by first | exact PySem.boot_isinstance | decide +kernel) (pa_cons (pv 0) (pa_cons (pe_bltn (v := .ty "bool") (by rfl) T.z_bool (by decide +kernel) rfl) pa_nil))) (pe_one (pe_cmpR op_eq (pv 0) (pv 1) (nomark _)))))), ?_⟩
  refine ⟨_, rfl, .bl b, .ty "bool", .type "bool", .type "bool", true, rfl, .ty _, .base (.bl _), kit_ty (by decide +kernel), true, rfl, ?_⟩
  refine ⟨_, rfl, _, rfl, rfl, ?_⟩
  show Q (.bl (decide (V.bl b = V.bl b))) _
  rw [decide_eq_true rfl]
  exact q
/-! ### law -/
def sp_law (T : Txt K mg) : Sp := spLaw K

theorem ok_law (T : Txt K mg) : FnOk P w K mg base CX0 10 T.a_law T.d_law ["script"] (sp_law T) := by
  refine T.F_law.ok sc_law (fun vs H Q E h => ?_) (fun cdv A outer s H vs Q E hr h => ?_)
  · obtain ⟨a, ns, rfl, _⟩ := h
    rfl
  obtain ⟨s0, ns, rfl, hS, h63, q⟩ := h
  refine ⟨_, (pss_cons (ps_setLc (i := 1) (own := [("cell", 9)]) (g := gName 9) (tt := tYes) rfl sc_law.nd rfl rfl (sw_true rfl rfl rfl (by decide +kernel)) (pi_list (pe_slice sl_list (pv 0) (po_some pe_int) (po_some pe_int))) (blkOk_by (N := N_law) (sc := defScope s_law) (by decide +kernel)) (fun _ _ _ _ _ => (pg_name (i := 9) sc_law.nd rfl (by first | exact Or.inl rfl | exact Or.inr rfl))) (fun _ _ _ _ _ => pts_nil) (fun _ _ _ _ _ => (pe_op op_mod (pe_callTy call_int1 (by rfl) T.z_int (by first | exact PySem.boot_int | decide +kernel) (pa_cons (pv 9) pa_nil)) pe_int)))
      (pss_cons (ps_set (i := 2) sc_law.nd rfl (by first | exact Or.inl rfl | exact Or.inr rfl) (pe_call (ok_law_cell T) (hr.mono (by decide)) (by rfl) T.m_law_cell T.F_law_cell.kp T.b_law_cell .nil pass0 (pa_cons (pv 0) (pa_cons pe_int pa_nil))))
      (C8.pss_cut (ps_if (PW.pt (pw_and (pt_cmpR op_gt (pe_callB call_len_seq (by rfl) T.z_len (by first | exact PySem.boot_len | decide +kernel) (pa_cons (pv 1) pa_nil)) pe_int (nomark _)) (pw_and1 (pt_cmpR op_eq (pe_op op_mod (pe_callTy call_int1 (by rfl) T.z_int (by first | exact PySem.boot_int | decide +kernel) (pa_cons (pv 2) pa_nil)) pe_int) pe_int (nomark _))))) (pss_one (ps_asg (pe_op op_sub (pe_un un_neg pe_int) (pe_op op_mod (pe_op op_fdiv (pv 2) pe_int) pe_int)) (pg_sub (pv 1) (pe_op op_mod (pe_op op_fdiv (pv 2) pe_int) (pe_callB call_len_seq (by rfl) T.z_len (by first | exact PySem.boot_len | decide +kernel) (pa_cons (pv 1) pa_nil))) set_list))) pss_nil)
      (pss_cons (ps_set (i := 3) sc_law.nd rfl (by first | exact Or.inl rfl | exact Or.inr rfl) (pe_callB (cr_sum rfl) (by rfl) T.z_sum (by first | exact PySem.boot_sum | decide +kernel) (pa_cons (pv 1) pa_nil)))
      (C8.pss_cut (ps_if (pt_cmpR op_eq (pe_op op_mod (pe_callTy call_int1 (by rfl) T.z_int (by first | exact PySem.boot_int | decide +kernel) (pa_cons (pv 2) pa_nil)) pe_int) pe_int (nomark _)) (pss_one (ps_set (i := 3) sc_law.nd rfl (by first | exact Or.inl rfl | exact Or.inr rfl) (pe_op op_add (pv 3) pe_int))) (pss_one (ps_if (pt_cmpR op_eq (pe_op op_mod (pe_op op_fdiv (pv 2) pe_int) pe_int) pe_int (nomark _)) (pss_one (ps_set (i := 3) sc_law.nd rfl (by first | exact Or.inl rfl | exact Or.inr rfl) (pe_callB (call_max2 rfl) (by rfl) T.z_max (by first | exact PySem.boot_max | decide +kernel) (pa_cons pe_int (pa_cons (pe_op op_sub (pe_op op_sub (pv 3) pe_int) (pe_op op_mod (pe_op op_fdiv (pv 2) pe_int) pe_int)) pa_nil))))) pss_nil)))
      (C8.pss_cut (ps_if (pt_cmpR op_eq (pv 3) pe_int (nomark _)) (pss_one (ps_set (i := 3) sc_law.nd rfl (by first | exact Or.inl rfl | exact Or.inr rfl) pe_int)) pss_nil)
      (C8.pss_cut (ps_set (i := 4) sc_law.nd rfl (by first | exact Or.inl rfl | exact Or.inr rfl) (pe_and (pe_cmpR op_gt (pe_callB call_len_seq (by rfl) T.z_len (by first | exact PySem.boot_len | decide +kernel) (pa_cons (pv 1) pa_nil)) pe_int (nomark _)) (pe_one (pe_cmpR op_eq (pe_callB (cr_sum rfl) (by rfl) T.z_sum (by first | exact PySem.boot_sum | decide +kernel) (pa_cons (pv 1) pa_nil)) (pv 3) (nomark _)))))
      (pss_cons (ps_for PassesOwn.never rfl (pi_list (pv 1)) (pg_name (i := 5) sc_law.nd rfl (by first | exact Or.inl rfl | exact Or.inr rfl)) (pss_one (ps_if (pt_cmpR op_lt (pe_op op_mul (pv 5) (pv 3)) pe_int (nomark _)) (pss_one (ps_set (i := 4) sc_law.nd rfl (by first | exact Or.inl rfl | exact Or.inr rfl) pe_bl)) pss_nil)))
      (pss_cons (ps_setLc (i := 6) (own := [("part", 5)]) (g := gName 5) (tt := tYes) rfl sc_law.nd rfl rfl (sw_true rfl rfl rfl (by decide +kernel)) (pi_list (pv 1)) (blkOk_by (N := N_law) (sc := defScope s_law) (by decide +kernel)) (fun _ _ _ _ _ => (pg_name (i := 5) sc_law.nd rfl (by first | exact Or.inl rfl | exact Or.inr rfl))) (fun _ _ _ _ _ => pts_nil) (fun _ _ _ _ _ => (pe_make T.mk_Ratio (ok_Ratio_init T) (hr.mono (by decide)) (by rfl) T.m_Ratio T.b_Ratio_init .nil pass0 (pa_cons (pv 5) (pa_cons (pv 3) pa_nil)))))
      (C8.pss_cut (ps_if (pt_cmpR op_eq (pe_op op_mod (pe_callTy call_int1 (by rfl) T.z_int (by first | exact PySem.boot_int | decide +kernel) (pa_cons (pe_call (ok_law_cell T) (hr.mono (by decide)) (by rfl) T.m_law_cell T.F_law_cell.kp T.b_law_cell .nil pass0 (pa_cons (pv 0) (pa_cons pe_int pa_nil))) pa_nil)) pe_int) pe_int (nomark _)) (pss_one (ps_set (i := 6) sc_law.nd rfl (by first | exact Or.inl rfl | exact Or.inr rfl) (pe_op op_cat (pv 6) (pe_lst (pa_cons (pe_make T.mk_Ratio (ok_Ratio_init T) (hr.mono (by decide)) (by rfl) T.m_Ratio T.b_Ratio_init .nil pass0 (pa_cons pe_int (pa_cons pe_int pa_nil))) pa_nil))))) pss_nil)
      (pss_cons (ps_set (i := 7) sc_law.nd rfl (by first | exact Or.inl rfl | exact Or.inr rfl) (pe_callTy call_list_of (by rfl) T.z_list (by first | exact PySem.boot_list | decide +kernel) (pa_cons (pv 6) pa_nil)))
      (pss_cons (ps_set (i := 8) sc_law.nd rfl (by first | exact Or.inl rfl | exact Or.inr rfl) (pe_call (ok_are_lots T) (hr.mono (by decide)) (by rfl) T.m_are_lots T.F_are_lots.kp T.b_are_lots .nil pass0 (pa_cons (pv 6) pa_nil)))
      (pss_one (ps_ret (pe_and (pe_call (ok_law_bool T) (hr.mono (by decide)) (by rfl) T.m_law_bool T.F_law_bool.kp T.b_law_bool .nil pass0 (pa_cons (pv 8) (pa_cons (pv 4) pa_nil))) (pe_and (pe_cmpR op_eq (pe_callB call_len_seq (by rfl) T.z_len (by first | exact PySem.boot_len | decide +kernel) (pa_cons (pv 6) pa_nil)) (pe_callB call_len_seq (by rfl) T.z_len (by first | exact PySem.boot_len | decide +kernel) (pa_cons (pv 7) pa_nil)) (nomark _)) (pe_and (pe_cmpR (op_eqV (eq_room hr)) (pv 6) (pv 7) (nomark _)) (pe_one (pe_call (ok_law_bool T) (hr.mono (by decide)) (by rfl) T.m_law_bool T.F_law_bool.kp T.b_law_bool .nil pass0 (pa_cons (pe_call (ok_are_lots T) (hr.mono (by decide)) (by rfl) T.m_are_lots T.F_are_lots.kp T.b_are_lots .nil pass0 (pa_cons (pv 6) pa_nil)) (pa_cons (pv 4) pa_nil))))))))))))))))))))), ?_⟩
  refine ⟨_, rfl, 2, rfl, 11, rfl, s0, _, rfl, hS, fun p hp => ?_⟩
  rw [show cutV (ns.map V.int) (some 2) (some 11) = ((ns.map V.int).drop 2).take 9 from cut_mid (ns.map V.int) 2 11 (by decide)]
  generalize eH1 : upd H p _ = H1
  have s1 : Same H H1 := eH1 ▸ same_upd hp
  obtain ⟨cs, ecs⟩ : ∃ cs, cs = (ns.drop 2).take 9 := ⟨_, rfl⟩
  have e1 : H1 p = some (.lst (cs.map V.int)) := by
    rw [ecs, List.map_take, List.map_drop]
    exact eH1 ▸ upd_same
  have clen : cs.length ≤ 9 := by rw [ecs, List.length_take]; omega
  clear eH1 ecs
  refine ⟨p, rfl, ⟨_, SqL.of e1⟩, fun D hD => ?_⟩
  refine lc_list (a := p) (xs := cs.map V.int) (fun i H' => Same H1 H' ∧ H' D = some (.lst (((cs.take i).map (· % 7)).map V.int))) ⟨same_upd hD, upd_same⟩ (fun i H' _ h => h.1.seq (SqL.of e1)) (fun i x H' hx h => ?_) (fun H2 h => ?_)
  · obtain ⟨z, hz, rfl⟩ := int_of_map hx
    refine ⟨rfl, ?_⟩
    refine ⟨_, rfl, .inl ⟨_, rfl, _, _, rfl, rfl, by show (0 : Int) < 7; decide, _, h.2, ?_, fun b o e => ?_, ?_⟩⟩
    · rw [List.length_map, List.length_map, List.length_take]
      exact small1000 (by omega)
    · rw [upd_ne (ne_of_none e hD)]
      exact h.1 b o e
    · rw [upd_same, List.take_add_one, hz, List.map_append, List.map_append]
      rfl
  obtain ⟨s2, e2⟩ := h
  rw [List.length_map, List.take_length] at e2
  have nD : H D = none := s1.free hD
  have S2 := s1.trans s2
  -- the way
  refine ⟨_, rfl, s0, ns, 0, rfl, S2.seq hS, by decide, ?_⟩
  have hway1 : _root_.True := trivial
  generalize cell ns 0 = way
  have ps0 : ∀ x ∈ cs.map (· % 7), x.natAbs ≤ 6 := fun x hx => by
    obtain ⟨c, _, rfl⟩ := List.mem_map.mp hx
    have h1 : 0 ≤ c % 7 := Int.emod_nonneg _ (by decide)
    have h2 : c % 7 < 7 := Int.emod_lt_of_pos _ (by decide)
    show (c % 7).natAbs ≤ 6
    omega
  have plen0 : (cs.map (· % 7)).length ≤ 9 := by rw [List.length_map]; exact clen
  generalize cs.map (· % 7) = qs at e2 ps0 plen0
  have w40 : 0 ≤ way / 40 % 3 := Int.emod_nonneg _ (by decide)
  have w41 : way / 40 % 3 < 3 := Int.emod_lt_of_pos _ (by decide)
  have w12 : 0 ≤ way / 12 % 3 := Int.emod_nonneg _ (by decide)
  have w13 : way / 12 % 3 < 3 := Int.emod_lt_of_pos _ (by decide)
  let Mid1 : L2.St → Hp → Prop := fun σ' H' => ∃ ps : List Int, σ' = [some (.ref s0), some (.ref D), some (.int way), none, none, none, none, none, none, none] ∧ Same H H' ∧ H' D = some (.lst (ps.map V.int)) ∧ (∀ x ∈ ps, x.natAbs ≤ 6) ∧ ps.length ≤ 9
  refine ⟨Mid1, ?_, ?_⟩
  · refine ⟨_, rfl, D, _, rfl, .inl (SqL.of e2), _, _, rfl, rfl, _, rfl, ite2 (fun c => ?_) (fun _ => ?_)⟩
    · have c' : (0 : Int) < (((qs.map V.int).length : Nat) : Int) := of_decide_eq_true c
      rw [List.length_map] at c'
      refine ⟨_, rfl, .inl ⟨_, rfl, _, _, rfl, rfl, by show (0 : Int) < 4; decide, rfl, _, rfl, ite2 (fun _ => ?_) (fun _ => ?_)⟩⟩
      · have k0 : 0 ≤ way / 4 % ((((qs.map V.int).length : Nat)) : Int) := Int.emod_nonneg _ (by rw [List.length_map]; omega)
        have k1 : way / 4 % ((((qs.map V.int).length : Nat)) : Int) < (((qs.map V.int).length : Nat) : Int) := Int.emod_lt_of_pos _ (by rw [List.length_map]; omega)
        refine ⟨1, rfl, _, rfl, _, _, rfl, rfl, ⟨by decide, by decide⟩, _, _, rfl, rfl, by show (0 : Int) < 3; decide, _, _, rfl, rfl, _, rfl, _, rfl, _, _, rfl, rfl, ⟨by decide, by decide⟩, _, rfl, D, _, rfl, .inl (SqL.of e2), _, _, rfl, rfl, ?_, D, _, _, _, rfl, rfl, e2, ixN_ok k0 k1, ?_⟩
        · show (0 : Int) < _
          rw [List.length_map]
          exact c'
        refine ⟨qs.set (way / 4 % ((((qs.map V.int).length : Nat)) : Int)).toNat (-1 - way / 40 % 3), rfl, fun b o e => ?_, ?_, fun x hx => ?_, by rw [List.length_set]; exact plen0⟩
        · rw [upd_ne (ne_of_none e nD)]
          exact S2 b o e
        · rw [upd_same, List.map_set]
        · rcases List.mem_or_eq_of_mem_set hx with h | h
          · exact ps0 x h
          · rw [h]
            omega
      · exact ⟨qs, rfl, S2, e2, ps0, plen0⟩
    · exact ⟨qs, rfl, S2, e2, ps0, plen0⟩
  clear e2 ps0 plen0 s2 e1 s1 hD S2
  rintro σ3 H3 ⟨ps, rfl, S3, e3, psb, plen⟩
  have sb := sum_abs psb
  have sb2 : ps.sum.natAbs ≤ 54 := by
    have := Nat.mul_le_mul_left 6 plen
    omega
  -- the whole
  refine ⟨_, rfl, D, ps, rfl, SqL.of e3, ?_⟩
  let Mid2 : L2.St → Hp → Prop := fun σ' H' => ∃ w : Int, σ' = [some (.ref s0), some (.ref D), some (.int way), some (.int w), none, none, none, none, none, none] ∧ H' = H3 ∧ w.natAbs ≤ 60
  refine ⟨Mid2, ?_, ?_⟩
  · refine ⟨_, rfl, .inl ⟨_, rfl, _, _, rfl, rfl, by show (0 : Int) < 3; decide, rfl, _, rfl, ite2 (fun _ => ?_) (fun _ => ?_)⟩⟩
    · refine ⟨_, rfl, _, _, rfl, rfl, ?_⟩
      exact ⟨_, rfl, rfl, by omega⟩
    · refine ⟨_, rfl, _, _, rfl, rfl, ⟨by decide, by decide⟩, _, _, rfl, rfl, by show (0 : Int) < 4; decide, rfl, _, rfl, ite2 (fun _ => ?_) (fun _ => ?_)⟩
      · refine ⟨_, rfl, _, _, rfl, rfl, _, rfl, _, _, rfl, rfl, ⟨by decide, by decide⟩, _, _, rfl, rfl, by show (0 : Int) < 3; decide, _, _, rfl, rfl, _, _, rfl, ?_⟩
        refine ⟨_, rfl, rfl, ?_⟩
        split <;> omega
      · exact ⟨_, rfl, rfl, by omega⟩
  rintro σ4 H4 ⟨w0, rfl, rfl, hw0⟩
  let Mid3 : L2.St → Hp → Prop := fun σ' H' => ∃ w : Int, σ' = [some (.ref s0), some (.ref D), some (.int way), some (.int w), none, none, none, none, none, none] ∧ H' = H4 ∧ w.natAbs ≤ 60 ∧ w ≠ 0
  refine ⟨Mid3, ?_, ?_⟩
  · refine ⟨_, rfl, rfl, _, rfl, ite2 (fun _ => ?_) (fun c => ?_)⟩
    · exact ⟨1, rfl, rfl, by decide, by decide⟩
    · exact ⟨w0, rfl, rfl, hw0, fun z => c (by rw [z]; exact decide_eq_true rfl)⟩
  clear hw0 w0
  rintro σ5 H5 ⟨w, rfl, rfl, hw, w0⟩
  -- what is due
  let Mid4 : L2.St → Hp → Prop := fun σ' H' => σ' = [some (.ref s0), some (.ref D), some (.int way), some (.int w), some (.bl (decide (ps.sum = w))), none, none, none, none, none] ∧ H' = H5
  refine ⟨Mid4, ?_, ?_⟩
  · refine ⟨_, rfl, D, _, rfl, .inl (SqL.of e3), _, _, rfl, rfl, _, rfl, ite2 (fun _ => ?_) (fun c => ?_)⟩
    · refine ⟨_, rfl, D, ps, rfl, SqL.of e3, _, rfl, rfl, ?_, rfl⟩
      have e : decide (V.int ps.sum = V.int w) = decide (ps.sum = w) := decide_eq_decide.mpr ⟨V.int.inj, congrArg V.int⟩
      show [_, _, _, _, some (V.bl (decide (V.int ps.sum = V.int w))), _, _, _, _, _] = _
      rw [e]
    · have p0 : ps = [] := by
        have : ¬ (0 : Int) < (((ps.map V.int).length : Nat) : Int) := fun z => c (decide_eq_true z)
        rw [List.length_map] at this
        exact List.eq_nil_of_length_eq_zero (by omega)
      refine ⟨?_, rfl⟩
      rw [p0, decide_eq_false (by rw [List.sum_nil]; exact fun z => w0 z.symm)]
      rfl
  rintro σ6 H6 ⟨rfl, rfl⟩
  refine ⟨_, rfl, D, rfl, ⟨_, SqL.of e3⟩, for_list (K := K) (a := D) (xs := ps.map V.int) (fun i σ' H' => ∃ y, σ' = [some (.ref s0), some (.ref D), some (.int way), some (.int w), some (.bl (decide (ps.sum = w) && nonneg w (ps.take i))), y, none, none, none, none] ∧ H' = H6) ⟨none, by rw [List.take_zero]; unfold nonneg; rw [List.all_nil, Bool.and_true], rfl⟩ ?_ ?_ ?_⟩
  · rintro i σ' H' _ ⟨y, rfl, rfl⟩
    exact SqL.of e3
  · rintro i x σ' H' hi ⟨y, rfl, rfl⟩
    obtain ⟨n, hn, rfl⟩ := int_of_map hi
    have nb := psb n (List.mem_of_getElem? hn)
    let Mid : L2.St → Hp → Prop := fun σ2 H2 => σ2 = [some (.ref s0), some (.ref D), some (.int way), some (.int w), some (.bl (decide (ps.sum = w) && nonneg w (ps.take (i + 1)))), some (.int n), none, none, none, none] ∧ H2 = H'
    refine ⟨_, rfl, _, rfl, _, _, rfl, rfl, .inl ⟨by omega, by omega⟩, _, _, rfl, rfl, _, rfl, ite2 (fun c => ?_) (fun c => ?_)⟩
    · have c' : n * w < 0 := of_decide_eq_true c
      refine ⟨some (.int n), ?_, rfl⟩
      rw [nonneg_snoc hn, decide_eq_true c', Bool.not_true, Bool.and_false, Bool.and_false]
      rfl
    · have c' : ¬ n * w < 0 := fun z => c (decide_eq_true z)
      refine ⟨some (.int n), ?_, rfl⟩
      rw [nonneg_snoc hn, decide_eq_false c', Bool.not_false, Bool.and_true]
      rfl
  rintro σ7 H7 ⟨y5, rfl, rfl⟩
  rw [List.length_map, List.take_length]
  -- the ratios
  refine ⟨_, rfl, D, rfl, ⟨_, SqL.of e3⟩, fun R hR => ?_⟩
  refine lc_list (a := D) (xs := ps.map V.int) (fun i H8 => Same H7 H8 ∧ ∃ rs, H8 R = some (.lst rs) ∧ Paired (RatT T.C_Ratio H8) rs ((ps.map fun n => (n, w)).take i)) ⟨same_upd hR, [], upd_same, .nil⟩ (fun i H8 _ h => h.1.seq (SqL.of e3)) (fun i x H8 hx h => ?_) (fun H8 h => ?_)
  · obtain ⟨n, hn, rfl⟩ := int_of_map hx
    obtain ⟨s8, rs, r8, pr⟩ := h
    have nb := psb n (List.mem_of_getElem? hn)
    refine ⟨rfl, ?_⟩
    refine ⟨_, rfl, _, rfl, ?_⟩
    refine make_ratio T (n := n) (d := w) w0 (lt_of (a := 6) (by show _ < 64; omega) (by decide)) fun r p' q' H9 s9 _ R9 rt b1 b2 => ?_
    have r9 := s9 _ _ r8
    have en : (ps.map fun n => (n, w))[i]? = some (n, w) := by rw [List.getElem?_map, hn]; rfl
    have hl : rs.length ≤ 63 := by
      rw [Paired.length pr, List.length_take, List.length_map]
      omega
    refine ⟨_, r9, small1000 (by omega), fun b o e => ?_, rs ++ [.ref r], upd_same, ?_⟩
    · rw [upd_ne (ne_of_none e hR)]
      exact s9 _ _ (s8 b o e)
    · have kI := keepI_lst (ys := rs ++ [V.ref r]) r9
      exact paired_snoc_take (Paired.mono (fun a b h => RatT.keep ((keepI_of s9).trans kI) h) pr) en (RatT.keep kI ⟨r, p', q', rfl, R9, rt, b1, b2⟩)
  obtain ⟨s8, rs, r8, pr⟩ := h
  rw [List.length_map, ← List.length_map (f := fun n => (n, w)), List.take_length] at pr
  have S8 := S3.trans s8
  have nl0 : Paired (fun (t : Int × Int) (n : Int) => t.1 * w = n * t.2 ∧ 0 < w.natAbs ∧ t.1.natAbs < 2 ^ 7 ∧ t.2.natAbs < 2 ^ 7 ∧ t.2 ≠ 0) (ps.map fun n => (n, w)) ps := by
    have go : ∀ l : List Int, (∀ x ∈ l, x.natAbs ≤ 6) → Paired (fun (t : Int × Int) (n : Int) => t.1 * w = n * t.2 ∧ 0 < w.natAbs ∧ t.1.natAbs < 2 ^ 7 ∧ t.2.natAbs < 2 ^ 7 ∧ t.2 ≠ 0) (l.map fun n => (n, w)) l := by
      intro l
      induction l with
      | nil => intro _; exact .nil
      | cons x r ih =>
        intro h
        exact .cons ⟨rfl, by omega, by have := h x List.mem_cons_self; show _ < 128; dsimp only; omega, by show _ < 128; dsimp only; omega, w0⟩ (ih fun y hy => h y (List.mem_cons_of_mem _ hy))
    exact go ps psb
  let Mid5 : L2.St → Hp → Prop := fun σ' H' => ∃ (R2 : Addr) (rs2 : List V) (ts : List (Int × Int)) (nl : List Int), σ' = [some (.ref s0), some (.ref D), some (.int way), some (.int w), some (.bl (decide (ps.sum = w) && nonneg w ps)), y5, some (.ref R2), none, none, none] ∧ H' R2 = some (.lst rs2) ∧ Paired (RatT T.C_Ratio H') rs2 ts ∧
    Paired (fun (t : Int × Int) (n : Int) => t.1 * w = n * t.2 ∧ 0 < w.natAbs ∧ t.1.natAbs < 2 ^ 7 ∧ t.2.natAbs < 2 ^ 7 ∧ t.2 ≠ 0) ts nl ∧ nl.sum = ps.sum ∧ nonneg w nl = nonneg w ps ∧ ts.length ≤ 10
  refine ⟨Mid5, ?_, ?_⟩
  · refine ⟨_, rfl, s0, ns, 1, rfl, S8.seq hS, by decide, .inl ⟨_, rfl, _, _, rfl, rfl, by show (0 : Int) < 5; decide, rfl, _, rfl, ite2 (fun _ => ?_) (fun _ => ?_)⟩⟩
    · refine ⟨_, rfl, ?_⟩
      refine make_ratio T (n := 0) (d := 1) (by decide) (by decide) fun r p' q' H9 s9 _ R9 rt b1 b2 => ?_
      refine ⟨by show 1 ≤ sizeLine; decide, fun l hl => ?_⟩
      have sl := same_upd (o := .lst [.ref r]) hl
      refine ⟨R, l, rs, [.ref r], rfl, rfl, sl _ _ (s9 _ _ r8), upd_same, ?_, fun m hm => ?_⟩
      · rw [Paired.length pr, List.length_map]
        exact small_le (by show _ + 1 ≤ 1000; omega)
      have sm := same_upd (o := .lst (rs ++ [.ref r])) hm
      have kI := (keepI_of sl).trans (keepI_of sm)
      refine ⟨m, rs ++ [.ref r], _, ps ++ [0], rfl, upd_same, Paired.snoc (Paired.mono (fun a b h => RatT.keep ((keepI_of s9).trans kI) h) pr) (b := (0, 1)) (RatT.keep kI ⟨r, p', q', rfl, R9, rt, b1, b2⟩), Paired.snoc nl0 ⟨by rw [Int.zero_mul, Int.zero_mul], by omega, by decide, by decide, by decide⟩, ?_, ?_, ?_⟩
      · rw [List.sum_append]
        simp
      · unfold nonneg
        rw [List.all_append]
        simp
      · rw [List.length_append, List.length_map]
        show _ + 1 ≤ 10
        omega
    · exact ⟨R, rs, _, ps, rfl, r8, pr, nl0, rfl, rfl, by rw [List.length_map]; omega⟩
  clear nl0 pr r8 s8 S8
  rintro σ9 H9 ⟨R2, rs2, ts, nl, rfl, r9, pr, pn, nsum, nnon, tlen⟩
  obtain ⟨zs, hz1, hz2⟩ := ratZ_of pr
  have zlen := Paired.length hz2
  have rlen := Paired.length pr
  -- as it is, and as it is due
  refine ⟨_, rfl, R2, _, rfl, .inl (SqL.of r9), fun kp hk => ?_⟩
  have sk := same_upd (o := .lst rs2) hk
  have zok : ∀ z ∈ zs, 0 < z.2 ∧ z.1.natAbs < 2 ^ 7 ∧ z.2.natAbs < 2 ^ 7 := fun z hz => by
    obtain ⟨i, hi⟩ := List.mem_iff_getElem?.mp hz
    obtain ⟨t, ht, ⟨r1, r2, r3⟩⟩ := pget hz2 hi
    obtain ⟨n, _, _, _, a1, a2, _⟩ := pget pn ht
    exact ⟨r1.1, Nat.lt_of_le_of_lt r2 a1, Nat.lt_of_le_of_lt r3 a2⟩
  have zn : Paired (fun (z : Int × Int) (n : Int) => z.1 * w = n * z.2) zs nl := by
    have go : ∀ {zs ts : List (Int × Int)} {nl : List Int}, Paired RtZ zs ts → Paired (fun (t : Int × Int) (n : Int) => t.1 * w = n * t.2 ∧ 0 < w.natAbs ∧ t.1.natAbs < 2 ^ 7 ∧ t.2.natAbs < 2 ^ 7 ∧ t.2 ≠ 0) ts nl → Paired (fun (z : Int × Int) (n : Int) => z.1 * w = n * z.2) zs nl := by
      intro zs ts nl h1
      induction h1 generalizing nl with
      | nil => intro h2; cases h2; exact .nil
      | cons r _ ih =>
        intro h2
        cases h2 with
        | cons e t =>
          refine .cons ?_ (ih t)
          obtain ⟨r1, _, _⟩ := r
          exact (rt_of r1 e.2.2.2.2 (e.1)).2.2
    exact go hz2 pn
  have due : (decide (ps.sum = w) && nonneg w ps) = ((nl.all fun n => !decide (n * w < 0)) && decide (nl.sum = w)) := by
    rw [nsum, Bool.and_comm]
    show _ = (nonneg w nl && _)
    rw [nnon]
  have hz1k : Paired (RatZ T.C_Ratio (upd H9 kp (.lst rs2))) rs2 zs := Paired.mono (fun x z h => by obtain ⟨b, e, R⟩ := h; exact ⟨b, e, R.same sk⟩) hz1
  refine ⟨_, rfl, R2, rs2, zs, nl, w, 7, rfl, SqL.of (sk _ _ r9), hz1k, zok, by omega, by decide, by omega, w0, zn, fun HA sA => ?_⟩
  have rA := sA _ _ (sk _ _ r9)
  have kA := sA _ _ (upd_same (H := H9) (a := kp) (o := .lst rs2))
  have prA : Paired (RatT T.C_Ratio HA) rs2 ts := Paired.mono (fun a b h => RatT.keep ((keepI_of sk).trans (keepI_of sA)) h) pr
  refine ⟨_, rfl, _, rfl, (nl.all fun n => !decide (n * w < 0)) && decide (nl.sum = w), by rw [due]; rfl, true, rfl, ?_⟩
  refine ⟨_, rfl, R2, _, rfl, .inl (SqL.of rA), _, rfl, kp, _, rfl, .inl (SqL.of kA), rfl, _, rfl, ite2 (fun _ => ?_) (fun z => absurd (decide_eq_true rfl) z)⟩
  refine ⟨_, rfl, _, rfl, 1, by decide, .inl ⟨R2, kp, rs2, rs2, rfl, rfl, SqL.of rA, SqL.of kA, same_refs prA⟩, true, rfl, ?_⟩
  refine ⟨_, rfl, R2, rs2, zs, nl, w, 7, rfl, SqL.of rA, Paired.mono (fun x z h => by obtain ⟨b, e, R⟩ := h; exact ⟨b, e, R.same sA⟩) hz1k, zok, by omega, by decide, by omega, w0, zn, fun HB sB => ?_⟩
  exact ⟨_, rfl, (nl.all fun n => !decide (n * w < 0)) && decide (nl.sum = w), by rw [due]; rfl, q _⟩
end
/-! ### what the top has written -/
theorem all_mk {l : PySem.W.OpenLaw} {w : World} {K : PySem.W.Frag} {h : Heap} {mg : Str → Option Value} {fa : Addr} (X : K.In h) (G : h.Ns mainGlobals mg) (hfa : mg "law" = some (.ref fa))
    {C_Ratio : Addr}
    {f1 : Addr} {od1 an1 : Option Addr} {sl1 : Array (Option Value)} {oc1 kV1 dc1 pm1 cd1 ct1 : Value}
    {Tt1 : Addr} {tc1 : Value} {td1 : Option Addr} {tn1 : Nat} {tl1 : Array (Option Value)} {tk1 : Tok}
    {f2 : Addr} {od2 an2 : Option Addr} {sl2 : Array (Option Value)} {oc2 kV2 dc2 pm2 cd2 ct2 : Value}
    {f3 : Addr} {od3 an3 : Option Addr} {sl3 : Array (Option Value)} {oc3 kV3 dc3 pm3 cd3 ct3 : Value}
    {f4 : Addr} {od4 an4 : Option Addr} {sl4 : Array (Option Value)} {oc4 kV4 dc4 pm4 cd4 ct4 : Value}
    {f5 : Addr} {od5 an5 : Option Addr} {sl5 : Array (Option Value)} {oc5 kV5 dc5 pm5 cd5 ct5 : Value}
    {f6 : Addr} {od6 an6 : Option Addr} {sl6 : Array (Option Value)} {oc6 kV6 dc6 pm6 cd6 ct6 : Value}
    {f7 : Addr} {od7 an7 : Option Addr} {sl7 : Array (Option Value)} {oc7 kV7 dc7 pm7 cd7 ct7 : Value}
    {f8 : Addr} {od8 an8 : Option Addr} {sl8 : Array (Option Value)} {oc8 kV8 dc8 pm8 cd8 ct8 : Value}
    {f9 : Addr} {od9 an9 : Option Addr} {sl9 : Array (Option Value)} {oc9 kV9 dc9 pm9 cd9 ct9 : Value}
    {f10 : Addr} {od10 an10 : Option Addr} {sl10 : Array (Option Value)} {oc10 kV10 dc10 pm10 cd10 ct10 : Value}
    {f11 : Addr} {od11 an11 : Option Addr} {sl11 : Array (Option Value)} {oc11 kV11 dc11 pm11 cd11 ct11 : Value}
    {f12 : Addr} {od12 an12 : Option Addr} {sl12 : Array (Option Value)} {oc12 kV12 dc12 pm12 cd12 ct12 : Value}
    {f13 : Addr} {od13 an13 : Option Addr} {sl13 : Array (Option Value)} {oc13 kV13 dc13 pm13 cd13 ct13 : Value}
    (ac_Ratio : PySem.W.nsIn K mainGlobals "Ratio" = some (some (.ref C_Ratio)))
    (pg_Ratio : PySem.W.plainGet K C_Ratio Str.empty = true)
    (hd_Ratio : PySem.W.hasDictIn K C_Ratio = true)
    (po_Ratio : PySem.W.plainOver K C_Ratio = true)
    (sa_Ratio : PySem.W.findIn K (.ref C_Ratio) "__setattr__" = some (some (.builtin "object.__setattr__")))
    (mkc_Ratio : PySem.W.makesIn K C_Ratio = true)
    (kpc_Ratio : PySem.W.keepIn K (.ref C_Ratio) = true)
    (na_Ratio_num : PySem.W.findIn K (.ref C_Ratio) "num" = some none)
    (na_Ratio_den : PySem.W.findIn K (.ref C_Ratio) "den" = some none)
    (sf_Ratio : PySem.W.selfFirst K C_Ratio = true)
    (xa_Ratio : PySem.W.findIn K (.ref C_Ratio) "__class__" = some (some (.builtin "object.__class__")))
    (xn_Ratio : PySem.W.specialIn K (.builtin "object.__class__") "__get__" = some (some (.builtin "getset_descriptor.__get__")))
    (xt_Ratio : PySem.W.takesIn K (.builtin "object.__class__") = some true)
    (xm_Ratio : PySem.W.mroIn K C_Ratio (.type "object") = some true)
    (a1 : PySem.W.findIn K (.ref C_Ratio) "__init__" = some (some (.ref f1)))
    (i1 : PySem.W.isFn K (.ref f1) = true)
    (l1 : K.lookup f1 = some ⟨oc1, od1, .func (PySem.W.fnOf "__init__" "Ratio.__init__" (defArgs s_Ratio_init) (defBody s_Ratio_init) (defScope s_Ratio_init) (.ref Tt1) kV1 dc1 pm1 an1 cd1 ct1), sl1⟩)
    (c1 : PySem.W.codeIn K cd1 "Ratio.__init__" = true)
    (k1 : PySem.W.keepIn K (.ref f1) = true)
    (t1 : K.lookup Tt1 = some ⟨tc1, td1, .seq #[.int 1 tk1] tn1, tl1⟩)
    (a2 : PySem.W.findIn K (.ref C_Ratio) "__add__" = some (some (.ref f2)))
    (i2 : PySem.W.isFn K (.ref f2) = true)
    (l2 : K.lookup f2 = some ⟨oc2, od2, .func (PySem.W.fnOf "__add__" "Ratio.__add__" (defArgs s_Ratio_add) (defBody s_Ratio_add) (defScope s_Ratio_add) .none kV2 dc2 pm2 an2 cd2 ct2), sl2⟩)
    (c2 : PySem.W.codeIn K cd2 "Ratio.__add__" = true)
    (k2 : PySem.W.keepIn K (.ref f2) = true)
    (a3 : PySem.W.findIn K (.ref C_Ratio) "__sub__" = some (some (.ref f3)))
    (i3 : PySem.W.isFn K (.ref f3) = true)
    (l3 : K.lookup f3 = some ⟨oc3, od3, .func (PySem.W.fnOf "__sub__" "Ratio.__sub__" (defArgs s_Ratio_sub) (defBody s_Ratio_sub) (defScope s_Ratio_sub) .none kV3 dc3 pm3 an3 cd3 ct3), sl3⟩)
    (c3 : PySem.W.codeIn K cd3 "Ratio.__sub__" = true)
    (k3 : PySem.W.keepIn K (.ref f3) = true)
    (a4 : PySem.W.findIn K (.ref C_Ratio) "__mul__" = some (some (.ref f4)))
    (i4 : PySem.W.isFn K (.ref f4) = true)
    (l4 : K.lookup f4 = some ⟨oc4, od4, .func (PySem.W.fnOf "__mul__" "Ratio.__mul__" (defArgs s_Ratio_mul) (defBody s_Ratio_mul) (defScope s_Ratio_mul) .none kV4 dc4 pm4 an4 cd4 ct4), sl4⟩)
    (c4 : PySem.W.codeIn K cd4 "Ratio.__mul__" = true)
    (k4 : PySem.W.keepIn K (.ref f4) = true)
    (a5 : PySem.W.findIn K (.ref C_Ratio) "__neg__" = some (some (.ref f5)))
    (i5 : PySem.W.isFn K (.ref f5) = true)
    (l5 : K.lookup f5 = some ⟨oc5, od5, .func (PySem.W.fnOf "__neg__" "Ratio.__neg__" (defArgs s_Ratio_neg) (defBody s_Ratio_neg) (defScope s_Ratio_neg) .none kV5 dc5 pm5 an5 cd5 ct5), sl5⟩)
    (c5 : PySem.W.codeIn K cd5 "Ratio.__neg__" = true)
    (k5 : PySem.W.keepIn K (.ref f5) = true)
    (a6 : PySem.W.findIn K (.ref C_Ratio) "__eq__" = some (some (.ref f6)))
    (i6 : PySem.W.isFn K (.ref f6) = true)
    (l6 : K.lookup f6 = some ⟨oc6, od6, .func (PySem.W.fnOf "__eq__" "Ratio.__eq__" (defArgs s_Ratio_eq) (defBody s_Ratio_eq) (defScope s_Ratio_eq) .none kV6 dc6 pm6 an6 cd6 ct6), sl6⟩)
    (c6 : PySem.W.codeIn K cd6 "Ratio.__eq__" = true)
    (k6 : PySem.W.keepIn K (.ref f6) = true)
    (a7 : PySem.W.findIn K (.ref C_Ratio) "__ne__" = some (some (.ref f7)))
    (i7 : PySem.W.isFn K (.ref f7) = true)
    (l7 : K.lookup f7 = some ⟨oc7, od7, .func (PySem.W.fnOf "__ne__" "Ratio.__ne__" (defArgs s_Ratio_ne) (defBody s_Ratio_ne) (defScope s_Ratio_ne) .none kV7 dc7 pm7 an7 cd7 ct7), sl7⟩)
    (c7 : PySem.W.codeIn K cd7 "Ratio.__ne__" = true)
    (k7 : PySem.W.keepIn K (.ref f7) = true)
    (a8 : PySem.W.findIn K (.ref C_Ratio) "sign" = some (some (.ref f8)))
    (i8 : PySem.W.isFn K (.ref f8) = true)
    (l8 : K.lookup f8 = some ⟨oc8, od8, .func (PySem.W.fnOf "sign" "Ratio.sign" (defArgs s_Ratio_sign) (defBody s_Ratio_sign) (defScope s_Ratio_sign) .none kV8 dc8 pm8 an8 cd8 ct8), sl8⟩)
    (c8 : PySem.W.codeIn K cd8 "Ratio.sign" = true)
    (k8 : PySem.W.keepIn K (.ref f8) = true)
    (a9 : PySem.W.nsIn K mainGlobals "total" = some (some (.ref f9)))
    (l9 : K.lookup f9 = some ⟨oc9, od9, .func (PySem.W.fnOf "total" "total" (defArgs s_total) (defBody s_total) (defScope s_total) .none kV9 dc9 pm9 an9 cd9 ct9), sl9⟩)
    (c9 : PySem.W.codeIn K cd9 "total" = true)
    (k9 : PySem.W.keepIn K (.ref f9) = true)
    (a10 : PySem.W.nsIn K mainGlobals "are_lots" = some (some (.ref f10)))
    (l10 : K.lookup f10 = some ⟨oc10, od10, .func (PySem.W.fnOf "are_lots" "are_lots" (defArgs s_are_lots) (defBody s_are_lots) (defScope s_are_lots) .none kV10 dc10 pm10 an10 cd10 ct10), sl10⟩)
    (c10 : PySem.W.codeIn K cd10 "are_lots" = true)
    (k10 : PySem.W.keepIn K (.ref f10) = true)
    (a11 : PySem.W.nsIn K mainGlobals "_law_cell" = some (some (.ref f11)))
    (l11 : K.lookup f11 = some ⟨oc11, od11, .func (PySem.W.fnOf "_law_cell" "_law_cell" (defArgs s_law_cell) (defBody s_law_cell) (defScope s_law_cell) .none kV11 dc11 pm11 an11 cd11 ct11), sl11⟩)
    (c11 : PySem.W.codeIn K cd11 "_law_cell" = true)
    (k11 : PySem.W.keepIn K (.ref f11) = true)
    (a12 : PySem.W.nsIn K mainGlobals "_law_bool" = some (some (.ref f12)))
    (l12 : K.lookup f12 = some ⟨oc12, od12, .func (PySem.W.fnOf "_law_bool" "_law_bool" (defArgs s_law_bool) (defBody s_law_bool) (defScope s_law_bool) .none kV12 dc12 pm12 an12 cd12 ct12), sl12⟩)
    (c12 : PySem.W.codeIn K cd12 "_law_bool" = true)
    (k12 : PySem.W.keepIn K (.ref f12) = true)
    (a13 : PySem.W.nsIn K mainGlobals "law" = some (some (.ref f13)))
    (l13 : K.lookup f13 = some ⟨oc13, od13, .func (PySem.W.fnOf "law" "law" (defArgs s_law) (defBody s_law) (defScope s_law) .none kV13 dc13 pm13 an13 cd13 ct13), sl13⟩)
    (c13 : PySem.W.codeIn K cd13 "law" = true)
    (k13 : PySem.W.keepIn K (.ref f13) = true)
    (g_gcd : PySem.W.nsIn K mainGlobals "gcd" = some (some (.builtin "math.gcd")))
    (z_all : PySem.W.nsIn K mainGlobals "all" = some none)
    (z_bool : PySem.W.nsIn K mainGlobals "bool" = some none)
    (z_int : PySem.W.nsIn K mainGlobals "int" = some none)
    (z_isinstance : PySem.W.nsIn K mainGlobals "isinstance" = some none)
    (z_len : PySem.W.nsIn K mainGlobals "len" = some none)
    (z_list : PySem.W.nsIn K mainGlobals "list" = some none)
    (z_max : PySem.W.nsIn K mainGlobals "max" = some none)
    (z_sum : PySem.W.nsIn K mainGlobals "sum" = some none) :
    ∃ fd : FuncData, (∀ (s : Shared) (v : Value), BindsTo s fd ⟨[v], []⟩ [("script", v)]) ∧ ∀ base : Heap, K.In base → base.Ns mainGlobals mg → FnOk l.prog w K mg base CX0 10 fa fd ["script"] (spLaw K) := by
  have e := hfa.symm.trans (PySem.W.mg_of X G a13)
  cases e
  have FD1 : FunD K "__init__" "Ratio.__init__" (defArgs s_Ratio_init) (defBody s_Ratio_init) (defScope s_Ratio_init) [.int 1] [] f1 _ := ⟨⟨_, _, _, _, _, _, _, _, _, _, rfl, l1, c1, .inr ⟨(by simp), _, _, _, _, rfl, t1, rfl, (.cons (by first | exact ⟨_, rfl⟩ | rfl) .nil)⟩, .inl rfl⟩, k1⟩
  obtain ⟨dz1, vz1, bz1⟩ := FD1.binds1 (ps := ["self", "num", "den"]) 3 1 (by simp) (by decide) (fun _ _ _ _ _ _ _ us its h1 h2 => match us, its, h1, h2 with | [_, _, _], [_], _, _ => ⟨_, rfl, rfl⟩)
  cases vz1
  obtain ⟨ds1, vd1, bd1⟩ := FD1.binds1 (ps := ["self", "num", "den"]) 2 0 (by simp) (by decide) (fun _ _ _ _ _ _ _ us its h1 h2 => match us, its, h1, h2 with | [_, _], [_], _, _ => ⟨_, rfl, rfl⟩)
  let T : Txt K mg := { C_Ratio := C_Ratio, m_Ratio := PySem.W.mg_of X G ac_Ratio, cl_Ratio := ⟨pg_Ratio, hd_Ratio, po_Ratio, sa_Ratio⟩, n_Ratio_num := na_Ratio_num, n_Ratio_den := na_Ratio_den, sf_Ratio := sf_Ratio, ic_Ratio := ⟨⟨pg_Ratio, hd_Ratio, po_Ratio, sa_Ratio⟩, xa_Ratio, xn_Ratio, xt_Ratio, xm_Ratio, (by unfold PySem.W.kitOne; simp)⟩, a_Ratio_init := f1, d_Ratio_init := _, F_Ratio_init := FD1, ds_Ratio_init := ds1, v_Ratio_init := vd1, bd_Ratio_init := bd1, b_Ratio_init := bz1, mk_Ratio := ⟨mkc_Ratio, a1, i1, kpc_Ratio⟩, a_Ratio_add := f2, d_Ratio_add := _, F_Ratio_add := fun_mk (st := s_Ratio_add) l2 c2 k2, b_Ratio_add := (fun_mk (st := s_Ratio_add) l2 c2 k2).binds (ps := ["self", "other"]) (fun _ _ _ _ _ _ us hl => match us, hl with | [_, _], _ => rfl), me_Ratio_add := ⟨a2, i2, k2⟩, a_Ratio_sub := f3, d_Ratio_sub := _, F_Ratio_sub := fun_mk (st := s_Ratio_sub) l3 c3 k3, b_Ratio_sub := (fun_mk (st := s_Ratio_sub) l3 c3 k3).binds (ps := ["self", "other"]) (fun _ _ _ _ _ _ us hl => match us, hl with | [_, _], _ => rfl), me_Ratio_sub := ⟨a3, i3, k3⟩, a_Ratio_mul := f4, d_Ratio_mul := _, F_Ratio_mul := fun_mk (st := s_Ratio_mul) l4 c4 k4, b_Ratio_mul := (fun_mk (st := s_Ratio_mul) l4 c4 k4).binds (ps := ["self", "other"]) (fun _ _ _ _ _ _ us hl => match us, hl with | [_, _], _ => rfl), me_Ratio_mul := ⟨a4, i4, k4⟩, a_Ratio_neg := f5, d_Ratio_neg := _, F_Ratio_neg := fun_mk (st := s_Ratio_neg) l5 c5 k5, b_Ratio_neg := (fun_mk (st := s_Ratio_neg) l5 c5 k5).binds (ps := ["self"]) (fun _ _ _ _ _ _ us hl => match us, hl with | [_], _ => rfl), me_Ratio_neg := ⟨a5, i5, k5⟩, a_Ratio_eq := f6, d_Ratio_eq := _, F_Ratio_eq := fun_mk (st := s_Ratio_eq) l6 c6 k6, b_Ratio_eq := (fun_mk (st := s_Ratio_eq) l6 c6 k6).binds (ps := ["self", "other"]) (fun _ _ _ _ _ _ us hl => match us, hl with | [_, _], _ => rfl), me_Ratio_eq := ⟨a6, i6, k6⟩, a_Ratio_ne := f7, d_Ratio_ne := _, F_Ratio_ne := fun_mk (st := s_Ratio_ne) l7 c7 k7, b_Ratio_ne := (fun_mk (st := s_Ratio_ne) l7 c7 k7).binds (ps := ["self", "other"]) (fun _ _ _ _ _ _ us hl => match us, hl with | [_, _], _ => rfl), me_Ratio_ne := ⟨a7, i7, k7⟩, a_Ratio_sign := f8, d_Ratio_sign := _, F_Ratio_sign := fun_mk (st := s_Ratio_sign) l8 c8 k8, b_Ratio_sign := (fun_mk (st := s_Ratio_sign) l8 c8 k8).binds (ps := ["self"]) (fun _ _ _ _ _ _ us hl => match us, hl with | [_], _ => rfl), me_Ratio_sign := ⟨a8, i8, k8⟩, a_total := f9, d_total := _, F_total := fun_mk (st := s_total) l9 c9 k9, b_total := (fun_mk (st := s_total) l9 c9 k9).binds (ps := ["ratios"]) (fun _ _ _ _ _ _ us hl => match us, hl with | [_], _ => rfl), m_total := PySem.W.mg_of X G a9, a_are_lots := f10, d_are_lots := _, F_are_lots := fun_mk (st := s_are_lots) l10 c10 k10, b_are_lots := (fun_mk (st := s_are_lots) l10 c10 k10).binds (ps := ["ratios"]) (fun _ _ _ _ _ _ us hl => match us, hl with | [_], _ => rfl), m_are_lots := PySem.W.mg_of X G a10, a_law_cell := f11, d_law_cell := _, F_law_cell := fun_mk (st := s_law_cell) l11 c11 k11, b_law_cell := (fun_mk (st := s_law_cell) l11 c11 k11).binds (ps := ["script", "k"]) (fun _ _ _ _ _ _ us hl => match us, hl with | [_, _], _ => rfl), m_law_cell := PySem.W.mg_of X G a11, a_law_bool := f12, d_law_bool := _, F_law_bool := fun_mk (st := s_law_bool) l12 c12 k12, b_law_bool := (fun_mk (st := s_law_bool) l12 c12 k12).binds (ps := ["actual", "due"]) (fun _ _ _ _ _ _ us hl => match us, hl with | [_, _], _ => rfl), m_law_bool := PySem.W.mg_of X G a12, a_law := fa, d_law := _, F_law := fun_mk (st := s_law) l13 c13 k13, b_law := (fun_mk (st := s_law) l13 c13 k13).binds (ps := ["script"]) (fun _ _ _ _ _ _ us hl => match us, hl with | [_], _ => rfl), m_law := PySem.W.mg_of X G a13, g_gcd := PySem.W.mg_of X G g_gcd, z_all := PySem.W.mg_none_of X G z_all, z_bool := PySem.W.mg_none_of X G z_bool, z_int := PySem.W.mg_none_of X G z_int, z_isinstance := PySem.W.mg_none_of X G z_isinstance, z_len := PySem.W.mg_none_of X G z_len, z_list := PySem.W.mg_none_of X G z_list, z_max := PySem.W.mg_none_of X G z_max, z_sum := PySem.W.mg_none_of X G z_sum }
  exact ⟨T.d_law, fun s v => .of_eq rfl, fun base _ _ => ok_law T⟩
end Own
open PySem PySem.W PyProof.Rows
set_option maxHeartbeats 0 in
theorem PySem.Challenge.cw_sureplay_k08_lists_of_lots_holds : PySem.Challenge.rw_sureplay_k08_lists_of_lots.Holds := by
  w_on; o_law; k_head; (case hw => w_witness2)
  k_fill
  refine L2.walk_of (l := PySem.Challenge.rw_sureplay_k08_lists_of_lots) (n := 63) (k := 10) (x := "script") (CX := fun _ => L2.CX0) (sp := fun w => Own.spLaw _) rfl (by decide) rfl ⟨rfl, by decide, by decide⟩ (fun w h Y => PySem.W.kIn_of Y) ?F (fun _ _ a ns hl _ hS => ⟨a, ns, rfl, hS, hl, fun _ => rfl⟩) (fun _ _ _ _ _ h => h)
  case F =>
    intro w mg fa h KX G hmg
    refine' Own.all_mk KX G hmg ?ac_Ratio ?pg_Ratio ?hd_Ratio ?po_Ratio ?sa_Ratio ?mkc_Ratio ?kpc_Ratio ?na_Ratio_num ?na_Ratio_den ?sf_Ratio ?xa_Ratio ?xn_Ratio ?xt_Ratio ?xm_Ratio ?a1 ?i1 ?l1 ?c1 ?k1 ?t1 ?a2 ?i2 ?l2 ?c2 ?k2 ?a3 ?i3 ?l3 ?c3 ?k3 ?a4 ?i4 ?l4 ?c4 ?k4 ?a5 ?i5 ?l5 ?c5 ?k5 ?a6 ?i6 ?l6 ?c6 ?k6 ?a7 ?i7 ?l7 ?c7 ?k7 ?a8 ?i8 ?l8 ?c8 ?k8 ?a9 ?l9 ?c9 ?k9 ?a10 ?l10 ?c10 ?k10 ?a11 ?l11 ?c11 ?k11 ?a12 ?l12 ?c12 ?k12 ?a13 ?l13 ?c13 ?k13 ?g_gcd ?z_all ?z_bool ?z_int ?z_isinstance ?z_len ?z_list ?z_max ?z_sum
    (case ac_Ratio => k_is)
    (case pg_Ratio => k_is)
    (case hd_Ratio => k_is)
    (case po_Ratio => k_is)
    (case sa_Ratio => k_is)
    (case mkc_Ratio => k_is)
    (case kpc_Ratio => k_is)
    (case na_Ratio_num => k_is)
    (case na_Ratio_den => k_is)
    (case sf_Ratio => k_is)
    (case xa_Ratio => k_is)
    (case xn_Ratio => k_is)
    (case xt_Ratio => k_is)
    (case xm_Ratio => k_is)
    (case a1 => k_is)
    (case i1 => k_is)
    (case l1 => k_is)
    (case c1 => k_is)
    (case k1 => k_is)
    (case t1 => k_is)
    (case a2 => k_is)
    (case i2 => k_is)
    (case l2 => k_is)
    (case c2 => k_is)
    (case k2 => k_is)
    (case a3 => k_is)
    (case i3 => k_is)
    (case l3 => k_is)
    (case c3 => k_is)
    (case k3 => k_is)
    (case a4 => k_is)
    (case i4 => k_is)
    (case l4 => k_is)
    (case c4 => k_is)
    (case k4 => k_is)
    (case a5 => k_is)
    (case i5 => k_is)
    (case l5 => k_is)
    (case c5 => k_is)
    (case k5 => k_is)
    (case a6 => k_is)
    (case i6 => k_is)
    (case l6 => k_is)
    (case c6 => k_is)
    (case k6 => k_is)
    (case a7 => k_is)
    (case i7 => k_is)
    (case l7 => k_is)
    (case c7 => k_is)
    (case k7 => k_is)
    (case a8 => k_is)
    (case i8 => k_is)
    (case l8 => k_is)
    (case c8 => k_is)
    (case k8 => k_is)
    (case a9 => k_is)
    (case l9 => k_is)
    (case c9 => k_is)
    (case k9 => k_is)
    (case a10 => k_is)
    (case l10 => k_is)
    (case c10 => k_is)
    (case k10 => k_is)
    (case a11 => k_is)
    (case l11 => k_is)
    (case c11 => k_is)
    (case k11 => k_is)
    (case a12 => k_is)
    (case l12 => k_is)
    (case c12 => k_is)
    (case k12 => k_is)
    (case a13 => k_is)
    (case l13 => k_is)
    (case c13 => k_is)
    (case k13 => k_is)
    (case g_gcd => k_is)
    (case z_all => k_is)
    (case z_bool => k_is)
    (case z_int => k_is)
    (case z_isinstance => k_is)
    (case z_len => k_is)
    (case z_list => k_is)
    (case z_max => k_is)
    (case z_sum => k_is)
#print axioms PySem.Challenge.cw_sureplay_k08_lists_of_lots_holds
