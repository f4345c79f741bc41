import PyProof.Rows.All
import Wide.All
import OpenK.AllK
import Wide.FinOn
import HandS.TupAny
import HandS.ForMost
import HandS.IsInst
import HandS.Codes
import HandS.Defaults
import HandS.Walk
import HandS.Text
import HandS.Dict
import HandS.Small
import HandS.More
import HandS.DeepEq
import HandS.TupMul
import HandS.ReCall
import HandS.Strs
import HandS.Star
import HandS.RaiseMore
import PySem.Challenge.RW_sureplay_k70_code_of_an_expression
set_option Elab.async false
set_option linter.all false
set_option maxRecDepth 100000
set_option maxHeartbeats 4000000
namespace Own
open PySem PySem.Spec PyProof.Rows L2
def topS (i : Nat) : Stmt := PySem.Challenge.pw_sureplay_k70_code_of_an_expression.main.body.getD i (.Pass ⟨0, 0, 0, 0⟩)
abbrev s_combine : Stmt := (topS 4)
abbrev N_combine : List Str := ["sign", "left", "right"]
theorem sc_combine : FnScope N_combine ["sign", "left", "right"] (defScope s_combine) := ⟨rfl, rfl, rfl, by decide +kernel, rfl, by decide +kernel, by decide +kernel⟩
abbrev s_value_of : Stmt := (topS 5)
abbrev N_value_of : List Str := ["expression", "table", "on", "seen", "kind", "index", "chosen", "left", "right"]
theorem sc_value_of : FnScope N_value_of ["expression", "table", "on", "seen"] (defScope s_value_of) := ⟨rfl, rfl, rfl, by decide +kernel, rfl, by decide +kernel, by decide +kernel⟩
abbrev s_expression_code : Stmt := (topS 7)
abbrev N_expression_code : List Str := ["expression", "slots", "on", "kind", "left", "right"]
theorem sc_expression_code : FnScope N_expression_code ["expression", "slots", "on"] (defScope s_expression_code) := ⟨rfl, rfl, rfl, by decide +kernel, rfl, by decide +kernel, by decide +kernel⟩
abbrev s_law_pool : Stmt := (topS 9)
abbrev N_law_pool : List Str := ["script", "budget"]
theorem sc_law_pool : FnScope N_law_pool ["script", "budget"] (defScope s_law_pool) := ⟨rfl, rfl, rfl, by decide +kernel, rfl, by decide +kernel, by decide +kernel⟩
abbrev s_law_draw : Stmt := (topS 10)
abbrev N_law_draw : List Str := ["pool", "size", "cell", "value"]
theorem sc_law_draw : FnScope N_law_draw ["pool", "size"] (defScope s_law_draw) := ⟨rfl, rfl, rfl, by decide +kernel, rfl, by decide +kernel, by decide +kernel⟩
abbrev s_law_spend : Stmt := (topS 11)
abbrev N_law_spend : List Str := ["pool"]
theorem sc_law_spend : FnScope N_law_spend ["pool"] (defScope s_law_spend) := ⟨rfl, rfl, rfl, by decide +kernel, rfl, by decide +kernel, by decide +kernel⟩
abbrev s_law_few : Stmt := (topS 12)
abbrev N_law_few : List Str := ["pool", "most", "few"]
theorem sc_law_few : FnScope N_law_few ["pool", "most"] (defScope s_law_few) := ⟨rfl, rfl, rfl, by decide +kernel, rfl, by decide +kernel, by decide +kernel⟩
abbrev s_law_number : Stmt := (topS 13)
abbrev N_law_number : List Str := ["pool"]
theorem sc_law_number : FnScope N_law_number ["pool"] (defScope s_law_number) := ⟨rfl, rfl, rfl, by decide +kernel, rfl, by decide +kernel, by decide +kernel⟩
abbrev s_law_same : Stmt := (topS 14)
abbrev N_law_same : List Str := ["actual", "due", "k"]
theorem sc_law_same : FnScope N_law_same ["actual", "due"] (defScope s_law_same) := ⟨rfl, rfl, rfl, by decide +kernel, rfl, by decide +kernel, by decide +kernel⟩
abbrev s_law_keys : Stmt := (topS 15)
abbrev N_law_keys : List Str := ["text"]
theorem sc_law_keys : FnScope N_law_keys [] (defScope s_law_keys) := ⟨rfl, rfl, rfl, by decide +kernel, rfl, by decide +kernel, by decide +kernel⟩
abbrev s_law_name : Stmt := (topS 16)
abbrev N_law_name : List Str := ["pool", "taken", "signs", "name", "k"]
theorem sc_law_name : FnScope N_law_name ["pool", "taken"] (defScope s_law_name) := ⟨rfl, rfl, rfl, by decide +kernel, rfl, by decide +kernel, by decide +kernel⟩
abbrev s_law_names : Stmt := (topS 17)
abbrev N_law_names : List Str := ["pool", "most", "names", "k"]
theorem sc_law_names : FnScope N_law_names ["pool", "most"] (defScope s_law_names) := ⟨rfl, rfl, rfl, by decide +kernel, rfl, by decide +kernel, by decide +kernel⟩
abbrev s_law_expression : Stmt := (topS 18)
abbrev N_law_expression : List Str := ["pool", "names", "picks", "deep", "kind", "pick", "left", "sign"]
theorem sc_law_expression : FnScope N_law_expression ["pool", "names", "picks", "deep"] (defScope s_law_expression) := ⟨rfl, rfl, rfl, by decide +kernel, rfl, by decide +kernel, by decide +kernel⟩
abbrev s_law_combine : Stmt := (topS 19)
abbrev N_law_combine : List Str := ["sign", "a", "b", "whole"]
theorem sc_law_combine : FnScope N_law_combine ["sign", "a", "b"] (defScope s_law_combine) := ⟨rfl, rfl, rfl, by decide +kernel, rfl, by decide +kernel, by decide +kernel⟩
abbrev s_law_run : Stmt := (topS 20)
abbrev N_law_run : List Str := ["code", "cells", "seen", "stack", "pair", "takes", "at", "right"]
theorem sc_law_run : FnScope N_law_run ["code", "cells", "seen"] (defScope s_law_run) := ⟨rfl, rfl, rfl, by decide +kernel, rfl, by decide +kernel, by decide +kernel⟩
abbrev s_law_code : Stmt := (topS 21)
abbrev N_law_code : List Str := ["due", "slots", "on", "sign"]
theorem sc_law_code : FnScope N_law_code ["due", "slots", "on"] (defScope s_law_code) := ⟨rfl, rfl, rfl, by decide +kernel, rfl, by decide +kernel, by decide +kernel⟩
abbrev s_law : Stmt := (topS 22)
abbrev N_law : List Str := ["script", "pool", "names", "picks", "table", "name", "on", "seen", "plain", "code", "stack", "k"]
theorem sc_law : FnScope N_law ["script"] (defScope s_law) := ⟨rfl, rfl, rfl, by decide +kernel, rfl, by decide +kernel, by decide +kernel⟩
def spLaw (K : PySem.W.Frag) : Sp := fun vs H Q _ => ∃ (a : Addr) (ns : List Int), vs = [.ref a] ∧ SqL K H a (ns.map V.int) ∧ ns.length ≤ 63 ∧ ∀ H', Q (.bl true) H'
def cell (ns : List Int) (k : Int) : Int := ns.getD k.toNat 0
theorem same_upd {H : Hp} {p : Addr} {o : HO} (h : H p = none) : Same H (upd H p o) := fun b x e => by
  rw [upd_ne (ne_of_none e h)]
  exact e
theorem cut_from (xs : List V) (k : Nat) : cutV xs (some (k : Int)) none = xs.drop k := by
  unfold cutV
  rw [HT.sIx_nat, HT.sIx_none]
  by_cases h : k ≤ xs.length
  · rw [Nat.min_eq_left h]
    exact List.take_of_length_le (by rw [List.length_drop]; omega)
  · rw [Nat.min_eq_right (by omega), List.drop_eq_nil_of_le (by omega), List.drop_eq_nil_of_le (by omega)]
    simp
theorem cut_to (xs : List V) (k : Nat) : cutV xs none (some (k : Int)) = xs.take k := by
  unfold cutV
  rw [HT.sIx_nat, HT.sIx_none, List.drop_zero, Nat.sub_zero]
  by_cases h : k ≤ xs.length
  · rw [Nat.min_eq_left h]
  · rw [Nat.min_eq_right (by omega), List.take_of_length_le (Nat.le_refl _), List.take_of_length_le (by omega)]
theorem cut_to' (xs : List V) (k : Int) (h : 0 ≤ k) : cutV xs none (some k) = xs.take k.toNat := by
  obtain ⟨m, rfl⟩ := Int.eq_ofNat_of_zero_le h
  exact cut_to xs m
theorem cut_from' (xs : List V) (k : Int) (h : 0 ≤ k) : cutV xs (some k) none = xs.drop k.toNat := by
  obtain ⟨m, rfl⟩ := Int.eq_ofNat_of_zero_le h
  exact cut_from xs m
theorem small_le {n : Nat} (h : n ≤ 1000) : n ≤ sizeLine := Nat.le_of_lt (small1000 h)
theorem at_ofG {α : Type} {xs : List α} {z : Int} {j : Nat} {v : α} (e : z = (j : Int)) (h : xs[j]? = some v) : atI xs z = some v := by
  rw [e]
  exact atI_nat h
theorem int_of_map {ns : List Int} {i : Nat} {y : V} (hi : (ns.map V.int)[i]? = some y) : ∃ z, ns[i]? = some z ∧ y = V.int z := by
  rw [List.getElem?_map] at hi
  cases e : ns[i]? with
  | none => rw [e] at hi; cases hi
  | some u => rw [e] at hi; exact ⟨u, rfl, (Option.some.inj hi).symm⟩
theorem dp_ints {K : PySem.W.Frag} {H : Hp} : ∀ ns : List Int, DpAll K H (ns.map V.int) (ns.map PyData.int)
  | [] => .nil
  | n :: r => .cons (.int n) (dp_ints r)
theorem lay_ints : ∀ ns : List Int, PyData.canLayAll0 (ns.map PyData.int) = true ∧ PyData.depthAll (ns.map PyData.int) = 0
  | [] => ⟨by simp [PyData.canLayAll0], by simp [PyData.depthAll]⟩
  | n :: r => by
    have ih := lay_ints r
    exact ⟨by simp [PyData.canLayAll0, PyData.canLay0, ih.1], by simp [PyData.depthAll, PyData.depth, ih.2]⟩
theorem shaped_ints (ns : List Int) : SeqAt.shaped (.list (ns.map PyData.int)) = true := by
  have h := lay_ints ns
  unfold SeqAt.shaped
  simp [PyData.canLay0, PyData.depth, h.1, h.2]
theorem eqv_ints (ns : List Int) : PyData.eqv (.list (ns.map PyData.int)) (.list (ns.map PyData.int)) = true :=
  SeqAt.eqv_refl _ (by rw [PyData.canLay0]; exact (lay_ints ns).1)

mutual
/-- data that never changes: scalars and tracked tuples of such -/
inductive Im (H : Hp) : V → PyData → Prop
  | non : Im H .non .none
  | bl (b : Bool) : Im H (.bl b) (.bool b)
  | int (i : Int) : Im H (.int i) (.int i)
  | str (x : Str) : Im H (.str x) (.str x)
  | tup {a : Addr} {xs : List V} {ds : List PyData} : H a = some (.tup xs) → ImAll H xs ds → Im H (.ref a) (.tuple ds)
inductive ImAll (H : Hp) : List V → List PyData → Prop
  | nil : ImAll H [] []
  | cons {v : V} {vs : List V} {d : PyData} {ds : List PyData} : Im H v d → ImAll H vs ds → ImAll H (v :: vs) (d :: ds)
end
/-- the tracked tuples stay -/
def KeepT (H H' : Hp) : Prop := ∀ b xs, H b = some (.tup xs) → H' b = some (.tup xs)
theorem KeepT.refl (H : Hp) : KeepT H H := fun _ _ h => h
theorem KeepT.trans {H H1 H2 : Hp} (a : KeepT H H1) (b : KeepT H1 H2) : KeepT H H2 := fun c x h => b c x (a c x h)
theorem keepT_of {H H' : Hp} (s : Same H H') : KeepT H H' := fun b xs h => s b _ h
theorem keepT_lst {H : Hp} {p : Addr} {xs ys : List V} (h : H p = some (.lst xs)) : KeepT H (upd H p (.lst ys)) := fun b zs e => by
  have n : b ≠ p := fun q => by rw [q, h] at e; cases e
  rw [upd_ne n]
  exact e
mutual
theorem Im.keep {H H' : Hp} (k : KeepT H H') : ∀ {v : V} {d : PyData}, Im H v d → Im H' v d
  | _, _, .non => .non
  | _, _, .bl b => .bl b
  | _, _, .int i => .int i
  | _, _, .str x => .str x
  | _, _, .tup h a => .tup (k _ _ h) (ImAll.keep k a)
theorem ImAll.keep {H H' : Hp} (k : KeepT H H') : ∀ {vs : List V} {ds : List PyData}, ImAll H vs ds → ImAll H' vs ds
  | _, _, .nil => .nil
  | _, _, .cons h a => .cons (Im.keep k h) (ImAll.keep k a)
end
mutual
theorem Im.dp {K : PySem.W.Frag} {H : Hp} : ∀ {v : V} {d : PyData}, Im H v d → Dp K H v d
  | _, _, .non => .non
  | _, _, .bl b => .bl b
  | _, _, .int i => .int i
  | _, _, .str x => .str x
  | _, _, .tup h a => .tup (SqT.of h) (ImAll.dp a)
theorem ImAll.dp {K : PySem.W.Frag} {H : Hp} : ∀ {vs : List V} {ds : List PyData}, ImAll H vs ds → DpAll K H vs ds
  | _, _, .nil => .nil
  | _, _, .cons h a => .cons (Im.dp h) (ImAll.dp a)
end
theorem ImAll.len {H : Hp} : ∀ {vs : List V} {ds : List PyData}, ImAll H vs ds → vs.length = ds.length
  | _, _, .nil => rfl
  | _, _, .cons _ a => by rw [List.length_cons, List.length_cons, ImAll.len a]
theorem ImAll.append {H : Hp} : ∀ {vs us : List V} {ds es : List PyData}, ImAll H vs ds → ImAll H us es → ImAll H (vs ++ us) (ds ++ es)
  | _, _, _, _, .nil, b => b
  | _, _, _, _, .cons h a, b => .cons h (ImAll.append a b)
theorem ImAll.get {H : Hp} : ∀ {vs : List V} {ds : List PyData} {i : Nat} {d : PyData}, ImAll H vs ds → ds[i]? = some d → ∃ v, vs[i]? = some v ∧ Im H v d
  | _, _, 0, _, .cons h _, e => by
    cases e
    exact ⟨_, rfl, h⟩
  | _, _, i + 1, _, .cons _ a, e => by
    rw [List.getElem?_cons_succ] at e
    rw [List.getElem?_cons_succ]
    exact ImAll.get a e
theorem ImAll.take {H : Hp} : ∀ {vs : List V} {ds : List PyData} (i : Nat), ImAll H vs ds → ImAll H (vs.take i) (ds.take i)
  | _, _, 0, _ => by
    rw [List.take_zero, List.take_zero]
    exact .nil
  | _, _, _ + 1, .nil => by
    rw [List.take_nil, List.take_nil]
    exact .nil
  | _, _, i + 1, .cons h a => .cons h (ImAll.take i a)
theorem ImAll.snoc {H : Hp} {vs : List V} {ds : List PyData} {v : V} {d : PyData} (a : ImAll H vs ds) (h : Im H v d) : ImAll H (vs ++ [v]) (ds ++ [d]) := a.append (.cons h .nil)
theorem ImAll.rev {H : Hp} : ∀ {vs : List V} {ds : List PyData}, ImAll H vs ds → ImAll H vs.reverse ds.reverse
  | _, _, .nil => .nil
  | _, _, .cons h a => by
    rw [List.reverse_cons, List.reverse_cons]
    exact (ImAll.rev a).snoc h
mutual
/-- all sequences are short -/
def wide : PyData → Bool
  | .list xs => decide (xs.length ≤ 1000000) && wideAll xs
  | .tuple xs => decide (xs.length ≤ 1000000) && wideAll xs
  | .none => true
  | .bool _ => true
  | .int _ => true
  | .str _ => true
  | .dict _ => false
def wideAll : List PyData → Bool
  | [] => true
  | x :: r => wide x && wideAll r
end
/-- what a comparison asks of data: sizes -/
def Lay (n : Nat) (d : PyData) : Prop := d.canLay0 = true ∧ d.depth ≤ n ∧ wide d = true
theorem lay_all : ∀ {n : Nat} {ds : List PyData}, (∀ d ∈ ds, Lay n d) → PyData.canLayAll0 ds = true ∧ PyData.depthAll ds ≤ n ∧ wideAll ds = true
  | n, [], _ => ⟨by simp [PyData.canLayAll0], by simp [PyData.depthAll], by simp [wideAll]⟩
  | n, d :: r, h => by
    have h1 := h d List.mem_cons_self
    have h2 := lay_all fun e he => h e (List.mem_cons_of_mem d he)
    refine ⟨by simp [PyData.canLayAll0, h1.1, h2.1], ?_, by simp [wideAll, h1.2.2, h2.2.2]⟩
    simp only [PyData.depthAll]
    exact Nat.max_le.mpr ⟨h1.2.1, h2.2.1⟩
theorem lay_tuple {n : Nat} {ds : List PyData} (hl : ds.length ≤ 1000000) (h : ∀ d ∈ ds, Lay n d) : Lay (n + 1) (.tuple ds) := by
  have q := lay_all h
  exact ⟨by simp [PyData.canLay0, q.1], by simp only [PyData.depth]; omega, by simp only [wide, q.2.2, decide_eq_true hl]; rfl⟩
theorem lay_list {n : Nat} {ds : List PyData} (hl : ds.length ≤ 1000000) (h : ∀ d ∈ ds, Lay n d) : Lay (n + 1) (.list ds) := by
  have q := lay_all h
  exact ⟨by simp [PyData.canLay0, q.1], by simp only [PyData.depth]; omega, by simp only [wide, q.2.2, decide_eq_true hl]; rfl⟩
theorem Lay.mono {n m : Nat} {d : PyData} (h : Lay n d) (l : n ≤ m) : Lay m d := ⟨h.1, Nat.le_trans h.2.1 l, h.2.2⟩
theorem Lay.shaped {n : Nat} {d : PyData} (h : Lay n d) (l : n ≤ 64) : SeqAt.shaped d = true := by
  unfold SeqAt.shaped
  rw [h.1, decide_eq_true (Nat.le_trans h.2.1 l)]
  rfl
theorem Lay.refl {n : Nat} {d : PyData} (h : Lay n d) : PyData.eqv d d = true := SeqAt.eqv_refl _ h.1
theorem lay_int (i : Int) : Lay 0 (.int i) := ⟨by simp [PyData.canLay0], by simp [PyData.depth], by simp [wide]⟩
theorem lay_str {x : Str} (h : PyData.strOk x = true) : Lay 0 (.str x) := ⟨by simp [PyData.canLay0, h], by simp [PyData.depth], by simp [wide]⟩
theorem lay_none : Lay 0 .none := ⟨by simp [PyData.canLay0], by simp [PyData.depth], by simp [wide]⟩
theorem lay_bool (b : Bool) : Lay 0 (.bool b) := ⟨by simp [PyData.canLay0], by simp [PyData.depth], by simp [wide]⟩
theorem wide_get {ds : List PyData} {i : Nat} {d : PyData} : wideAll ds = true → ds[i]? = some d → wide d = true := by
  induction ds generalizing i with
  | nil => intro _ h; simp at h
  | cons x r ih =>
    intro hw h
    simp only [wideAll, Bool.and_eq_true] at hw
    cases i with
    | zero => cases h; exact hw.1
    | succ i => exact ih (i := i) hw.2 (by rw [List.getElem?_cons_succ] at h; exact h)
/-- view + (event,) -/
theorem cat_ev {K : PySem.W.Frag} {H : Hp} {v t u : Addr} {xs : List V} {ds : List PyData} {e : PyData} {Q : VK} (hv : H v = some (.tup xs)) (hA : ImAll H xs ds) (he : Im H (.ref t) e) (hu : H u = some (.tup [.ref t])) (hz : xs.length ≤ 900)
    (k : ∀ (p : Addr) (H' : Hp), Same H H' → Im H' (.ref p) (.tuple (ds ++ [e])) → Q (.ref p) H') : rCatA K (.ref v) (.ref u) H Q := by
  refine ⟨v, u, xs, [.ref t], rfl, rfl, SqT.of hv, SqT.of hu, by show xs.length + 1 ≤ sizeLine; exact small_le (by omega), fun z => ?_, fun _ z => (by cases z), fun _ _ p hp => ?_⟩
  · subst z
    cases hA
    exact k u H (Same.refl H) (.tup hu (.cons he .nil))
  · exact k p _ (same_upd hp) (.tup upd_same ((hA.snoc he).keep (keepT_of (same_upd hp))))
theorem upd2_same {H : Hp} {t u : Addr} {o o' : HO} (ht : H t = none) (hu : upd H t o u = none) : Same H (upd (upd H t o) u o') := (same_upd ht).trans (same_upd hu)


/-- the drawing pool at p: the script's cells at c, five numbers -/
def Pool (H : Hp) (p c : Addr) (b : Int) : Prop := ∃ (ns : List Int) (i r s t : Int), H p = some (.lst [.ref c, .int i, .int r, .int s, .int t, .int b]) ∧ H c = some (.lst (ns.map V.int)) ∧ 0 ≤ i ∧ c ≠ p
def But (p : Addr) (H H' : Hp) : Prop := ∀ b o, b ≠ p → H b = some o → H' b = some o
theorem But.refl (p : Addr) (H : Hp) : But p H H := fun _ _ _ h => h
theorem But.trans {p : Addr} {H H1 H2 : Hp} (a : But p H H1) (b : But p H1 H2) : But p H H2 := fun c o n h => b c o n (a c o n h)
theorem but_of {p : Addr} {H H' : Hp} (s : Same H H') : But p H H' := fun b o _ h => s b o h
theorem but_upd {p : Addr} {H : Hp} {o : HO} : But p H (upd H p o) := fun b x n e => by rw [upd_ne n]; exact e
/-- what stood before the list at p was made stays -/
theorem But.same {p : Addr} {H0 H H' : Hp} (b : But p H H') (s : Same H0 H) (n : H0 p = none) : Same H0 H' := fun c o e => b c o (ne_of_none e n) (s c o e)
theorem But.keepT {p : Addr} {xs : List V} {H H' : Hp} (b : But p H H') (h : H p = some (.lst xs)) : KeepT H H' := fun c ys e => b c _ (fun z => by rw [z, h] at e; cases e) e
theorem Pool.keepT {p c : Addr} {b : Int} {H H' : Hp} (h : Pool H p c b) (k : But p H H') : KeepT H H' := by
  obtain ⟨ns, i, r, s, t, hp, _⟩ := h
  exact k.keepT hp
theorem Pool.same {p c : Addr} {b : Int} {H H' : Hp} (h : Pool H p c b) (k : Same H H') : Pool H' p c b := by
  obtain ⟨ns, i, r, s, t, hp, hc, h0, n⟩ := h
  exact ⟨ns, i, r, s, t, k _ _ hp, k _ _ hc, h0, n⟩
theorem Pool.upd {p c q : Addr} {b : Int} {H : Hp} (h : Pool H p c b) (n1 : q ≠ p) (n2 : q ≠ c) (o : HO) : Pool (L2.upd H q o) p c b := by
  obtain ⟨ns, i, r, s, t, hp, hc, h0, n⟩ := h
  exact ⟨ns, i, r, s, t, by rw [upd_ne n1.symm]; exact hp, by rw [upd_ne n2.symm]; exact hc, h0, n⟩
theorem Pool.ne2 {p c q : Addr} {b : Int} {H : Hp} (h : Pool H p c b) (e : H q = none) : q ≠ c := by
  obtain ⟨ns, i, r, s, t, hp, hc, _⟩ := h
  exact fun z => by rw [z, hc] at e; cases e
theorem Pool.ne {p c q : Addr} {b : Int} {H : Hp} (h : Pool H p c b) (e : H q = none) : q ≠ p := by
  obtain ⟨ns, i, r, s, t, hp, _⟩ := h
  exact fun z => by rw [z, hp] at e; cases e
/-- data of any make: tuples and lists that are tracked -/
inductive Da (H : Hp) : V → PyData → Prop
  | non : Da H .non .none
  | bl (b : Bool) : Da H (.bl b) (.bool b)
  | int (i : Int) : Da H (.int i) (.int i)
  | str (x : Str) : Da H (.str x) (.str x)
  | tup {a : Addr} {xs : List V} {ds : List PyData} : H a = some (.tup xs) → xs.length = ds.length → (∀ (i : Nat) v d, xs[i]? = some v → ds[i]? = some d → Da H v d) → Da H (.ref a) (.tuple ds)
  | lst {a : Addr} {xs : List V} {ds : List PyData} : H a = some (.lst xs) → xs.length = ds.length → (∀ (i : Nat) v d, xs[i]? = some v → ds[i]? = some d → Da H v d) → Da H (.ref a) (.list ds)
mutual
theorem Im.da {H : Hp} : ∀ {v : V} {d : PyData}, Im H v d → Da H v d
  | _, _, .non => .non
  | _, _, .bl b => .bl b
  | _, _, .int i => .int i
  | _, _, .str x => .str x
  | _, _, .tup h a => .tup h a.len (ImAll.da a)
theorem ImAll.da {H : Hp} : ∀ {vs : List V} {ds : List PyData}, ImAll H vs ds → ∀ (i : Nat) v d, vs[i]? = some v → ds[i]? = some d → Da H v d
  | _, _, .nil => fun i v d h _ => by simp at h
  | _, _, .cons h a => fun i v d h1 h2 => match i, h1, h2 with
    | 0, h1, h2 => by
      cases h1
      cases h2
      exact Im.da h
    | i + 1, h1, h2 => ImAll.da a i v d (by rw [List.getElem?_cons_succ] at h1; exact h1) (by rw [List.getElem?_cons_succ] at h2; exact h2)
end
theorem Da.strs {H : Hp} {a : Addr} {ys : List Str} (h : H a = some (.lst (ys.map V.str))) : Da H (.ref a) (.list (ys.map PyData.str)) := by
  refine .lst h (by rw [List.length_map, List.length_map]) fun i v d h1 h2 => ?_
  rw [List.getElem?_map] at h1 h2
  cases e : ys[i]? with
  | none => rw [e] at h1; cases h1
  | some y =>
    rw [e] at h1 h2
    cases h1
    cases h2
    exact .str y
theorem depth_get {ds : List PyData} {i : Nat} {d : PyData} : ds[i]? = some d → d.depth ≤ PyData.depthAll ds := by
  induction ds generalizing i with
  | nil => intro h; simp at h
  | cons x r ih =>
    intro h
    simp only [PyData.depthAll]
    cases i with
    | zero => cases h; exact Nat.le_max_left _ _
    | succ i => exact Nat.le_trans (ih (i := i) (by rw [List.getElem?_cons_succ] at h; exact h)) (Nat.le_max_right _ _)

theorem d_room {A : Around} {k : Nat} (h : Room k A) : A.units + 1 < cLine := by
  have := h.un
  omega
theorem eq_room {A : Around} {k : Nat} (h : Room k A) : A.units + 64 < cLine := by
  have := h.un
  omega
def signL : List Str := ["+", "-", "*", "/", "mod", "<", "=", "+", "-"]
def opL : List Str := ["+", "-", "*", "/", "mod", "<", "="]
/-- an expression -/
inductive Ex where
  | num (n : Int) | var (x : Str) | long | view (e : Ex) | pick (x : Str) (a b : Ex) | op (s : Str) (a b : Ex)
def Ex.deep : Ex → Nat
  | .num _ => 1 | .var _ => 1 | .long => 1 | .view e => e.deep + 1 | .pick _ a b => max a.deep b.deep + 1 | .op _ a b => max a.deep b.deep + 1
def Ex.Wf (ns ps : List Str) : Ex → Prop
  | .num n => 0 ≤ n ∧ n < 65536
  | .var x => x ∈ ns
  | .long => True
  | .view e => e.Wf ns ps
  | .pick x a b => x ∈ ps ∧ a.Wf ns ps ∧ b.Wf ns ps
  | .op s a b => s ∈ opL ∧ a.Wf ns ps ∧ b.Wf ns ps
/-- it stands at v -/
inductive Ev (H : Hp) : V → Ex → Prop
  | num {a : Addr} {n : Int} : H a = some (.tup [.str "number", .int n]) → Ev H (.ref a) (.num n)
  | var {a : Addr} {x : Str} : H a = some (.tup [.str "variable", .str x]) → Ev H (.ref a) (.var x)
  | long {a : Addr} : H a = some (.tup [.str "long"]) → Ev H (.ref a) .long
  | view {a : Addr} {v : V} {e : Ex} : H a = some (.tup [.str "view", v]) → Ev H v e → Ev H (.ref a) (.view e)
  | pick {a : Addr} {x : Str} {v w : V} {e f : Ex} : H a = some (.tup [.str "pick", .str x, v, w]) → Ev H v e → Ev H w f → Ev H (.ref a) (.pick x e f)
  | op {a : Addr} {s : Str} {v w : V} {e f : Ex} : H a = some (.tup [.str s, v, w]) → Ev H v e → Ev H w f → Ev H (.ref a) (.op s e f)
theorem Ev.keep {H H' : Hp} (k : KeepT H H') : ∀ {v : V} {e : Ex}, Ev H v e → Ev H' v e
  | _, _, .num h => .num (k _ _ h)
  | _, _, .var h => .var (k _ _ h)
  | _, _, .long h => .long (k _ _ h)
  | _, _, .view h a => .view (k _ _ h) (Ev.keep k a)
  | _, _, .pick h a b => .pick (k _ _ h) (Ev.keep k a) (Ev.keep k b)
  | _, _, .op h a b => .op (k _ _ h) (Ev.keep k a) (Ev.keep k b)
def comb (s : Str) (a b : Int) : Int :=
  if s = "+" then (a + b) % 65536 else if s = "-" then max (a - b) 0 else if s = "*" then a * b % 65536 else if s = "/" then (if 0 < b then a / b else 0) else
  if s = "mod" then (if 0 < b then a % b else 0) else if s = "<" then (if a < b then 1 else 0) else (if a = b then 1 else 0)
def Ex.val (tb : Str → Int) (on : Str → Bool) (sn : List Int) : Ex → Int
  | .num n => n
  | .var x => tb x
  | .long => min (sn.length : Int) 65535
  | .view e => sn.getD (e.val tb on sn).toNat 0
  | .pick x a b => if on x = true then a.val tb on sn else b.val tb on sn
  | .op s a b => comb s (a.val tb on sn) (b.val tb on sn)
def Bd (n : Int) : Prop := 0 ≤ n ∧ n < 65536
theorem comb_bd {s : Str} {a b : Int} (ha : Bd a) (hb : Bd b) : Bd (comb s a b) := by
  obtain ⟨a0, a1⟩ := ha
  obtain ⟨b0, b1⟩ := hb
  unfold comb Bd
  split
  · omega
  split
  · omega
  split
  · exact ⟨Int.emod_nonneg _ (by decide), Int.emod_lt_of_pos _ (by decide)⟩
  split
  · split
    · rename_i h
      have h1 : 0 ≤ a / b := Int.ediv_nonneg a0 b0
      have h2 : a / b ≤ a := Int.ediv_le_self _ a0
      omega
    · decide
  split
  · split
    · rename_i h
      have h1 : 0 ≤ a % b := Int.emod_nonneg _ (by omega)
      have h2 : a % b < b := Int.emod_lt_of_pos _ h
      omega
    · decide
  split
  · split <;> decide
  · split <;> decide
theorem getD_bd {sn : List Int} (h : ∀ n ∈ sn, Bd n) (i : Nat) : Bd (sn.getD i 0) := by
  rw [List.getD_eq_getElem?_getD]
  cases e : sn[i]? with
  | none => exact ⟨by decide, by decide⟩
  | some n => exact h n (List.mem_of_getElem? e)
theorem val_bd {ns ps : List Str} {tb : Str → Int} {on : Str → Bool} {sn : List Int} (ht : ∀ x ∈ ns, Bd (tb x)) (hs : ∀ n ∈ sn, Bd n) : ∀ e : Ex, e.Wf ns ps → Bd (e.val tb on sn)
  | .num n, h => h
  | .var x, h => ht x h
  | .long, _ => by
    show Bd (min (sn.length : Int) 65535)
    unfold Bd
    omega
  | .view e, h => getD_bd hs _
  | .pick x a b, h => by
    show Bd (if on x = true then a.val tb on sn else b.val tb on sn)
    split
    · exact val_bd ht hs a h.2.1
    · exact val_bd ht hs b h.2.2
  | .op s a b, h => comb_bd (val_bd ht hs a h.2.1) (val_bd ht hs b h.2.2)
/-- the tables and what is seen -/
def Tb (H : Hp) (ns ps : List Str) (t o : Addr) (tb : Str → Int) (on : Str → Bool) : Prop :=
  (∃ kvs, H t = some (.dK kvs) ∧ ∀ x ∈ ns, valV kvs (.inr x) = some (.int (tb x)) ∧ Bd (tb x)) ∧ ∃ kvs, H o = some (.dK kvs) ∧ ∀ x ∈ ps, valV kvs (.inr x) = some (.bl (on x))
theorem Tb.same {H H' : Hp} {ns ps : List Str} {t o : Addr} {tb : Str → Int} {on : Str → Bool} (h : Tb H ns ps t o tb on) (s : Same H H') : Tb H' ns ps t o tb on := by
  obtain ⟨⟨k1, h1, h2⟩, k2, h3, h4⟩ := h
  exact ⟨⟨k1, s _ _ h1, h2⟩, k2, s _ _ h3, h4⟩
theorem sqT_same {K : PySem.W.Frag} {H H' : Hp} {a : Addr} {xs : List V} (h : SqT K H a xs) (s : Same H H') : SqT K H' a xs := by
  rcases h with (h | ⟨o, h⟩) | h
  · exact .inl (.inl (s _ _ h))
  · exact .inl (.inr ⟨o, s _ _ h⟩)
  · exact .inr h
theorem opL_ne {s : Str} (h : s ∈ opL) : s ≠ "number" ∧ s ≠ "variable" ∧ s ≠ "long" ∧ s ≠ "view" ∧ s ≠ "pick" := by
  have : opL.all (fun s => decide (s ≠ "number" ∧ s ≠ "variable" ∧ s ≠ "long" ∧ s ≠ "view" ∧ s ≠ "pick")) = true := by decide +kernel
  exact of_decide_eq_true (List.all_eq_true.mp this s h)
theorem iteS {a : Str} {A B : Prop} (h : A) : if decide (V.str a = V.str a) = true then A else B := by
  rw [decide_eq_true rfl]
  exact iteT h
theorem iteN {a b : Str} {A B : Prop} (n : a ≠ b) (h : B) : if decide (V.str a = V.str b) = true then A else B := by
  rw [decide_eq_false fun z => n (V.str.inj z)]
  exact iteF h
theorem dget_of {H : Hp} {t : Addr} {x : Str} {v : V} {kvs : List (Key × V)} (h : H t = some (.dK kvs)) (e : valV kvs (.inr x) = some v) : DGet H t (.str x) (some v) := by
  rw [← e]
  exact DGet.k (k := .inr x) h
theorem num_ne : ("variable" : Str) ≠ "number" ∧ ("long" : Str) ≠ "number" ∧ ("view" : Str) ≠ "number" ∧ ("pick" : Str) ≠ "number" ∧ ("long" : Str) ≠ "variable" ∧ ("view" : Str) ≠ "variable" ∧ ("pick" : Str) ≠ "variable" ∧ ("view" : Str) ≠ "long" ∧ ("pick" : Str) ≠ "long" ∧ ("pick" : Str) ≠ "view" := by decide +kernel
theorem str_ne {a b : Str} (h : a ≠ b) : ¬ decide (V.str a = V.str b) = true := fun z => h (V.str.inj (of_decide_eq_true z))
theorem str_eq {a b : Str} (z : decide (V.str a = V.str b) = true) : a = b := V.str.inj (of_decide_eq_true z)
def ldS : Str := "abcdefghijklmnopqrstuvwxyz0123456789"
theorem strs_flat (ts : List Str) : (ts.map V.str).all flatV = true := by
  rw [List.all_eq_true]
  intro v m
  obtain ⟨x, _, rfl⟩ := List.mem_map.mp m
  rfl
theorem app_len (a b : Str) : (a ++ b).length = a.length + b.length := by
  show (a ++ b).cps.toList.length = a.cps.toList.length + b.cps.toList.length
  have : (a ++ b).cps.toList = a.cps.toList ++ b.cps.toList := by
    show (a.cps ++ b.cps).toList = _
    simp
  rw [this, List.length_append]
theorem pickS {z : Str} {r : Int} (h0 : 0 ≤ r) (h1 : r < (z.length : Int)) : ∃ c, c ∈ z.cps.toList ∧ atI z.cps.toList r = some c := by
  have hz : z.length = z.cps.toList.length := rfl
  have hlt : r.toNat < z.cps.toList.length := by omega
  exact ⟨z.cps.toList[r.toNat], List.getElem_mem hlt, at_ofG (j := r.toNat) (by omega) (List.getElem?_eq_getElem hlt)⟩
theorem pick {ss : List Str} {r : Int} (h0 : 0 ≤ r) (h1 : r < (ss.length : Int)) : ∃ w, w ∈ ss ∧ atI (ss.map V.str) r = some (.str w) := by
  have hlt : r.toNat < ss.length := by omega
  refine ⟨ss[r.toNat], List.getElem_mem hlt, at_ofG (j := r.toNat) (by omega) ?_⟩
  rw [List.getElem?_map, List.getElem?_eq_getElem hlt]
  rfl
theorem small_str {k : Int} (h0 : 0 ≤ k) (h1 : k < 1000) : (Str.ofString (toString k)).length ≤ 6 ∧ k.natAbs.log2 < 1920 := by
  obtain ⟨m, rfl⟩ := Int.eq_ofNat_of_zero_le h0
  constructor
  · have e : (Str.ofString (toString ((m : Nat) : Int))).cps.toList = TL.numL m := TL.tl_num m
    show (Str.ofString (toString ((m : Nat) : Int))).cps.toList.length ≤ 6
    rw [e]
    exact TL.numL_len (by decide) (by omega)
  · have : m.log2 ≤ 1919 := PySem.W.mg_log (Nat.lt_of_lt_of_le (show m < 1000 by omega) (by decide +kernel))
    show m.log2 < 1920
    omega
open Classical in
/-- the keys of names, each once -/
noncomputable def dk (l : List Str) : List Key := l.foldl (fun acc x => if Sum.inr x ∈ acc then acc else acc ++ [Sum.inr x]) []
open Classical in
theorem dk_snoc (l : List Str) (x : Str) : dk (l ++ [x]) = if Sum.inr x ∈ dk l then dk l else dk l ++ [Sum.inr x] := by
  unfold dk
  rw [List.foldl_append]
  rfl
open Classical in
theorem put_keys (kvs : List (Key × V)) (k : Key) (v : V) : (putK kvs k v).map (·.1) = if k ∈ kvs.map (·.1) then kvs.map (·.1) else kvs.map (·.1) ++ [k] := by
  unfold putK
  by_cases h : (kvs.any fun kv => decide (kv.1 = k)) = true
  · have hm : k ∈ kvs.map (·.1) := by
      obtain ⟨p, m, e⟩ := List.any_eq_true.mp h
      exact List.mem_map.mpr ⟨p, m, of_decide_eq_true e⟩
    rw [if_pos h, if_pos hm, List.map_map]
    refine List.map_congr_left fun p _ => ?_
    show (if p.1 = k then (p.1, v) else p).1 = p.1
    split <;> rfl
  · have hm : k ∉ kvs.map (·.1) := fun m => by
      obtain ⟨p, m, e⟩ := List.mem_map.mp m
      exact h (List.any_eq_true.mpr ⟨p, m, decide_eq_true e⟩)
    rw [if_neg h, if_neg hm, List.map_append]
    rfl
theorem mem_put {kvs : List (Key × V)} {k : Key} {v : V} {p : Key × V} (h : p ∈ putK kvs k v) : p = (k, v) ∨ p ∈ kvs := by
  unfold putK at h
  split at h
  · obtain ⟨q, m, e⟩ := List.mem_map.mp h
    by_cases c : q.1 = k
    · rw [if_pos c] at e
      exact .inl (by rw [← e, c])
    · rw [if_neg c] at e
      exact .inr (by rw [← e]; exact m)
  · rcases List.mem_append.mp h with m | m
    · exact .inr m
    · exact .inl (List.mem_singleton.mp m)
/-- a table of the names l -/
def TI (G : V → Prop) (kt : List (Key × V)) (l : List Str) : Prop := kt.map (·.1) = dk l ∧ ∀ x ∈ l, ∃ v, valV kt (.inr x) = some v ∧ G v
theorem TI.nil (G : V → Prop) : TI G [] [] := ⟨rfl, fun x m => by cases m⟩
theorem TI.put {G : V → Prop} {kt : List (Key × V)} {l : List Str} {x : Str} {v : V} (h : TI G kt l) (g : G v) : TI G (putK kt (.inr x) v) (l ++ [x]) := by
  refine ⟨by rw [put_keys, dk_snoc, h.1], fun y m => ?_⟩
  rw [valV_put]
  by_cases c : (Sum.inr y : Key) = Sum.inr x
  · exact ⟨v, if_pos c, g⟩
  · rw [if_neg c]
    rcases List.mem_append.mp m with m | m
    · exact h.2 y m
    · exact absurd (congrArg Sum.inr (List.mem_singleton.mp m)) c
open Classical in
theorem dk_len (l : List Str) : (dk l).length ≤ l.length := by
  have go : ∀ (l : List Str) (acc : List Key), (l.foldl (fun acc x => if Sum.inr x ∈ acc then acc else acc ++ [Sum.inr x]) acc).length ≤ acc.length + l.length := by
    intro l
    induction l with
    | nil => intro acc; exact Nat.le_refl _
    | cons a r ih =>
      intro acc
      refine Nat.le_trans (ih _) ?_
      rw [List.length_cons]
      show (if Sum.inr a ∈ acc then acc else acc ++ [Sum.inr a]).length + r.length ≤ acc.length + (r.length + 1)
      split
      · omega
      · rw [List.length_append]
        show acc.length + 1 + _ ≤ _
        omega
  have := go l []
  simpa [dk] using this
theorem TI.len {G : V → Prop} {kt : List (Key × V)} {l : List Str} (h : TI G kt l) : kt.length ≤ l.length := by
  have e : (kt.map (·.1)).length = kt.length := List.length_map _
  rw [← e, h.1]
  exact dk_len l
/-- a copy of the table's rows of the names l -/
def CI (kt kp : List (Key × V)) (l : List Str) : Prop := kp.map (·.1) = dk l ∧ (∀ p ∈ kp, valV kt p.1 = some p.2 ∧ flatB p.2 = true) ∧ ∀ x ∈ l, valV kp (.inr x) = valV kt (.inr x)
theorem CI.nil (kt : List (Key × V)) : CI kt [] [] := ⟨rfl, fun p m => (by cases m), fun x m => (by cases m)⟩
theorem CI.put {kt kp : List (Key × V)} {l : List Str} {x : Str} {v : V} (h : CI kt kp l) (e : valV kt (.inr x) = some v) (f : flatB v = true) : CI kt (putK kp (.inr x) v) (l ++ [x]) := by
  refine ⟨by rw [put_keys, dk_snoc, h.1], fun p m => ?_, fun y m => ?_⟩
  · rcases mem_put m with rfl | m
    · exact ⟨e, f⟩
    · exact h.2.1 p m
  · rw [valV_put]
    by_cases c : (Sum.inr y : Key) = Sum.inr x
    · rw [if_pos c, c, e]
    · rw [if_neg c]
      rcases List.mem_append.mp m with m | m
      · exact h.2.2 y m
      · exact absurd (congrArg Sum.inr (List.mem_singleton.mp m)) c
theorem CI.len {kt kp : List (Key × V)} {l : List Str} (h : CI kt kp l) : kp.length ≤ l.length := by
  have e : (kp.map (·.1)).length = kp.length := List.length_map _
  rw [← e, h.1]
  exact dk_len l
def GN (v : V) : Prop := ∃ n, v = .int n ∧ Bd n
def GB (v : V) : Prop := ∃ b, v = .bl b
theorem copy_eq {K : PySem.W.Frag} {H : Hp} {G : V → Prop} {kt kp : List (Key × V)} {l : List Str} {t d : Addr} (h : TI G kt l) (g : CI kt kp l) (ht : H t = some (.dK kt)) (hd : H d = some (.dK kp)) : EqV K H 2 (.ref d) (.ref t) := by
  refine .inr (.inr (.inr ⟨d, t, kp, kt, rfl, rfl, hd, ht, ?_, fun p m => ⟨p.2, (g.2.1 p m).1, .inl ⟨rfl, (g.2.1 p m).2⟩⟩⟩))
  have e1 : (kp.map (·.1)).length = kp.length := List.length_map _
  have e2 : (kt.map (·.1)).length = kt.length := List.length_map _
  rw [← e1, ← e2, h.1, g.1]
def tbOf (kt : List (Key × V)) (x : Str) : Int := match valV kt (.inr x) with
  | some (.int n) => n
  | _ => 0
def onOf (ko : List (Key × V)) (x : Str) : Bool := match valV ko (.inr x) with
  | some (.bl b) => b
  | _ => false
theorem tb_of {kt : List (Key × V)} {l : List Str} (h : TI GN kt l) : ∀ x ∈ l, valV kt (.inr x) = some (.int (tbOf kt x)) ∧ Bd (tbOf kt x) := fun x m => by
  obtain ⟨v, e, n, rfl, b⟩ := h.2 x m
  have k : tbOf kt x = n := by
    unfold tbOf
    rw [e]
  rw [k]
  exact ⟨e, b⟩
theorem on_of {ko : List (Key × V)} {l : List Str} (h : TI GB ko l) : ∀ x ∈ l, valV ko (.inr x) = some (.bl (onOf ko x)) := fun x m => by
  obtain ⟨v, e, n, rfl⟩ := h.2 x m
  have k : onOf ko x = n := by
    unfold onOf
    rw [e]
  rw [k]
  exact e
theorem take_snoc {ns : List Str} {i : Nat} {x : Str} (h : ns[i]? = some x) : ns.take (i + 1) = ns.take i ++ [x] := by
  rw [List.take_add_one, h]
  rfl
theorem str_of_map {ns : List Str} {i : Nat} {y : V} (hi : (ns.map V.str)[i]? = some y) : ∃ z, ns[i]? = some z ∧ y = V.str z := by
  rw [List.getElem?_map] at hi
  cases e : ns[i]? with
  | none => rw [e] at hi; cases hi
  | some u => rw [e] at hi; exact ⟨u, rfl, (Option.some.inj hi).symm⟩
/-- all that the law has made -/
structure Mid (H : Hp) (p t o sa pl d1 d2 : Addr) (v : V) (e : Ex) (kt ko kp kq : List (Key × V)) (sn : List Int) : Prop where
  ev : Ev H v e
  ht : H t = some (.dK kt)
  ho : H o = some (.dK ko)
  hs : H sa = some (.tup (sn.map V.int))
  hp : H pl = some (.lst [.ref d1, .ref d2])
  h1 : H d1 = some (.dK kp)
  h2 : H d2 = some (.dK kq)
  nt : t ≠ p
  no : o ≠ p
  ns : sa ≠ p
  np : pl ≠ p
  n1 : d1 ≠ p
  n2 : d2 ≠ p
theorem Mid.but {H H' : Hp} {p t o sa pl d1 d2 : Addr} {v : V} {e : Ex} {kt ko kp kq : List (Key × V)} {sn : List Int} (m : Mid H p t o sa pl d1 d2 v e kt ko kp kq sn) (b : But p H H') (k : KeepT H H') : Mid H' p t o sa pl d1 d2 v e kt ko kp kq sn :=
  ⟨m.ev.keep k, b _ _ m.nt m.ht, b _ _ m.no m.ho, b _ _ m.ns m.hs, b _ _ m.np m.hp, b _ _ m.n1 m.h1, b _ _ m.n2 m.h2, m.nt, m.no, m.ns, m.np, m.n1, m.n2⟩
theorem Mid.same {H H' : Hp} {p t o sa pl d1 d2 : Addr} {v : V} {e : Ex} {kt ko kp kq : List (Key × V)} {sn : List Int} (m : Mid H p t o sa pl d1 d2 v e kt ko kp kq sn) (s : Same H H') : Mid H' p t o sa pl d1 d2 v e kt ko kp kq sn :=
  m.but (but_of s) (keepT_of s)
/-- (0,) * k, k up to 100000 -/
def rRepW (K : PySem.W.Frag) : R2 := fun x y H Q => ∃ l k, x = .ref l ∧ y = .int k ∧ SqT K H l [.int 0] ∧ 2 ≤ k ∧ k ≤ 100000 ∧ ∀ p, H p = none → Q (.ref p) (upd H p (.tup (List.replicate k.toNat (.int 0))))
theorem op_repW {X : Cx} : OpR X (binaryOp .Mult) (rRepW X.K) := by
  intro pins s σ H x y v u Q I rx ry hyp
  obtain ⟨l, k, rfl, rfl, hT, k1, k2, q⟩ := hyp
  cases rx
  obtain ⟨tk, rfl⟩ := ry
  obtain ⟨its, rv, ⟨⟨oc, od, oda, osl⟩, g1, g2, m, g3⟩, _⟩ := I.tuple hT
  simp only at g2 g3
  subst g2 g3
  obtain ⟨w0, rfl⟩ : ∃ w0, its = [w0] := by
    cases rv with
    | cons a b => cases b; exact ⟨_, rfl⟩
  have hz : sizeLine = 16777216 := sizeLine_eq
  have e0 := size_rep [w0] k.toNat
  have e1 : (List.replicate k.toNat [w0]).flatten.length = k.toNat := by simp
  have y0 : (decide (k < -(2 ^ 63)) || decide (k ≥ 2 ^ 63)) = false := by
    rw [Bool.or_eq_false_iff, decide_eq_false_iff_not, decide_eq_false_iff_not]
    omega
  have y1 : ([w0].toArray.isEmpty || k == 1) = false := by
    rw [Bool.or_eq_false_iff]
    exact ⟨rfl, beq_eq_false_iff_ne.mpr (by omega)⟩
  have y2 : (decide (k ≤ 0) || [w0].toArray.isEmpty) = false := by
    rw [Bool.or_eq_false_iff, decide_eq_false_iff_not]
    exact ⟨by omega, rfl⟩
  have y3 : ¬ (([w0].toArray.size : Nat) : Int) * k > (2 ^ 63 - 1) / 8 := by
    show ¬ (1 : Int) * k > (2 ^ 63 - 1) / 8
    omega
  have y4 : Builtin.Tuple.tupleTooMany ((([w0].toArray.size : Nat) : Int) * k) = false := by
    show decide ((1 : Int) * k > (sizeLine : Int)) = false
    rw [decide_eq_false_iff_not]
    omega
  have y5 : (List.foldl (fun x1 x2 => x1 ++ x2) #[] (List.replicate k.toNat [w0].toArray)).size ≤ sizeLine := by
    rw [e0, List.size_toArray, e1]
    omega
  refine wpAny_binaryOp_repeat_ref (T := "tuple") (U := "int") (by decide) ⟨_, g1, rfl⟩ (fun s2 => typeIs_int s2 k tk)
    noFill_tuple_mul F.fills_int_mul F.slot_int_rmul repeat_tuple F.slot_int_index.lookup ?_
  refine call_meets F.slot_int_rmul (typeIs_int s k tk) F.entry_int_rmul (F.args_int_rmul_2 _ _) (int_rmul_tuple k tk l [w0].toArray m od osl) ⟨g1, rfl, ⟨_, g1, rfl⟩, ?_⟩
  refine call_meets F.slot_tuple_mul ⟨_, g1, rfl⟩ F.entry_tuple_mul (F.args_tuple_mul_2 _ _) (tuple_mulW l [w0].toArray m od osl k tk y0 y1 y2 y3 y4 y5) ⟨g1, ?_⟩
  rw [e0]
  refine ⟨.ref s.heap.objs.size, _, I.laid (t' := s.toks) (o := .tup (List.replicate k.toNat (V.int 0))) (fun b ob z => Heap.get?_push_of_some _ z) (Nat.le_refl _) ?_, rfl, q _ (I.hok.fresh (Nat.le_refl _))⟩
  refine ⟨by rw [List.length_replicate]; omega, _, ?_, IsTup.new _ _⟩
  have rr := rv.rep k.toNat
  rw [List.flatten_replicate_singleton] at rr
  exact rr
theorem Pool.butd {p c d : Addr} {b : Int} {H H' : Hp} (h : Pool H p c b) (k : But d H H') (n1 : d ≠ p) (n2 : d ≠ c) : Pool H' p c b := by
  obtain ⟨ns, i, r, s, t, hp, hc, h0, n⟩ := h
  exact ⟨ns, i, r, s, t, k _ _ n1.symm hp, k _ _ n2.symm hc, h0, n⟩
theorem But.keepD {d : Addr} {kvs : List (Key × V)} {H H' : Hp} (b : But d H H') (h : H d = some (.dK kvs)) : KeepT H H' := fun c ys e => b c _ (fun z => by rw [z, h] at e; cases e) e
theorem tb_env {H : Hp} {ns ps : List Str} {t o : Addr} {kt ko : List (Key × V)} (ht : H t = some (.dK kt)) (ho : H o = some (.dK ko)) (h : TI GN kt ns) (g : TI GB ko ps) : Tb H ns ps t o (tbOf kt) (onOf ko) :=
  ⟨⟨kt, ht, tb_of h⟩, ko, ho, on_of g⟩
theorem cp_env {H : Hp} {ns ps : List Str} {t o : Addr} {kt ko kp kq : List (Key × V)} (ht : H t = some (.dK kp)) (ho : H o = some (.dK kq)) (h : TI GN kt ns) (g : TI GB ko ps) (i : CI kt kp ns) (j : CI ko kq ps) : Tb H ns ps t o (tbOf kt) (onOf ko) :=
  ⟨⟨kp, ht, fun x m => ⟨(i.2.2 x m).trans (tb_of h x m).1, (tb_of h x m).2⟩⟩, kq, ho, fun x m => (j.2.2 x m).trans (on_of g x m)⟩

/-! ### methods of tuples that the program has made: they are tracked with their object -/
def FT (H : Hp) (a : Addr) (xs : List V) : Prop := ∃ o : Obj, H a = some (.frz o (.tup xs)) ∧ o.cls = .type "tuple" ∧ o.dict = none
theorem FT.sq {K : PySem.W.Frag} {H : Hp} {a : Addr} {xs : List V} (h : FT H a xs) : SqT K H a xs := by
  obtain ⟨o, h, _⟩ := h
  exact .inl (.inr ⟨o, h⟩)
theorem FT.same {H H' : Hp} {a : Addr} {xs : List V} (h : FT H a xs) (s : Same H H') : FT H' a xs := by
  obtain ⟨o, h, g⟩ := h
  exact ⟨o, s _ _ h, g⟩
section
variable {X : Cx}
def tyTu (K : PySem.W.Frag) (x : V) (H : Hp) : Prop := ∃ p, x = .ref p ∧ ((∃ xs, FT H p xs) ∨ ∃ o, K.lookup p = some o ∧ o.cls = .type "tuple" ∧ o.dict = none)
theorem ty_tu : TyOk X "tuple" (tyTu X.K) := by
  intro pins σ H s x v I r h
  obtain ⟨p, rfl, ⟨xs, o, hp, hc, hd⟩ | ⟨o, hk, hc, hd⟩⟩ := h
  · cases r
    obtain ⟨g, _⟩ := I.hok p _ hp
    exact ⟨⟨o, g, hc⟩, fun a e => by cases e; exact ⟨o, g, hd⟩⟩
  · cases r
    have g := I.kIn p o hk
    exact ⟨⟨o, g, hc⟩, fun a e => by cases e; exact ⟨o, g, hd⟩⟩
theorem call_tuple_frz : CallR X (.type "tuple") (fun xs H Q => ∃ p ys, xs = [.ref p] ∧ SqL X.K H p ys ∧ ∀ l o, H l = none → o.cls = .type "tuple" → o.dict = none → Q (.ref l) (upd H l (.frz o (.tup ys)))) := by
  intro pins s σ H xs us Q I r h
  obtain ⟨p, ys, rfl, hq, q⟩ := h
  obtain ⟨u, rfl, rx⟩ := vals1 r
  cases rx
  obtain ⟨its, r', pl, hz⟩ := I.list hq
  have hlen := r'.length
  refine call_tuple_list pl.isList (fun h' kp => ?_) (by simp only [List.size_toArray] <;> omega)
  have I1 : Inv X pins σ H { s with heap := h' } := I.kept (t' := s.toks) kp
  have I2 : Inv X pins σ (upd H h'.objs.size (.frz { cls := .type "tuple", data := .seq its.toArray } (.tup ys))) { s with heap := h'.push { cls := .type "tuple", data := .seq its.toArray } } :=
    I1.laid (t' := s.toks) (fun b o e => Heap.get?_push_of_some _ e) (Nat.le_refl _) (show ObjOk X.prog X.w _ _ _ (.frz _ (.tup ys)) from ⟨Heap.get?_push_size _ rfl, hz, its, r', IsTup.new _ _⟩)
  exact ⟨.ref h'.objs.size, _, I2, rfl, q _ _ (I1.hok.fresh (Nat.le_refl _)) rfl rfl⟩
def tTupF (t : TA) : TE := fun σ H Q => t σ H fun xs H1 => xs.length ≤ sizeLine ∧ ∀ p o, H1 p = none → o.cls = .type "tuple" → o.dict = none → Q (.ref p) (upd H1 p (.frz o (.tup xs)))
theorem pe_tupF {es : List Expr} {t : TA} {x1 : Nat} {pos : Pos} (h : PA X es t) : PE X (.Tuple es x1 pos) (tTupF t) := by
  refine ⟨fun pins s σ H Q I hq => ?_⟩
  refine wpAny_Tuple_spliced (thn (h.run pos pins s σ H _ I hq) fun us s1 ⟨xs, H1, I1, r, z, q⟩ => ⟨by rw [← r.length]; exact z, ?_⟩)
  have hf : H1 s1.heap.objs.size = none := I1.hok.fresh (Nat.le_refl _)
  refine ⟨.ref s1.heap.objs.size, upd H1 s1.heap.objs.size (.frz { cls := .type "tuple", data := .seq us.toArray } (.tup xs)), I1.laid (t' := s1.toks) (fun b u e => Heap.get?_push_of_some _ e) (Nat.le_refl _) ?_, rfl, q _ _ hf rfl rfl⟩
  exact ⟨Heap.get?_push_size _ rfl, z, us, r, ⟨_, Heap.get?_push_size _ rfl, rfl, _, rfl⟩⟩
end


/-! ### codes -/
def ixS (l : List Str) (x : Str) : Nat := l.findIdx fun y => decide (y = x)
theorem ixS_get {l : List Str} {x : Str} (h : x ∈ l) : l[ixS l x]? = some x ∧ ∀ m, m < ixS l x → l[m]? ≠ some x := by
  have hlt : ixS l x < l.length := List.findIdx_lt_length_of_exists ⟨x, h, decide_eq_true rfl⟩
  refine ⟨?_, fun m hm e => ?_⟩
  · rw [List.getElem?_eq_getElem hlt]
    have := List.findIdx_getElem (xs := l) (p := fun y => decide (y = x)) (w := hlt)
    exact congrArg some (of_decide_eq_true this)
  · have hml : m < l.length := Nat.lt_trans hm hlt
    have := List.not_of_lt_findIdx (xs := l) (p := fun y => decide (y = x)) hm
    rw [List.getElem?_eq_getElem hml] at e
    rw [Option.some.inj e] at this
    simp at this
theorem ixS_lt {l : List Str} {x : Str} (h : x ∈ l) : ixS l x < l.length := List.findIdx_lt_length_of_exists ⟨x, h, decide_eq_true rfl⟩
abbrev Ins := Str × Int
def Ex.code (ns : List Str) (on : Str → Bool) : Ex → List Ins
  | .num n => [("push", n)]
  | .var x => [("load", (ixS ns x : Nat))]
  | .long => [("long", 0)]
  | .view e => e.code ns on ++ ([("view", 0)] : List Ins)
  | .pick x a b => if on x = true then a.code ns on else b.code ns on
  | .op s a b => a.code ns on ++ b.code ns on ++ ([("sign", ((ixS opL s : Nat) : Int))] : List Ins)
theorem code_len {ns : List Str} {on : Str → Bool} : ∀ e : Ex, (e.code ns on).length + 1 ≤ 2 ^ e.deep
  | .num _ => by show 1 + 1 ≤ 2 ^ 1; decide
  | .var _ => by show 1 + 1 ≤ 2 ^ 1; decide
  | .long => by show 1 + 1 ≤ 2 ^ 1; decide
  | .view e => by
    have ih := code_len (ns := ns) (on := on) e
    show (e.code ns on ++ ([("view", 0)] : List Ins)).length + 1 ≤ 2 ^ (e.deep + 1)
    rw [List.length_append, Nat.pow_succ]
    show _ + 1 + 1 ≤ _
    have : 1 ≤ 2 ^ e.deep := Nat.one_le_two_pow
    omega
  | .pick x a b => by
    have h1 := code_len (ns := ns) (on := on) a
    have h2 := code_len (ns := ns) (on := on) b
    have p1 : 2 ^ a.deep ≤ 2 ^ max a.deep b.deep := Nat.pow_le_pow_right (by decide) (Nat.le_max_left _ _)
    have p2 : 2 ^ b.deep ≤ 2 ^ max a.deep b.deep := Nat.pow_le_pow_right (by decide) (Nat.le_max_right _ _)
    show (if on x = true then a.code ns on else b.code ns on).length + 1 ≤ 2 ^ (max a.deep b.deep + 1)
    rw [Nat.pow_succ]
    split <;> omega
  | .op s a b => by
    have h1 := code_len (ns := ns) (on := on) a
    have h2 := code_len (ns := ns) (on := on) b
    have p1 : 2 ^ a.deep ≤ 2 ^ max a.deep b.deep := Nat.pow_le_pow_right (by decide) (Nat.le_max_left _ _)
    have p2 : 2 ^ b.deep ≤ 2 ^ max a.deep b.deep := Nat.pow_le_pow_right (by decide) (Nat.le_max_right _ _)
    show (a.code ns on ++ b.code ns on ++ ([("sign", ((ixS opL s : Nat) : Int))] : List Ins)).length + 1 ≤ 2 ^ (max a.deep b.deep + 1)
    rw [Nat.pow_succ, List.length_append, List.length_append]
    show _ + _ + 1 + 1 ≤ _
    omega
theorem code_len13 {ns : List Str} {on : Str → Bool} {e : Ex} (h : e.deep ≤ 13) : (e.code ns on).length ≤ 8192 := by
  have h1 := code_len (ns := ns) (on := on) e
  have p1 : 2 ^ e.deep ≤ 2 ^ 13 := Nat.pow_le_pow_right (by decide) h
  have : (2 : Nat) ^ 13 = 8192 := by decide
  omega
def InsV (H : Hp) (v : V) (c : Ins) : Prop := ∃ a, v = .ref a ∧ H a = some (.tup [.str c.1, .int c.2])
theorem InsV.keep {H H' : Hp} (k : KeepT H H') {v : V} {c : Ins} (h : InsV H v c) : InsV H' v c := by
  obtain ⟨a, e, q⟩ := h
  exact ⟨a, e, k _ _ q⟩
abbrev CodeV (H : Hp) (vs : List V) (cs : List Ins) : Prop := Paired (InsV H) vs cs
theorem CodeV.keep {H H' : Hp} (k : KeepT H H') {vs : List V} {cs : List Ins} (h : CodeV H vs cs) : CodeV H' vs cs := L2.Paired.mapP h fun _ _ q => q.keep k
theorem paired_app {α β : Type} {R : α → β → Prop} : ∀ {xs zs : List α} {ys ws : List β}, Paired R xs ys → Paired R zs ws → Paired R (xs ++ zs) (ys ++ ws)
  | _, _, _, _, .nil, b => b
  | _, _, _, _, .cons h a, b => .cons h (paired_app a b)
def insD (c : Ins) : PyData := .tuple [.str c.1, .int c.2]
theorem pgetC {α β : Type} {R : α → β → Prop} : ∀ {xs : List α} {ys : List β} {i : Nat} {x : α}, Paired R xs ys → xs[i]? = some x → ∃ y, ys[i]? = some y ∧ R x y
  | _, _, i, x, .nil, e => by simp at e
  | _, _, 0, x, .cons r _, e => by
    cases e
    exact ⟨_, rfl, r⟩
  | _, _, i + 1, x, .cons _ t, e => by
    rw [List.getElem?_cons_succ] at e
    rw [List.getElem?_cons_succ]
    exact pgetC t e
theorem InsV.da {H : Hp} {v : V} {c : Ins} (h : InsV H v c) : Da H v (insD c) := by
  obtain ⟨a, rfl, q⟩ := h
  refine .tup q rfl fun i v d h1 h2 => ?_
  match i, h1, h2 with
  | 0, h1, h2 => cases h1; cases h2; exact .str _
  | 1, h1, h2 => cases h1; cases h2; exact .int _
  | i + 2, h1, h2 => simp at h1
theorem CodeV.da {H : Hp} {p : Addr} {vs : List V} {cs : List Ins} (h : CodeV H vs cs) (e : H p = some (.lst vs)) : Da H (.ref p) (.list (cs.map insD)) := by
  refine .lst e (by rw [List.length_map, h.length]) fun i v d h1 h2 => ?_
  obtain ⟨c, hc, r⟩ := pgetC h h1
  rw [List.getElem?_map, hc] at h2
  cases h2
  exact r.da
theorem insD_depth (c : Ins) : (insD c).depth = 1 := by simp [insD, PyData.depth, PyData.depthAll]
theorem insD_wide (c : Ins) : wide (insD c) = true := by simp [insD, wide, wideAll]
theorem codeD_depth : ∀ cs : List Ins, PyData.depthAll (cs.map insD) ≤ 1
  | [] => by simp [PyData.depthAll]
  | c :: r => by
    have ih := codeD_depth r
    simp only [List.map_cons, PyData.depthAll, insD_depth]
    omega
theorem codeD_wide : ∀ cs : List Ins, wideAll (cs.map insD) = true
  | [] => by simp [wideAll]
  | c :: r => by
    simp only [List.map_cons, wideAll, insD_wide, codeD_wide r]
    rfl
/-- one instruction on a stack, the top first -/
theorem ck : ("load" : Str) ≠ "push" ∧ ("long" : Str) ≠ "push" ∧ ("long" : Str) ≠ "load" ∧ ("view" : Str) ≠ "push" ∧ ("view" : Str) ≠ "load" ∧ ("view" : Str) ≠ "long" ∧ ("sign" : Str) ≠ "push" ∧ ("sign" : Str) ≠ "load" ∧ ("sign" : Str) ≠ "long" ∧ ("sign" : Str) ≠ "view" := by decide +kernel
def cstep (tb : List Int) (sn : List Int) (c : Ins) (st : List Int) : Option (List Int) :=
  if c.1 = "push" then (if 0 ≤ c.2 ∧ c.2 < 65536 then some (c.2 :: st) else none)
  else if c.1 = "load" then (match tb[c.2.toNat]? with | some n => if 0 ≤ c.2 ∧ 0 ≤ n ∧ n < 65536 then some (n :: st) else none | none => none)
  else if c.1 = "long" then some ((sn.length : Int) :: st)
  else if c.1 = "view" then (match st with | i :: r => some (sn.getD i.toNat 0 :: r) | [] => none)
  else if c.1 = "sign" then (match st with | b :: a :: r => (match opL[c.2.toNat]? with | some s => if 0 ≤ c.2 then some (comb s a b :: r) else none | none => none) | _ => none)
  else none
theorem cstep_cases {tb sn : List Int} {s : Str} {k : Int} {st st2 : List Int} (h : cstep tb sn (s, k) st = some st2) :
    (s = "push" ∧ 0 ≤ k ∧ k < 65536 ∧ st2 = k :: st) ∨ (s = "load" ∧ ∃ n, tb[k.toNat]? = some n ∧ 0 ≤ k ∧ st2 = n :: st) ∨ (s = "long" ∧ st2 = (sn.length : Int) :: st) ∨
    (s = "view" ∧ ∃ i r, st = i :: r ∧ st2 = sn.getD i.toNat 0 :: r) ∨ (s = "sign" ∧ ∃ b a r z, st = b :: a :: r ∧ opL[k.toNat]? = some z ∧ 0 ≤ k ∧ st2 = comb z a b :: r) := by
  unfold cstep at h
  split at h
  · rename_i e
    split at h
    · rename_i g
      cases h
      exact .inl ⟨e, g.1, g.2, rfl⟩
    · cases h
  split at h
  · rename_i e
    split at h
    · rename_i n hn
      split at h
      · rename_i g
        cases h
        exact .inr (.inl ⟨e, n, hn, g.1, rfl⟩)
      · cases h
    · cases h
  split at h
  · rename_i e
    cases h
    exact .inr (.inr (.inl ⟨e, rfl⟩))
  split at h
  · rename_i e
    split at h
    · rename_i i r
      cases h
      exact .inr (.inr (.inr (.inl ⟨e, i, r, rfl, rfl⟩)))
    · cases h
  split at h
  · rename_i e
    split at h
    · rename_i b a r
      split at h
      · rename_i z hz
        split at h
        · rename_i g
          cases h
          exact .inr (.inr (.inr (.inr ⟨e, b, a, r, z, rfl, hz, g, rfl⟩)))
        · cases h
      · cases h
    · cases h
  · cases h
def cruns (tb : List Int) (sn : List Int) : List Ins → List Int → Option (List Int)
  | [], st => some st
  | c :: r, st => match cstep tb sn c st with | some st' => cruns tb sn r st' | none => none
theorem cruns_app {tb sn : List Int} : ∀ {cs ds : List Ins} {st st' : List Int}, cruns tb sn cs st = some st' → cruns tb sn (cs ++ ds) st = cruns tb sn ds st'
  | [], ds, st, st', h => by
    cases h
    rfl
  | c :: r, ds, st, st', h => by
    show (match cstep tb sn c st with | some st' => cruns tb sn (r ++ ds) st' | none => none) = _
    unfold cruns at h
    cases e : cstep tb sn c st with
    | none => rw [e] at h; cases h
    | some s2 =>
      rw [e] at h
      exact cruns_app (cs := r) h
/-- each beginning runs, and so does the next instruction -/
theorem cruns_turn {tb sn : List Int} : ∀ {cs : List Ins} {st fin : List Int} {i : Nat} {c : Ins}, cruns tb sn cs st = some fin → cs[i]? = some c → ∃ s1 s2, cruns tb sn (cs.take i) st = some s1 ∧ cstep tb sn c s1 = some s2 ∧ cruns tb sn (cs.take (i + 1)) st = some s2
  | [], st, fin, i, c, _, h => by simp at h
  | d :: r, st, fin, i, c, h, hi => by
    unfold cruns at h
    cases e : cstep tb sn d st with
    | none => rw [e] at h; cases h
    | some s2 =>
      rw [e] at h
      have h : cruns tb sn r s2 = some fin := h
      cases i with
      | zero =>
        cases hi
        refine ⟨st, s2, rfl, e, ?_⟩
        show (match cstep tb sn d st with | some st' => cruns tb sn [] st' | none => none) = _
        rw [e]
        rfl
      | succ i =>
        obtain ⟨a, b, h1, h2, h3⟩ := cruns_turn (i := i) h hi
        refine ⟨a, b, ?_, h2, ?_⟩
        · show (match cstep tb sn d st with | some st' => cruns tb sn (r.take i) st' | none => none) = _
          rw [e]
          exact h1
        · show (match cstep tb sn d st with | some st' => cruns tb sn (r.take (i + 1)) st' | none => none) = _
          rw [e]
          exact h3
theorem one_run {tb sn : List Int} {c : Ins} {st st' : List Int} (h : cstep tb sn c st = some st') : cruns tb sn [c] st = some st' := by
  show (match cstep tb sn c st with | some st' => cruns tb sn [] st' | none => none) = _
  rw [h]
  rfl
/-- the code of an expression pushes its value -/
theorem code_runs {ns ps : List Str} {tbf : Str → Int} {on : Str → Bool} {tb sn : List Int} (ht : ∀ x ∈ ns, tb[ixS ns x]? = some (tbf x) ∧ Bd (tbf x)) (hs : ∀ n ∈ sn, Bd n) (hl : sn.length ≤ 100) : ∀ (e : Ex) (st : List Int), e.Wf ns ps → cruns tb sn (e.code ns on) st = some (e.val tbf on sn :: st)
  | .num n, st, h => one_run (by
      show (if ("push" : Str) = "push" then _ else _) = _
      rw [if_pos rfl, if_pos (show 0 ≤ (("push", n) : Ins).2 ∧ (("push", n) : Ins).2 < 65536 from h)]
      rfl)
  | .var x, st, h => one_run (by
      obtain ⟨e, b⟩ := ht x h
      unfold cstep
      rw [if_neg (show ¬ (("load", ((ixS ns x : Nat) : Int)) : Ins).1 = "push" from ck.1), if_pos rfl]
      show (match tb[(((ixS ns x : Nat) : Int)).toNat]? with | some n => if 0 ≤ ((ixS ns x : Nat) : Int) ∧ 0 ≤ n ∧ n < 65536 then some (n :: st) else none | none => none) = _
      rw [Int.toNat_natCast, e]
      show (if 0 ≤ ((ixS ns x : Nat) : Int) ∧ 0 ≤ tbf x ∧ tbf x < 65536 then some (tbf x :: st) else none) = _
      rw [if_pos ⟨by omega, b.1, b.2⟩]
      rfl)
  | .long, st, h => one_run (by
      unfold cstep
      rw [if_neg (by decide +kernel), if_neg (by decide +kernel), if_pos rfl]
      show some ((sn.length : Int) :: st) = some (min (sn.length : Int) 65535 :: st)
      rw [show min (sn.length : Int) 65535 = (sn.length : Int) by omega])
  | .view e, st, h => by
    have ih := code_runs (on := on) ht hs hl e st h
    show cruns tb sn (e.code ns on ++ ([("view", 0)] : List Ins)) st = _
    rw [cruns_app ih]
    refine one_run ?_
    unfold cstep
    rw [if_neg (by decide +kernel), if_neg (by decide +kernel), if_neg (by decide +kernel), if_pos rfl]
    rfl
  | .pick x a b, st, h => by
    show cruns tb sn (if on x = true then a.code ns on else b.code ns on) st = some ((if on x = true then a.val tbf on sn else b.val tbf on sn) :: st)
    split
    · exact code_runs (on := on) ht hs hl a st h.2.1
    · exact code_runs (on := on) ht hs hl b st h.2.2
  | .op s a b, st, h => by
    have h1 := code_runs (on := on) ht hs hl a st h.2.1
    have h2 := code_runs (on := on) ht hs hl b (a.val tbf on sn :: st) h.2.2
    show cruns tb sn (a.code ns on ++ b.code ns on ++ ([("sign", ((ixS opL s : Nat) : Int))] : List Ins)) st = _
    rw [List.append_assoc, cruns_app h1, cruns_app h2]
    refine one_run ?_
    unfold cstep
    obtain ⟨_, _, _, _, _, _, k1, k2, k3, k4⟩ := ck
    rw [if_neg (show ¬ (("sign", ((ixS opL s : Nat) : Int)) : Ins).1 = "push" from k1), if_neg (show ¬ (("sign", ((ixS opL s : Nat) : Int)) : Ins).1 = "load" from k2), if_neg (show ¬ (("sign", ((ixS opL s : Nat) : Int)) : Ins).1 = "long" from k3), if_neg (show ¬ (("sign", ((ixS opL s : Nat) : Int)) : Ins).1 = "view" from k4), if_pos rfl]
    show (match opL[(((ixS opL s : Nat) : Int)).toNat]? with | some s => if 0 ≤ ((ixS opL s : Nat) : Int) then some (comb s (a.val tbf on sn) (b.val tbf on sn) :: st) else none | none => none) = _
    rw [Int.toNat_natCast, (ixS_get h.1).1]
    show (if 0 ≤ ((ixS opL s : Nat) : Int) then some (comb s (a.val tbf on sn) (b.val tbf on sn) :: st) else none) = _
    rw [if_pos (by omega)]
    rfl
/-- what a step leaves is in bounds -/
theorem cstep_bd {tb sn : List Int} {c : Ins} {st st' : List Int} (hs : ∀ n ∈ sn, Bd n) (hl : sn.length ≤ 100) (h : cstep tb sn c st = some st') (hb : ∀ n ∈ st, Bd n) : ∀ n ∈ st', Bd n := by
  unfold cstep at h
  split at h
  · split at h
    · rename_i g
      cases h
      intro n m
      rcases List.mem_cons.mp m with e | m
      · rw [e]; exact g
      · exact hb n m
    · cases h
  split at h
  · split at h
    · split at h
      · rename_i g
        cases h
        intro n m
        rcases List.mem_cons.mp m with e | m
        · rw [e]; exact g.2
        · exact hb n m
      · cases h
    · cases h
  split at h
  · cases h
    intro n m
    rcases List.mem_cons.mp m with e | m
    · rw [e]; exact ⟨by omega, by omega⟩
    · exact hb n m
  split at h
  · split at h
    · cases h
      intro n m
      rcases List.mem_cons.mp m with e | m
      · rw [e]; exact getD_bd hs _
      · exact hb n (List.mem_cons_of_mem _ m)
    · cases h
  split at h
  · split at h
    · split at h
      · split at h
        · cases h
          intro n m
          rcases List.mem_cons.mp m with e | m
          · rw [e]
            exact comb_bd (hb _ (List.mem_cons_of_mem _ List.mem_cons_self)) (hb _ List.mem_cons_self)
          · exact hb n (List.mem_cons_of_mem _ (List.mem_cons_of_mem _ m))
        · cases h
      · cases h
    · cases h
  · cases h
theorem cstep_len {tb sn : List Int} {c : Ins} {st st' : List Int} (h : cstep tb sn c st = some st') : st'.length ≤ st.length + 1 := by
  unfold cstep at h
  split at h
  · split at h <;> cases h
    simp
  split at h
  · split at h
    · split at h <;> cases h
      simp
    · cases h
  split at h
  · cases h
    simp
  split at h
  · split at h <;> cases h
    simp
  split at h
  · split at h
    · split at h
      · split at h <;> cases h
        simp
      · cases h
    · cases h
  · cases h

structure Txt (K : PySem.W.Frag) (mg : Str → Option Value) where
  a_combine : Addr
  d_combine : FuncData
  F_combine : Fun K "combine" "combine" s_combine a_combine d_combine
  b_combine : Binds K d_combine ["sign", "left", "right"] []
  m_combine : mg "combine" = some (.ref a_combine)
  a_value_of : Addr
  d_value_of : FuncData
  z_value_of : Addr
  qz_value_of : ∀ H, SqT K H z_value_of []
  F_value_of : FunD K "value_of" "value_of" (defArgs s_value_of) (defBody s_value_of) (defScope s_value_of) [.ref z_value_of] [] a_value_of d_value_of
  ds_value_of : List Value
  v_value_of : Vals [.ref z_value_of] ds_value_of
  bd_value_of : Binds K d_value_of ["expression", "table", "on", "seen"] ds_value_of
  b_value_of : Binds K d_value_of ["expression", "table", "on", "seen"] []
  m_value_of : mg "value_of" = some (.ref a_value_of)
  a_expression_code : Addr
  d_expression_code : FuncData
  F_expression_code : Fun K "expression_code" "expression_code" s_expression_code a_expression_code d_expression_code
  b_expression_code : Binds K d_expression_code ["expression", "slots", "on"] []
  m_expression_code : mg "expression_code" = some (.ref a_expression_code)
  a_law_pool : Addr
  d_law_pool : FuncData
  F_law_pool : Fun K "_law_pool" "_law_pool" s_law_pool a_law_pool d_law_pool
  b_law_pool : Binds K d_law_pool ["script", "budget"] []
  m_law_pool : mg "_law_pool" = some (.ref a_law_pool)
  a_law_draw : Addr
  d_law_draw : FuncData
  F_law_draw : Fun K "_law_draw" "_law_draw" s_law_draw a_law_draw d_law_draw
  b_law_draw : Binds K d_law_draw ["pool", "size"] []
  m_law_draw : mg "_law_draw" = some (.ref a_law_draw)
  a_law_spend : Addr
  d_law_spend : FuncData
  F_law_spend : Fun K "_law_spend" "_law_spend" s_law_spend a_law_spend d_law_spend
  b_law_spend : Binds K d_law_spend ["pool"] []
  m_law_spend : mg "_law_spend" = some (.ref a_law_spend)
  a_law_few : Addr
  d_law_few : FuncData
  F_law_few : Fun K "_law_few" "_law_few" s_law_few a_law_few d_law_few
  b_law_few : Binds K d_law_few ["pool", "most"] []
  m_law_few : mg "_law_few" = some (.ref a_law_few)
  a_law_number : Addr
  d_law_number : FuncData
  F_law_number : Fun K "_law_number" "_law_number" s_law_number a_law_number d_law_number
  b_law_number : Binds K d_law_number ["pool"] []
  m_law_number : mg "_law_number" = some (.ref a_law_number)
  a_law_same : Addr
  d_law_same : FuncData
  F_law_same : Fun K "_law_same" "_law_same" s_law_same a_law_same d_law_same
  b_law_same : Binds K d_law_same ["actual", "due"] []
  m_law_same : mg "_law_same" = some (.ref a_law_same)
  a_law_keys : Addr
  d_law_keys : FuncData
  F_law_keys : Fun K "_law_keys" "_law_keys" s_law_keys a_law_keys d_law_keys
  b_law_keys : Binds K d_law_keys [] []
  m_law_keys : mg "_law_keys" = some (.ref a_law_keys)
  a_law_name : Addr
  d_law_name : FuncData
  F_law_name : Fun K "_law_name" "_law_name" s_law_name a_law_name d_law_name
  b_law_name : Binds K d_law_name ["pool", "taken"] []
  m_law_name : mg "_law_name" = some (.ref a_law_name)
  a_law_names : Addr
  d_law_names : FuncData
  F_law_names : Fun K "_law_names" "_law_names" s_law_names a_law_names d_law_names
  b_law_names : Binds K d_law_names ["pool", "most"] []
  m_law_names : mg "_law_names" = some (.ref a_law_names)
  a_law_expression : Addr
  d_law_expression : FuncData
  F_law_expression : Fun K "_law_expression" "_law_expression" s_law_expression a_law_expression d_law_expression
  b_law_expression : Binds K d_law_expression ["pool", "names", "picks", "deep"] []
  m_law_expression : mg "_law_expression" = some (.ref a_law_expression)
  a_law_combine : Addr
  d_law_combine : FuncData
  F_law_combine : Fun K "_law_combine" "_law_combine" s_law_combine a_law_combine d_law_combine
  b_law_combine : Binds K d_law_combine ["sign", "a", "b"] []
  m_law_combine : mg "_law_combine" = some (.ref a_law_combine)
  a_law_run : Addr
  d_law_run : FuncData
  F_law_run : Fun K "_law_run" "_law_run" s_law_run a_law_run d_law_run
  b_law_run : Binds K d_law_run ["code", "cells", "seen"] []
  m_law_run : mg "_law_run" = some (.ref a_law_run)
  a_law_code : Addr
  d_law_code : FuncData
  F_law_code : Fun K "_law_code" "_law_code" s_law_code a_law_code d_law_code
  b_law_code : Binds K d_law_code ["due", "slots", "on"] []
  m_law_code : mg "_law_code" = some (.ref a_law_code)
  a_law : Addr
  d_law : FuncData
  F_law : Fun K "law" "law" s_law a_law d_law
  b_law : Binds K d_law ["script"] []
  m_law : mg "law" = some (.ref a_law)
  v_MODULUS : Value
  g_MODULUS : mg "MODULUS" = some v_MODULUS
  r_MODULUS : RelV (.int 65536) v_MODULUS
  v_GREATEST_NUMBER : Value
  g_GREATEST_NUMBER : mg "GREATEST_NUMBER" = some v_GREATEST_NUMBER
  r_GREATEST_NUMBER : RelV (.int 65535) v_GREATEST_NUMBER
  A_OPERATORS : Addr
  g_OPERATORS : mg "OPERATORS" = some (.ref A_OPERATORS)
  q_OPERATORS : ∀ H, SqT K H A_OPERATORS [.str "+", .str "-", .str "*", .str "/", .str "mod", .str "<", .str "="]
  qd_OPERATORS : ∃ o, K.lookup A_OPERATORS = some o ∧ o.cls = .type "tuple" ∧ o.dict = none
  z_bool : mg "bool" = none
  z_int : mg "int" = none
  z_isinstance : mg "isinstance" = none
  z_len : mg "len" = none
  z_list : mg "list" = none
  z_max : mg "max" = none
  z_min : mg "min" = none
  z_range : mg "range" = none
  z_str : mg "str" = none
  z_tuple : mg "tuple" = none
section
variable {P : Program} {w : World} {K : PySem.W.Frag} {mg : Str → Option Value} {base : Heap}
/-! ### combine -/
def sp_combine (T : Txt K mg) : Sp := fun vs H Q _ => ∃ (s : Str) (a b : Int), vs = [.str s, .int a, .int b] ∧ s ∈ opL ∧ Bd a ∧ Bd b ∧ Q (.int (comb s a b)) H

theorem ok_combine (T : Txt K mg) : FnOk P w K mg base CX0 1 T.a_combine T.d_combine ["sign", "left", "right"] (sp_combine T) := by
  refine T.F_combine.ok sc_combine (fun vs H Q E h => ?_) (fun cdv A outer s H vs Q E hr h => ?_)
  · obtain ⟨z, a, b, rfl, _⟩ := h
    rfl
  obtain ⟨z, a, b, rfl, hz, ⟨a0, a1⟩, ⟨b0, b1⟩, q⟩ := h
  refine ⟨_, (pss_cons (ps_if (pt_cmpR op_eq (pv 0) pe_str (nomark _)) (pss_one (ps_ret (pe_op op_mod (pe_op op_add (pv 1) (pv 2)) (pe_glob (by rfl) T.g_MODULUS T.r_MODULUS)))) pss_nil)
      (pss_cons (ps_if (pt_cmpR op_eq (pv 0) pe_str (nomark _)) (pss_one (ps_ret (pe_callB (call_max2 rfl) (by rfl) T.z_max (by first | exact PySem.boot_max | decide +kernel) (pa_cons (pe_op op_sub (pv 1) (pv 2)) (pa_cons pe_int pa_nil))))) pss_nil)
      (pss_cons (ps_if (pt_cmpR op_eq (pv 0) pe_str (nomark _)) (pss_one (ps_ret (pe_op op_mod (pe_op op_mul (pv 1) (pv 2)) (pe_glob (by rfl) T.g_MODULUS T.r_MODULUS)))) pss_nil)
      (pss_cons (ps_if (pt_cmpR op_eq (pv 0) pe_str (nomark _)) (pss_one (ps_ret (pe_ifExp (pt_cmpR op_gt (pv 2) pe_int (nomark _)) (pe_op op_fdiv (pv 1) (pv 2)) pe_int))) pss_nil)
      (pss_cons (ps_if (pt_cmpR op_eq (pv 0) pe_str (nomark _)) (pss_one (ps_ret (pe_ifExp (pt_cmpR op_gt (pv 2) pe_int (nomark _)) (pe_op op_mod (pv 1) (pv 2)) pe_int))) pss_nil)
      (pss_cons (ps_if (pt_cmpR op_eq (pv 0) pe_str (nomark _)) (pss_one (ps_ret (pe_ifExp (pt_cmpR op_lt (pv 1) (pv 2) (nomark _)) pe_int pe_int))) pss_nil)
      (pss_one (ps_ret (pe_ifExp (pt_cmpR op_eq (pv 1) (pv 2) (nomark _)) pe_int pe_int))))))))), ?_⟩
  refine ⟨_, rfl, rfl, _, rfl, ite2 (fun c => ?_) (fun n1 => ?_)⟩
  · have e := str_eq c
    have k : comb z a b = (a + b) % 65536 := if_pos e
    rw [k] at q
    exact ⟨_, rfl, _, rfl, _, _, rfl, rfl, _, _, rfl, rfl, by show (0 : Int) < 65536; decide, q⟩
  have m1 : z ≠ "+" := fun e => n1 (decide_eq_true (congrArg V.str e))
  refine ⟨_, rfl, rfl, _, rfl, ite2 (fun c => ?_) (fun n2 => ?_)⟩
  · have e := str_eq c
    have k : comb z a b = max (a - b) 0 := (if_neg m1).trans (if_pos e)
    rw [k] at q
    refine ⟨_, rfl, _, rfl, _, _, rfl, rfl, _, _, rfl, ?_⟩
    have k2 : max (a - b) 0 = if (a - b) < 0 then 0 else a - b := by omega
    rw [k2] at q
    exact q
  have m2 : z ≠ "-" := fun e => n2 (decide_eq_true (congrArg V.str e))
  refine ⟨_, rfl, rfl, _, rfl, ite2 (fun c => ?_) (fun n3 => ?_)⟩
  · have e := str_eq c
    have k : comb z a b = a * b % 65536 := ((if_neg m1).trans (if_neg m2)).trans (if_pos e)
    rw [k] at q
    exact ⟨_, rfl, _, rfl, _, _, rfl, rfl, .inl ⟨by omega, by omega⟩, _, _, rfl, rfl, by show (0 : Int) < 65536; decide, q⟩
  have m3 : z ≠ "*" := fun e => n3 (decide_eq_true (congrArg V.str e))
  refine ⟨_, rfl, rfl, _, rfl, ite2 (fun c => ?_) (fun n4 => ?_)⟩
  · have e := str_eq c
    have k : comb z a b = if 0 < b then a / b else 0 := (((if_neg m1).trans (if_neg m2)).trans (if_neg m3)).trans (if_pos e)
    rw [k] at q
    refine ⟨_, rfl, _, _, rfl, rfl, _, rfl, ite2 (fun y => ?_) (fun y => ?_)⟩
    · rw [if_pos (of_decide_eq_true y)] at q
      exact ⟨_, rfl, _, rfl, _, _, rfl, rfl, ⟨of_decide_eq_true y, by omega⟩, q⟩
    · rw [if_neg (fun t => y (decide_eq_true t))] at q
      exact q
  have m4 : z ≠ "/" := fun e => n4 (decide_eq_true (congrArg V.str e))
  refine ⟨_, rfl, rfl, _, rfl, ite2 (fun c => ?_) (fun n5 => ?_)⟩
  · have e := str_eq c
    have k : comb z a b = if 0 < b then a % b else 0 := ((((if_neg m1).trans (if_neg m2)).trans (if_neg m3)).trans (if_neg m4)).trans (if_pos e)
    rw [k] at q
    refine ⟨_, rfl, _, _, rfl, rfl, _, rfl, ite2 (fun y => ?_) (fun y => ?_)⟩
    · rw [if_pos (of_decide_eq_true y)] at q
      exact ⟨_, rfl, _, rfl, _, _, rfl, rfl, of_decide_eq_true y, q⟩
    · rw [if_neg (fun t => y (decide_eq_true t))] at q
      exact q
  have m5 : z ≠ "mod" := fun e => n5 (decide_eq_true (congrArg V.str e))
  refine ⟨_, rfl, rfl, _, rfl, ite2 (fun c => ?_) (fun n6 => ?_)⟩
  · have e := str_eq c
    have k : comb z a b = if a < b then 1 else 0 := (((((if_neg m1).trans (if_neg m2)).trans (if_neg m3)).trans (if_neg m4)).trans (if_neg m5)).trans (if_pos e)
    rw [k] at q
    refine ⟨_, rfl, _, rfl, _, _, rfl, rfl, _, rfl, ite2 (fun y => ?_) (fun y => ?_)⟩
    · rw [if_pos (of_decide_eq_true y)] at q
      exact q
    · rw [if_neg (fun t => y (decide_eq_true t))] at q
      exact q
  have m6 : z ≠ "<" := fun e => n6 (decide_eq_true (congrArg V.str e))
  have k : comb z a b = if a = b then 1 else 0 := (((((if_neg m1).trans (if_neg m2)).trans (if_neg m3)).trans (if_neg m4)).trans (if_neg m5)).trans (if_neg m6)
  rw [k] at q
  refine ⟨_, rfl, _, rfl, rfl, _, rfl, ite2 (fun y => ?_) (fun y => ?_)⟩
  · rw [if_pos (V.int.inj (of_decide_eq_true y))] at q
    exact q
  · rw [if_neg (fun t => y (decide_eq_true (congrArg V.int t)))] at q
    exact q
/-! ### value_of -/
def sp_value_of (T : Txt K mg) (n : Nat) : Sp := fun vs H Q _ => ∃ (v : V) (t o s : Addr) (e : Ex) (ns ps : List Str) (tb : Str → Int) (on : Str → Bool) (sn : List Int), vs = [v, .ref t, .ref o, .ref s] ∧ Ev H v e ∧ e.deep ≤ n ∧ e.Wf ns ps ∧ Tb H ns ps t o tb on ∧
  SqT K H s (sn.map V.int) ∧ (∀ n ∈ sn, Bd n) ∧ Q (.int (e.val tb on sn)) H
theorem deep_pos (e : Ex) : 0 < e.deep := by cases e <;> simp [Ex.deep]
theorem no_value_of (T : Txt K mg) : ∀ vs H Q E, ¬ sp_value_of T 0 vs H Q E := fun vs H Q E ⟨_, _, _, _, e, _, _, _, _, _, _, _, h, _⟩ => absurd (deep_pos e) (by omega)

theorem step_value_of (T : Txt K mg) {n : Nat} (G : FnOk P w K mg base CX0 (1 + n) T.a_value_of T.d_value_of ["expression", "table", "on", "seen"] (sp_value_of T n)) : FnOk P w K mg base CX0 (1 + n + 1) T.a_value_of T.d_value_of ["expression", "table", "on", "seen"] (sp_value_of T (n + 1)) := by
  refine T.F_value_of.ok sc_value_of (fun vs H Q E h => ?_) (fun cdv A outer s H vs Q E hr h => ?_)
  · obtain ⟨v, t, o, sa, e, ns, ps, tb, on, sn, rfl, _⟩ := h
    rfl
  obtain ⟨v, t, o, sa, e, ns, ps, tb, on, sn, rfl, hv, hd, hw, hT, hS, hB, q⟩ := h
  refine ⟨_, (pss_cons (ps_set (i := 4) sc_value_of.nd rfl (by first | exact Or.inl rfl | exact Or.inr rfl) (pe_ix ix_tup (pv 0) pe_int (fun _ _ => rfl)))
      (pss_cons (ps_if (pt_cmpR op_eq (pv 4) pe_str (nomark _)) (pss_one (ps_ret (pe_ix ix_tup (pv 0) pe_int (fun _ _ => rfl)))) pss_nil)
      (pss_cons (ps_if (pt_cmpR op_eq (pv 4) pe_str (nomark _)) (pss_one (ps_ret (pe_dget (d_room hr) (pv 1) (pe_ix ix_tup (pv 0) pe_int (fun _ _ => rfl)) (fun _ _ => rfl)))) pss_nil)
      (pss_cons (ps_if (pt_cmpR op_eq (pv 4) pe_str (nomark _)) (pss_one (ps_ret (pe_callB (call_min2 rfl) (by rfl) T.z_min (by first | exact PySem.boot_min | decide +kernel) (pa_cons (pe_callB call_len_seq (by rfl) T.z_len (by first | exact PySem.boot_len | decide +kernel) (pa_cons (pv 3) pa_nil)) (pa_cons (pe_glob (by rfl) T.g_GREATEST_NUMBER T.r_GREATEST_NUMBER) pa_nil))))) pss_nil)
      (pss_cons (ps_if (pt_cmpR op_eq (pv 4) pe_str (nomark _)) (pss_cons (ps_set (i := 5) sc_value_of.nd rfl (by first | exact Or.inl rfl | exact Or.inr rfl) (pe_call G hr (by rfl) T.m_value_of T.F_value_of.kp T.b_value_of .nil pass0 (pa_cons (pe_ix ix_tup (pv 0) pe_int (fun _ _ => rfl)) (pa_cons (pv 1) (pa_cons (pv 2) (pa_cons (pv 3) pa_nil))))))
      (pss_one (ps_ret (pe_ifExp (pt_cmpR op_lt (pv 5) (pe_callB call_len_seq (by rfl) T.z_len (by first | exact PySem.boot_len | decide +kernel) (pa_cons (pv 3) pa_nil)) (nomark _)) (pe_ix ix_tup (pv 3) (pv 5) (fun _ _ => rfl)) pe_int)))) pss_nil)
      (pss_cons (ps_if (pt_cmpR op_eq (pv 4) pe_str (nomark _)) (pss_cons (ps_set (i := 6) sc_value_of.nd rfl (by first | exact Or.inl rfl | exact Or.inr rfl) (pe_ifExp (pt_truth (pe_dget (d_room hr) (pv 2) (pe_ix ix_tup (pv 0) pe_int (fun _ _ => rfl)) (fun _ _ => rfl)) (fun _ => rfl)) (pe_ix ix_tup (pv 0) pe_int (fun _ _ => rfl)) (pe_ix ix_tup (pv 0) pe_int (fun _ _ => rfl))))
      (pss_one (ps_ret (pe_call G hr (by rfl) T.m_value_of T.F_value_of.kp T.b_value_of .nil pass0 (pa_cons (pv 6) (pa_cons (pv 1) (pa_cons (pv 2) (pa_cons (pv 3) pa_nil)))))))) pss_nil)
      (pss_cons (ps_set (i := 7) sc_value_of.nd rfl (by first | exact Or.inl rfl | exact Or.inr rfl) (pe_call G hr (by rfl) T.m_value_of T.F_value_of.kp T.b_value_of .nil pass0 (pa_cons (pe_ix ix_tup (pv 0) pe_int (fun _ _ => rfl)) (pa_cons (pv 1) (pa_cons (pv 2) (pa_cons (pv 3) pa_nil))))))
      (pss_cons (ps_set (i := 8) sc_value_of.nd rfl (by first | exact Or.inl rfl | exact Or.inr rfl) (pe_call G hr (by rfl) T.m_value_of T.F_value_of.kp T.b_value_of .nil pass0 (pa_cons (pe_ix ix_tup (pv 0) pe_int (fun _ _ => rfl)) (pa_cons (pv 1) (pa_cons (pv 2) (pa_cons (pv 3) pa_nil))))))
      (pss_one (ps_ret (pe_call (ok_combine T) (hr.mono (by omega)) (by rfl) T.m_combine T.F_combine.kp T.b_combine .nil pass0 (pa_cons (pv 4) (pa_cons (pv 7) (pa_cons (pv 8) pa_nil)))))))))))))), ?_⟩
  obtain ⟨⟨kt, ht, htv⟩, ko, ho, hov⟩ := id hT
  obtain ⟨n1, n2, n3, n4, n5, n6, n7, n8, n9, n10⟩ := num_ne
  cases hv with
  | @num a m ha =>
    refine ⟨_, rfl, a, _, 0, .str "number", rfl, rfl, SqT.of ha, atI_nat (j := 0) rfl, ?_⟩
    refine ⟨_, rfl, rfl, _, rfl, iteS ?_⟩
    exact ⟨_, rfl, a, _, 1, .int m, rfl, rfl, SqT.of ha, atI_nat (j := 1) rfl, q⟩
  | @var a x ha =>
    refine ⟨_, rfl, a, _, 0, .str "variable", rfl, rfl, SqT.of ha, atI_nat (j := 0) rfl, ?_⟩
    refine ⟨_, rfl, rfl, _, rfl, iteN n1 ?_⟩
    refine ⟨_, rfl, rfl, _, rfl, iteS ?_⟩
    exact ⟨_, rfl, _, rfl, a, _, 1, .str x, rfl, rfl, SqT.of ha, atI_nat (j := 1) rfl, t, _, rfl, dget_of ht (htv x hw).1, q⟩
  | @long a ha =>
    refine ⟨_, rfl, a, _, 0, .str "long", rfl, rfl, SqT.of ha, atI_nat (j := 0) rfl, ?_⟩
    refine ⟨_, rfl, rfl, _, rfl, iteN n2 ?_⟩
    refine ⟨_, rfl, rfl, _, rfl, iteN n5 ?_⟩
    refine ⟨_, rfl, rfl, _, rfl, iteS ?_⟩
    refine ⟨_, rfl, sa, _, rfl, .inr hS, _, _, rfl, ?_⟩
    have e2 : (if (65535 : Int) < (((sn.map V.int).length : Nat) : Int) then (65535 : Int) else (((sn.map V.int).length : Nat) : Int)) = min (sn.length : Int) 65535 := by
      rw [List.length_map]
      omega
    rw [e2]
    exact q
  | @view a v e ha hv =>
    have hd' : e.deep ≤ n := by
      have : e.deep + 1 ≤ n + 1 := hd
      omega
    refine ⟨_, rfl, a, _, 0, .str "view", rfl, rfl, SqT.of ha, atI_nat (j := 0) rfl, ?_⟩
    refine ⟨_, rfl, rfl, _, rfl, iteN n3 ?_⟩
    refine ⟨_, rfl, rfl, _, rfl, iteN n6 ?_⟩
    refine ⟨_, rfl, rfl, _, rfl, iteN n8 ?_⟩
    refine ⟨_, rfl, rfl, _, rfl, iteS ?_⟩
    refine ⟨_, rfl, a, _, 1, v, rfl, rfl, SqT.of ha, atI_nat (j := 1) rfl, _, rfl, _, rfl, _, rfl, v, t, o, sa, e, ns, ps, tb, on, sn, rfl, hv, hd', hw, hT, hS, hB, ?_⟩
    have bd := val_bd (on := on) (fun x m => (htv x m).2) hB e hw
    have q' : Q (.int (sn.getD (e.val tb on sn).toNat 0)) H := q
    revert q'
    generalize e.val tb on sn = i at bd
    intro q'
    have i0 := bd.1
    refine ⟨_, rfl, _, rfl, sa, _, rfl, .inr hS, _, _, rfl, rfl, _, rfl, ite2 (fun c => ?_) (fun c => ?_)⟩
    · have c' : i < (((sn.map V.int).length : Nat) : Int) := of_decide_eq_true c
      rw [List.length_map] at c'
      have hlt : i.toNat < sn.length := by omega
      have eg : sn[i.toNat]? = some (sn[i.toNat]) := List.getElem?_eq_getElem hlt
      refine ⟨_, rfl, _, rfl, sa, _, i, .int (sn[i.toNat]), rfl, rfl, hS, at_ofG (j := i.toNat) (by omega) (by rw [List.getElem?_map, eg]; rfl), ?_⟩
      rw [List.getD_eq_getElem?_getD, eg] at q'
      exact q'
    · have c' : ¬ i < (((sn.map V.int).length : Nat) : Int) := fun z => c (decide_eq_true z)
      rw [List.length_map] at c'
      rw [List.getD_eq_getElem?_getD, List.getElem?_eq_none (by omega)] at q'
      exact q'
  | @pick a x v w e f ha hv hv2 =>
    have hd' : max e.deep f.deep + 1 ≤ n + 1 := hd
    refine ⟨_, rfl, a, _, 0, .str "pick", rfl, rfl, SqT.of ha, atI_nat (j := 0) rfl, ?_⟩
    refine ⟨_, rfl, rfl, _, rfl, iteN n4 ?_⟩
    refine ⟨_, rfl, rfl, _, rfl, iteN n7 ?_⟩
    refine ⟨_, rfl, rfl, _, rfl, iteN n9 ?_⟩
    refine ⟨_, rfl, rfl, _, rfl, iteN n10 ?_⟩
    refine ⟨_, rfl, rfl, _, rfl, iteS ?_⟩
    have q' : Q (.int (if on x = true then e.val tb on sn else f.val tb on sn)) H := q
    refine ⟨_, rfl, _, rfl, a, _, 1, .str x, rfl, rfl, SqT.of ha, atI_nat (j := 1) rfl, o, _, rfl, dget_of ho (hov x hw.1), _, rfl, ite2 (fun c => ?_) (fun c => ?_)⟩
    · rw [if_pos c] at q'
      refine ⟨_, rfl, a, _, 2, v, rfl, rfl, SqT.of ha, atI_nat (j := 2) rfl, ?_⟩
      exact ⟨_, rfl, _, rfl, _, rfl, _, rfl, v, t, o, sa, e, ns, ps, tb, on, sn, rfl, hv, by omega, hw.2.1, hT, hS, hB, q'⟩
    · rw [if_neg c] at q'
      refine ⟨_, rfl, a, _, 3, w, rfl, rfl, SqT.of ha, atI_nat (j := 3) rfl, ?_⟩
      exact ⟨_, rfl, _, rfl, _, rfl, _, rfl, w, t, o, sa, f, ns, ps, tb, on, sn, rfl, hv2, by omega, hw.2.2, hT, hS, hB, q'⟩
  | @op a z v w e f ha hv hv2 =>
    have hd' : max e.deep f.deep + 1 ≤ n + 1 := hd
    obtain ⟨m1, m2, m3, m4, m5⟩ := opL_ne hw.1
    refine ⟨_, rfl, a, _, 0, .str z, rfl, rfl, SqT.of ha, atI_nat (j := 0) rfl, ?_⟩
    refine ⟨_, rfl, rfl, _, rfl, iteN m1 ?_⟩
    refine ⟨_, rfl, rfl, _, rfl, iteN m2 ?_⟩
    refine ⟨_, rfl, rfl, _, rfl, iteN m3 ?_⟩
    refine ⟨_, rfl, rfl, _, rfl, iteN m4 ?_⟩
    refine ⟨_, rfl, rfl, _, rfl, iteN m5 ?_⟩
    refine ⟨_, rfl, a, _, 1, v, rfl, rfl, SqT.of ha, atI_nat (j := 1) rfl, _, rfl, _, rfl, _, rfl, v, t, o, sa, e, ns, ps, tb, on, sn, rfl, hv, by omega, hw.2.1, hT, hS, hB, ?_⟩
    refine ⟨_, rfl, a, _, 2, w, rfl, rfl, SqT.of ha, atI_nat (j := 2) rfl, _, rfl, _, rfl, _, rfl, w, t, o, sa, f, ns, ps, tb, on, sn, rfl, hv2, by omega, hw.2.2, hT, hS, hB, ?_⟩
    exact ⟨_, rfl, _, rfl, _, rfl, z, _, _, rfl, hw.1, val_bd (fun x m => (htv x m).2) hB e hw.2.1, val_bd (fun x m => (htv x m).2) hB f hw.2.2, q⟩
theorem ok_value_of (T : Txt K mg) : ∀ n, FnOk P w K mg base CX0 (1 + n) T.a_value_of T.d_value_of ["expression", "table", "on", "seen"] (sp_value_of T n)
  | 0 => ⟨fun vs H Q E h => absurd h (no_value_of T vs H Q E), fun A outer s H args us vs Q E _ _ _ _ h => absurd h (no_value_of T vs H Q E)⟩
  | n + 1 => step_value_of T (ok_value_of T n)
/-! ### expression_code -/
def sp_expression_code (T : Txt K mg) (n : Nat) : Sp := fun vs H Q _ => ∃ (v : V) (s o : Addr) (e : Ex) (ns ps : List Str) (on : Str → Bool) (ko : List (Key × V)), vs = [v, .ref s, .ref o] ∧ Ev H v e ∧ e.deep ≤ n ∧ n ≤ 13 ∧ e.Wf ns ps ∧ FT H s (ns.map V.str) ∧ H o = some (.dK ko) ∧ (∀ x ∈ ps, valV ko (.inr x) = some (.bl (on x))) ∧
  ∀ (p : Addr) (H' : Hp) (cs : List V), Same H H' → H p = none → H' p = some (.lst cs) → CodeV H' cs (e.code ns on) → Q (.ref p) H'
theorem no_expression_code (T : Txt K mg) : ∀ vs H Q E, ¬ sp_expression_code T 0 vs H Q E := fun vs H Q E ⟨_, _, _, e, _, _, _, _, _, _, h, _⟩ => absurd (deep_pos e) (by omega)

theorem step_expression_code (T : Txt K mg) {n : Nat} (G : FnOk P w K mg base CX0 (0 + n) T.a_expression_code T.d_expression_code ["expression", "slots", "on"] (sp_expression_code T n)) : FnOk P w K mg base CX0 (0 + n + 1) T.a_expression_code T.d_expression_code ["expression", "slots", "on"] (sp_expression_code T (n + 1)) := by
  refine T.F_expression_code.ok sc_expression_code (fun vs H Q E h => ?_) (fun cdv A outer s H vs Q E hr h => ?_)
  · obtain ⟨v, sa, o, e, ns, ps, on, ko, rfl, _⟩ := h
    rfl
  obtain ⟨v, sa, o, e, ns, ps, on, ko, rfl, hv, hd, h13, hw, hS, ho, hov, q⟩ := h
  refine ⟨_, (pss_cons (ps_set (i := 3) sc_expression_code.nd rfl (by first | exact Or.inl rfl | exact Or.inr rfl) (pe_ix ix_tup (pv 0) pe_int (fun _ _ => rfl)))
      (pss_cons (ps_if (pt_cmpR op_eq (pv 3) pe_str (nomark _)) (pss_one (ps_ret (pe_lst (pa_cons (pe_tup (pa_cons pe_str (pa_cons (pe_ix ix_tup (pv 0) pe_int (fun _ _ => rfl)) pa_nil))) pa_nil)))) pss_nil)
      (pss_cons (ps_if (pt_cmpR op_eq (pv 3) pe_str (nomark _)) (pss_one (ps_ret (pe_lst (pa_cons (pe_tup (pa_cons pe_str (pa_cons (pe_mG ty_tu PySem.F.plainAttrs_tuple PySem.F.slot_tuple_index PySem.F.type_tuple_index mt_tup_index (pv 1) (pa_cons (pe_ix ix_tup (pv 0) pe_int (fun _ _ => rfl)) pa_nil)) pa_nil))) pa_nil)))) pss_nil)
      (pss_cons (ps_if (pt_cmpR op_eq (pv 3) pe_str (nomark _)) (pss_one (ps_ret (pe_lst (pa_cons (pe_tup (pa_cons pe_str (pa_cons pe_int pa_nil))) pa_nil)))) pss_nil)
      (pss_cons (ps_if (pt_cmpR op_eq (pv 3) pe_str (nomark _)) (pss_one (ps_ret (pe_lst (StX.pa_star (pe_call G hr (by rfl) T.m_expression_code T.F_expression_code.kp T.b_expression_code .nil pass0 (pa_cons (pe_ix ix_tup (pv 0) pe_int (fun _ _ => rfl)) (pa_cons (pv 1) (pa_cons (pv 2) pa_nil)))) (pa_cons (pe_tup (pa_cons pe_str (pa_cons pe_int pa_nil))) pa_nil))))) pss_nil)
      (pss_cons (ps_if (pt_cmpR op_eq (pv 3) pe_str (nomark _)) (pss_one (ps_ret (pe_call G hr (by rfl) T.m_expression_code T.F_expression_code.kp T.b_expression_code .nil pass0 (pa_cons (pe_ifExp (pt_truth (pe_dget (d_room hr) (pv 2) (pe_ix ix_tup (pv 0) pe_int (fun _ _ => rfl)) (fun _ _ => rfl)) (fun _ => rfl)) (pe_ix ix_tup (pv 0) pe_int (fun _ _ => rfl)) (pe_ix ix_tup (pv 0) pe_int (fun _ _ => rfl))) (pa_cons (pv 1) (pa_cons (pv 2) pa_nil)))))) pss_nil)
      (pss_cons (ps_set (i := 4) sc_expression_code.nd rfl (by first | exact Or.inl rfl | exact Or.inr rfl) (pe_call G hr (by rfl) T.m_expression_code T.F_expression_code.kp T.b_expression_code .nil pass0 (pa_cons (pe_ix ix_tup (pv 0) pe_int (fun _ _ => rfl)) (pa_cons (pv 1) (pa_cons (pv 2) pa_nil)))))
      (pss_cons (ps_set (i := 5) sc_expression_code.nd rfl (by first | exact Or.inl rfl | exact Or.inr rfl) (pe_call G hr (by rfl) T.m_expression_code T.F_expression_code.kp T.b_expression_code .nil pass0 (pa_cons (pe_ix ix_tup (pv 0) pe_int (fun _ _ => rfl)) (pa_cons (pv 1) (pa_cons (pv 2) pa_nil)))))
      (pss_one (ps_ret (pe_lst (StX.pa_star (pv 4) (StX.pa_star (pv 5) (pa_cons (pe_tup (pa_cons pe_str (pa_cons (pe_mG ty_tu PySem.F.plainAttrs_tuple PySem.F.slot_tuple_index PySem.F.type_tuple_index mt_tup_index (pe_glob (v := .ref T.A_OPERATORS) (by rfl) T.g_OPERATORS rfl) (pa_cons (pv 3) pa_nil)) pa_nil))) pa_nil)))))))))))))), ?_⟩
  obtain ⟨n1, n2, n3, n4, n5, n6, n7, n8, n9, n10⟩ := num_ne
  cases hv with
  | @num a m ha =>
    refine ⟨_, rfl, a, _, 0, .str "number", rfl, rfl, SqT.of ha, atI_nat (j := 0) rfl, ?_⟩
    refine ⟨_, rfl, rfl, _, rfl, iteS ?_⟩
    refine ⟨_, rfl, a, _, 1, .int m, rfl, rfl, SqT.of ha, atI_nat (j := 1) rfl, by show 2 ≤ sizeLine; decide, fun t ft => ⟨by show 1 ≤ sizeLine; decide, fun p fp => ?_⟩⟩
    have s1 := same_upd (o := .tup [V.str "push", .int m]) ft
    have s2 := same_upd (o := .lst [V.ref t]) fp
    exact q p _ _ (s1.trans s2) (s1.free fp) upd_same (.cons ⟨t, rfl, s2 _ _ upd_same⟩ .nil)
  | @var a x ha =>
    refine ⟨_, rfl, a, _, 0, .str "variable", rfl, rfl, SqT.of ha, atI_nat (j := 0) rfl, ?_⟩
    refine ⟨_, rfl, rfl, _, rfl, iteN n1 ?_⟩
    refine ⟨_, rfl, rfl, _, rfl, iteS ?_⟩
    obtain ⟨g1, g2⟩ := ixS_get (show x ∈ ns from hw)
    refine ⟨_, rfl, ⟨sa, rfl, .inl ⟨_, hS⟩⟩, _, rfl, a, _, 1, .str x, rfl, rfl, SqT.of ha, atI_nat (j := 1) rfl, sa, ns, x, ixS ns x, rfl, rfl, hS.sq, g1, g2, by show 2 ≤ sizeLine; decide, fun t ft => ⟨by show 1 ≤ sizeLine; decide, fun p fp => ?_⟩⟩
    have s1 := same_upd (o := .tup [V.str "load", .int (ixS ns x : Nat)]) ft
    have s2 := same_upd (o := .lst [V.ref t]) fp
    exact q p _ _ (s1.trans s2) (s1.free fp) upd_same (.cons ⟨t, rfl, s2 _ _ upd_same⟩ .nil)
  | @long a ha =>
    refine ⟨_, rfl, a, _, 0, .str "long", rfl, rfl, SqT.of ha, atI_nat (j := 0) rfl, ?_⟩
    refine ⟨_, rfl, rfl, _, rfl, iteN n2 ?_⟩
    refine ⟨_, rfl, rfl, _, rfl, iteN n5 ?_⟩
    refine ⟨_, rfl, rfl, _, rfl, iteS ?_⟩
    refine ⟨by show 2 ≤ sizeLine; decide, fun t ft => ⟨by show 1 ≤ sizeLine; decide, fun p fp => ?_⟩⟩
    have s1 := same_upd (o := .tup [V.str "long", .int 0]) ft
    have s2 := same_upd (o := .lst [V.ref t]) fp
    exact q p _ _ (s1.trans s2) (s1.free fp) upd_same (.cons ⟨t, rfl, s2 _ _ upd_same⟩ .nil)
  | @view a v e ha hv =>
    have hd' : e.deep ≤ n := by
      have : e.deep + 1 ≤ n + 1 := hd
      omega
    refine ⟨_, rfl, a, _, 0, .str "view", rfl, rfl, SqT.of ha, atI_nat (j := 0) rfl, ?_⟩
    refine ⟨_, rfl, rfl, _, rfl, iteN n3 ?_⟩
    refine ⟨_, rfl, rfl, _, rfl, iteN n6 ?_⟩
    refine ⟨_, rfl, rfl, _, rfl, iteN n8 ?_⟩
    refine ⟨_, rfl, rfl, _, rfl, iteS ?_⟩
    refine ⟨_, rfl, a, _, 1, v, rfl, rfl, SqT.of ha, atI_nat (j := 1) rfl, _, rfl, _, rfl, v, sa, o, e, ns, ps, on, ko, rfl, hv, hd', by omega, hw, hS, ho, hov, fun p1 H1 cs s1 f1 e1 c1 => ?_⟩
    refine ⟨p1, cs, rfl, .inr (SqL.of e1), by show 2 ≤ sizeLine; decide, fun t ft => ?_⟩
    have s2 := same_upd (o := .tup [V.str "view", .int 0]) ft
    have l1 := code_len13 (ns := ns) (on := on) (e := e) (by omega)
    have l2 : cs.length = (e.code ns on).length := c1.length
    refine ⟨?_, fun p fp => ?_⟩
    · show (cs ++ [V.ref t]).length ≤ sizeLine
      rw [List.length_append, sizeLine_eq]
      show cs.length + 1 ≤ _
      omega
    have s3 := same_upd (o := .lst (cs ++ [V.ref t])) fp
    exact q p _ _ ((s1.trans s2).trans s3) ((s1.trans s2).free fp) upd_same (paired_app (c1.keep (keepT_of (s2.trans s3))) (.cons ⟨t, rfl, s3 _ _ upd_same⟩ .nil))
  | @pick a x v w e f ha hv hv2 =>
    have hd' : max e.deep f.deep + 1 ≤ n + 1 := hd
    refine ⟨_, rfl, a, _, 0, .str "pick", rfl, rfl, SqT.of ha, atI_nat (j := 0) rfl, ?_⟩
    refine ⟨_, rfl, rfl, _, rfl, iteN n4 ?_⟩
    refine ⟨_, rfl, rfl, _, rfl, iteN n7 ?_⟩
    refine ⟨_, rfl, rfl, _, rfl, iteN n9 ?_⟩
    refine ⟨_, rfl, rfl, _, rfl, iteN n10 ?_⟩
    refine ⟨_, rfl, rfl, _, rfl, iteS ?_⟩
    have q' : ∀ (p : Addr) (H' : Hp) (cs : List V), Same H H' → H p = none → H' p = some (.lst cs) → CodeV H' cs (if on x = true then e.code ns on else f.code ns on) → Q (.ref p) H' := q
    refine ⟨_, rfl, _, rfl, a, _, 1, .str x, rfl, rfl, SqT.of ha, atI_nat (j := 1) rfl, o, _, rfl, dget_of ho (hov x hw.1), _, rfl, ite2 (fun c => ?_) (fun c => ?_)⟩
    · rw [if_pos c] at q'
      exact ⟨_, rfl, a, _, 2, v, rfl, rfl, SqT.of ha, atI_nat (j := 2) rfl, _, rfl, _, rfl, v, sa, o, e, ns, ps, on, ko, rfl, hv, by omega, by omega, hw.2.1, hS, ho, hov, q'⟩
    · rw [if_neg c] at q'
      exact ⟨_, rfl, a, _, 3, w, rfl, rfl, SqT.of ha, atI_nat (j := 3) rfl, _, rfl, _, rfl, w, sa, o, f, ns, ps, on, ko, rfl, hv2, by omega, by omega, hw.2.2, hS, ho, hov, q'⟩
  | @op a z v w e f ha hv hv2 =>
    have hd' : max e.deep f.deep + 1 ≤ n + 1 := hd
    obtain ⟨m1, m2, m3, m4, m5⟩ := opL_ne hw.1
    refine ⟨_, rfl, a, _, 0, .str z, rfl, rfl, SqT.of ha, atI_nat (j := 0) rfl, ?_⟩
    refine ⟨_, rfl, rfl, _, rfl, iteN m1 ?_⟩
    refine ⟨_, rfl, rfl, _, rfl, iteN m2 ?_⟩
    refine ⟨_, rfl, rfl, _, rfl, iteN m3 ?_⟩
    refine ⟨_, rfl, rfl, _, rfl, iteN m4 ?_⟩
    refine ⟨_, rfl, rfl, _, rfl, iteN m5 ?_⟩
    refine ⟨_, rfl, a, _, 1, v, rfl, rfl, SqT.of ha, atI_nat (j := 1) rfl, _, rfl, _, rfl, v, sa, o, e, ns, ps, on, ko, rfl, hv, by omega, by omega, hw.2.1, hS, ho, hov, fun p1 H1 cs1 s1 f1 e1 c1 => ?_⟩
    have hv2' := hv2.keep (keepT_of s1)
    refine ⟨_, rfl, a, _, 2, w, rfl, rfl, SqT.of (s1 _ _ ha), atI_nat (j := 2) rfl, _, rfl, _, rfl, w, sa, o, f, ns, ps, on, ko, rfl, hv2', by omega, by omega, hw.2.2, hS.same s1, s1 _ _ ho, hov, fun p2 H2 cs2 s2 f2 e2 c2 => ?_⟩
    have e1' := s2 _ _ e1
    obtain ⟨g1, g2⟩ := ixS_get hw.1
    refine ⟨_, rfl, p1, cs1, rfl, .inr (SqL.of e1'), _, rfl, p2, cs2, rfl, .inr (SqL.of e2), ⟨_, rfl, .inr T.qd_OPERATORS⟩, _, rfl, _, opL, z, ixS opL z, rfl, rfl, T.q_OPERATORS _, g1, g2, by show 2 ≤ sizeLine; decide, fun t ft => ?_⟩
    have s3 := same_upd (o := .tup [V.str "sign", .int (ixS opL z : Nat)]) ft
    have l1 := code_len13 (ns := ns) (on := on) (e := e) (by omega)
    have l2 : cs1.length = (e.code ns on).length := c1.length
    have l3 := code_len13 (ns := ns) (on := on) (e := f) (by omega)
    have l4 : cs2.length = (f.code ns on).length := c2.length
    refine ⟨?_, fun p fp => ?_⟩
    · show (cs1 ++ (cs2 ++ [V.ref t])).length ≤ sizeLine
      rw [List.length_append, List.length_append, sizeLine_eq]
      show cs1.length + (cs2.length + 1) ≤ _
      omega
    have s4 := same_upd (o := .lst (cs1 ++ (cs2 ++ [V.ref t]))) fp
    refine q p _ _ (((s1.trans s2).trans s3).trans s4) (((s1.trans s2).trans s3).free fp) upd_same ?_
    show CodeV _ _ (e.code ns on ++ f.code ns on ++ ([("sign", ((ixS opL z : Nat) : Int))] : List Ins))
    rw [List.append_assoc]
    exact paired_app (c1.keep (keepT_of ((s2.trans s3).trans s4))) (paired_app (c2.keep (keepT_of (s3.trans s4))) (.cons ⟨t, rfl, s4 _ _ upd_same⟩ .nil))
theorem ok_expression_code (T : Txt K mg) : ∀ n, FnOk P w K mg base CX0 (0 + n) T.a_expression_code T.d_expression_code ["expression", "slots", "on"] (sp_expression_code T n)
  | 0 => ⟨fun vs H Q E h => absurd h (no_expression_code T vs H Q E), fun A outer s H args us vs Q E _ _ _ _ h => absurd h (no_expression_code T vs H Q E)⟩
  | n + 1 => step_expression_code T (ok_expression_code T n)
/-! ### _law_pool -/
def sp_law_pool (T : Txt K mg) : Sp := fun vs H Q _ => ∃ (a : Addr) (ns : List Int) (b : Int), vs = [.ref a, .int b] ∧ SqL K H a (ns.map V.int) ∧ ∀ (p c : Addr) (H' : Hp), Same H H' → H p = none → H c = none → Pool H' p c b → Q (.ref p) H'

theorem ok_law_pool (T : Txt K mg) : FnOk P w K mg base CX0 1 T.a_law_pool T.d_law_pool ["script", "budget"] (sp_law_pool T) := by
  refine T.F_law_pool.ok sc_law_pool (fun vs H Q E h => ?_) (fun cdv A outer s H vs Q E hr h => ?_)
  · obtain ⟨a, ns, b, rfl, _⟩ := h
    rfl
  obtain ⟨a, ns, b, rfl, hS, q⟩ := h
  refine ⟨_, (pss_one (ps_ret (pe_lst (pa_cons (pe_callTy call_list_of (by rfl) T.z_list (by first | exact PySem.boot_list | decide +kernel) (pa_cons (pv 0) pa_nil)) (pa_cons pe_int (pa_cons pe_int (pa_cons pe_int (pa_cons pe_int (pa_cons (pv 1) pa_nil))))))))), ?_⟩
  refine ⟨_, rfl, a, _, rfl, .inl hS, fun c hc => ⟨_, rfl, by show 6 ≤ sizeLine; decide, fun p hp => ?_⟩⟩
  refine q p c _ (upd2_same hc hp) ((same_upd hc).free hp) hc ⟨ns, 0, 0, 1, 0, upd_same, same_upd hp _ _ upd_same, Int.le_refl 0, fun z => ?_⟩
  rw [z] at hp
  rw [upd_same] at hp
  cases hp
/-! ### _law_draw -/
def sp_law_draw (T : Txt K mg) : Sp := fun vs H Q _ => ∃ (p c : Addr) (n b : Int), vs = [.ref p, .int n] ∧ 0 < n ∧ n < 1073741824 ∧ Pool H p c b ∧ ∀ (k : Int) (H' : Hp), 0 ≤ k → k < n → But p H H' → Pool H' p c b → Q (.int k) H'

theorem ok_law_draw (T : Txt K mg) : FnOk P w K mg base CX0 1 T.a_law_draw T.d_law_draw ["pool", "size"] (sp_law_draw T) := by
  refine T.F_law_draw.ok sc_law_draw (fun vs H Q E h => ?_) (fun cdv A outer s H vs Q E hr h => ?_)
  · obtain ⟨p, c, n, b, rfl, _⟩ := h
    rfl
  obtain ⟨p, c, n, b, rfl, hn, hn2, hP, q⟩ := h
  have hP0 := hP
  obtain ⟨ns, i, r, u, t, hp, hc, hi, hcp⟩ := hP
  refine ⟨_, (C8.pss_cut (ps_if (PW.pt (pw_and (pt_cmpR op_le (pe_ix ix_list (pv 0) pe_int (fun _ _ => rfl)) pe_int (nomark _)) (pw_and (pt_cmpR op_le (pe_ix ix_list (pv 0) pe_int (fun _ _ => rfl)) pe_int (nomark _)) (pw_and1 (pt_cmpR op_lt (pe_ix ix_list (pv 0) pe_int (fun _ _ => rfl)) (pe_callB call_len_seq (by rfl) T.z_len (by first | exact PySem.boot_len | decide +kernel) (pa_cons (pe_ix ix_list (pv 0) pe_int (fun _ _ => rfl)) pa_nil)) (nomark _)))))) (pss_cons (ps_set (i := 2) sc_law_draw.nd rfl (by first | exact Or.inl rfl | exact Or.inr rfl) (pe_ix ix_list (pe_ix ix_list (pv 0) pe_int (fun _ _ => rfl)) (pe_ix ix_list (pv 0) pe_int (fun _ _ => rfl)) (fun _ _ => rfl)))
      (pss_cons (ps_asg (pe_op op_add (pe_ix ix_list (pv 0) pe_int (fun _ _ => rfl)) pe_int) (pg_sub (pv 0) pe_int set_list))
      (pss_cons (ps_asg (pe_op op_mod (pe_callTy call_int1 (by rfl) T.z_int (by first | exact PySem.boot_int | decide +kernel) (pa_cons (pe_op op_add (pe_op op_mul (pe_ix ix_list (pv 0) pe_int (fun _ _ => rfl)) pe_int) (pv 2)) pa_nil)) pe_int) (pg_sub (pv 0) pe_int set_list))
      (pss_cons (ps_asg pe_int (pg_sub (pv 0) pe_int set_list))
      (pss_one (ps_if (pt_cmpR op_ge (pv 2) (pe_op op_pow pe_int pe_int) (nomark _)) (pss_one (ps_asg (pv 2) (pg_sub (pv 0) pe_int set_list))) pss_nil)))))) pss_nil)
      (pss_cons (ps_if (pt_cmpR op_gt (pe_ix ix_list (pv 0) pe_int (fun _ _ => rfl)) pe_int (nomark _)) (pss_cons (ps_set (i := 3) sc_law_draw.nd rfl (by first | exact Or.inl rfl | exact Or.inr rfl) (pe_op op_mod (pe_callTy call_int1 (by rfl) T.z_int (by first | exact PySem.boot_int | decide +kernel) (pa_cons (pe_ix ix_list (pv 0) pe_int (fun _ _ => rfl)) pa_nil)) (pv 1)))
      (pss_cons (ps_asg (pe_op op_fdiv (pe_ix ix_list (pv 0) pe_int (fun _ _ => rfl)) (pv 1)) (pg_sub (pv 0) pe_int set_list))
      (pss_cons (ps_asg pe_int (pg_sub (pv 0) pe_int set_list))
      (pss_one (ps_ret (pv 3)))))) pss_nil)
      (pss_cons (ps_asg (pe_op op_sub (pe_ix ix_list (pv 0) pe_int (fun _ _ => rfl)) pe_int) (pg_sub (pv 0) pe_int set_list))
      (pss_cons (ps_asg (pe_op op_mod (pe_callTy call_int1 (by rfl) T.z_int (by first | exact PySem.boot_int | decide +kernel) (pa_cons (pe_op op_add (pe_op op_mul (pe_ix ix_list (pv 0) pe_int (fun _ _ => rfl)) pe_int) pe_int) pa_nil)) pe_int) (pg_sub (pv 0) pe_int set_list))
      (pss_one (ps_ret (pe_op op_mod (pe_op op_mod (pe_callTy call_int1 (by rfl) T.z_int (by first | exact PySem.boot_int | decide +kernel) (pa_cons (pe_op op_add (pe_op op_mul (pe_ix ix_list (pv 0) pe_int (fun _ _ => rfl)) pe_int) pe_int) pa_nil)) pe_int) (pv 1)))))))), ?_⟩
  let ps : Int → Int → Int → Int → List V := fun i r u t => [.ref c, .int i, .int r, .int u, .int t, .int b]
  have at0 : ∀ i r u t, atI (ps i r u t) 0 = some (.ref c) := fun _ _ _ _ => atI_nat (j := 0) rfl
  have at1 : ∀ i r u t, atI (ps i r u t) 1 = some (.int i) := fun _ _ _ _ => atI_nat (j := 1) rfl
  have at2 : ∀ i r u t, atI (ps i r u t) 2 = some (.int r) := fun _ _ _ _ => atI_nat (j := 2) rfl
  have at3 : ∀ i r u t, atI (ps i r u t) 3 = some (.int u) := fun _ _ _ _ => atI_nat (j := 3) rfl
  have at4 : ∀ i r u t, atI (ps i r u t) 4 = some (.int t) := fun _ _ _ _ => atI_nat (j := 4) rfl
  refine ⟨fun σ' H' => ∃ y i r u t, σ' = [some (.ref p), some (.int n), y, none] ∧ But p H H' ∧ H' p = some (.lst (ps i r u t)) ∧ 0 ≤ i, ?_, ?_⟩
  · refine ⟨_, rfl, p, _, 2, .int r, rfl, rfl, SqL.of hp, at2 _ _ _ _, _, _, rfl, rfl, _, rfl, ite2 (fun _ => ?_) (fun _ => ⟨none, i, r, u, t, rfl, But.refl _ _, hp, hi⟩)⟩
    refine ⟨_, rfl, p, _, 4, .int t, rfl, rfl, SqL.of hp, at4 _ _ _ _, _, _, rfl, rfl, _, rfl, ite2 (fun _ => ?_) (fun _ => ⟨none, i, r, u, t, rfl, But.refl _ _, hp, hi⟩)⟩
    refine ⟨_, rfl, p, _, 1, .int i, rfl, rfl, SqL.of hp, at1 _ _ _ _, _, rfl, p, _, 0, .ref c, rfl, rfl, SqL.of hp, at0 _ _ _ _, c, _, rfl, .inl (SqL.of hc), _, _, rfl, rfl, _, rfl, ite2 (fun c3 => ?_) (fun _ => ⟨none, i, r, u, t, rfl, But.refl _ _, hp, hi⟩)⟩
    have c3' : i < (((ns.map V.int).length : Nat) : Int) := of_decide_eq_true c3
    rw [List.length_map] at c3'
    have hlt : i.toNat < ns.length := by omega
    have gi : (ns.map V.int)[i.toNat]? = some (.int ns[i.toNat]) := by rw [List.getElem?_map, List.getElem?_eq_getElem hlt]; rfl
    -- cell = pool[0][pool[1]]
    refine ⟨_, rfl, p, _, 0, .ref c, rfl, rfl, SqL.of hp, at0 _ _ _ _, _, rfl, p, _, 1, .int i, rfl, rfl, SqL.of hp, at1 _ _ _ _, c, _, i, _, rfl, rfl, SqL.of hc, at_of (j := i.toNat) (by omega) gi, ?_⟩
    generalize ns[i.toNat] = z
    -- pool[1] = pool[1] + 1; pool[3] = ..; pool[4] = 7
    refine ⟨_, rfl, p, _, 1, .int i, rfl, rfl, SqL.of hp, at1 _ _ _ _, _, _, rfl, rfl, _, rfl, p, _, 1, 1, rfl, rfl, hp, rfl, ?_⟩
    refine ⟨_, rfl, p, ps (i + 1) r u t, 3, .int u, rfl, rfl, SqL.of upd_same, at3 _ _ _ _, _, _, rfl, rfl, .inr ⟨by decide, by decide⟩, _, rfl, _, _, rfl, rfl, .inl ⟨_, rfl, _, _, rfl, rfl, by show (0 : Int) < 2147483647; decide, _, rfl, p, ps (i + 1) r u t, 3, 3, rfl, rfl, upd_same, rfl, ?_⟩⟩
    rw [upd_upd]
    refine ⟨_, rfl, p, ps (i + 1) r ((u * 31 + z) % 2147483647) t, 4, 4, rfl, rfl, upd_same, rfl, ?_⟩
    rw [upd_upd]
    -- if cell >= 10 ** 18: pool[2] = cell
    refine ⟨_, rfl, _, _, rfl, rfl, ⟨by decide, by decide, by decide⟩, _, _, rfl, rfl, _, rfl, ite2 (fun _ => ?_) (fun _ => ?_)⟩
    · refine ⟨_, rfl, _, rfl, p, ps (i + 1) r ((u * 31 + z) % 2147483647) 7, 2, 2, rfl, rfl, upd_same, rfl, ?_⟩
      rw [upd_upd]
      exact ⟨_, i + 1, z, _, 7, rfl, but_upd, upd_same, by omega⟩
    · exact ⟨_, i + 1, r, _, 7, rfl, but_upd, upd_same, by omega⟩
  clear hp hi at0
  rintro σ1 H1 ⟨y, i, r, u, t, rfl, b1, hp, hi⟩
  have hc1 : H1 c = some (.lst (ns.map V.int)) := b1 _ _ hcp hc
  refine ⟨_, rfl, p, _, 2, .int r, rfl, rfl, SqL.of hp, at2 _ _ _ _, _, _, rfl, rfl, _, rfl, ite2 (fun _ => ?_) (fun _ => ?_)⟩
  · -- a large cell is used up
    refine ⟨_, rfl, p, _, 2, .int r, rfl, rfl, SqL.of hp, at2 _ _ _ _, .inl ⟨_, rfl, _, rfl, _, _, rfl, rfl, hn, ?_⟩⟩
    refine ⟨_, rfl, p, _, 2, .int r, rfl, rfl, SqL.of hp, at2 _ _ _ _, _, rfl, _, _, rfl, rfl, ⟨hn, hn2⟩, _, rfl, p, _, 2, 2, rfl, rfl, hp, rfl, ?_⟩
    refine ⟨_, rfl, p, ps i (r / n) u t, 4, 4, rfl, rfl, upd_same, rfl, ?_⟩
    rw [upd_upd]
    refine ⟨_, rfl, q _ _ (Int.emod_nonneg _ (by omega)) (Int.emod_lt_of_pos _ hn) (b1.trans but_upd) ⟨ns, i, r / n, u, 0, upd_same, ?_, hi, hcp⟩⟩
    rw [upd_ne hcp]
    exact hc1
  · refine ⟨_, rfl, p, _, 4, .int t, rfl, rfl, SqL.of hp, at4 _ _ _ _, _, _, rfl, rfl, _, rfl, p, _, 4, 4, rfl, rfl, hp, rfl, ?_⟩
    refine ⟨_, rfl, p, ps i r u (t - 1), 3, .int u, rfl, rfl, SqL.of upd_same, at3 _ _ _ _, _, _, rfl, rfl, .inr ⟨by decide, by decide⟩, _, _, rfl, rfl, .inl ⟨_, rfl, _, _, rfl, rfl, by show (0 : Int) < 2147483647; decide, _, rfl, p, ps i r u (t - 1), 3, 3, rfl, rfl, upd_same, rfl, ?_⟩⟩
    rw [upd_upd]
    refine ⟨_, rfl, p, ps i r ((u * 48271 + 12345) % 2147483647) (t - 1), 3, _, rfl, rfl, SqL.of upd_same, at3 _ _ _ _, _, _, rfl, rfl, .inr ⟨by decide, by decide⟩, _, _, rfl, rfl, .inl ⟨_, rfl, _, _, rfl, rfl, by show (0 : Int) < 2147483647; decide, _, rfl, _, _, rfl, rfl, hn, ?_⟩⟩
    refine q _ _ (Int.emod_nonneg _ (by omega)) (Int.emod_lt_of_pos _ hn) (b1.trans but_upd) ⟨ns, i, r, _, t - 1, upd_same, ?_, hi, hcp⟩
    rw [upd_ne hcp]
    exact hc1
/-! ### _law_spend -/
def sp_law_spend (T : Txt K mg) : Sp := fun vs H Q _ => ∃ (p c : Addr) (b : Int), vs = [.ref p] ∧ Pool H p c b ∧ ∀ (k : Bool) (H' : Hp) (b' : Int), But p H H' → Pool H' p c b' → Q (.bl k) H'

theorem ok_law_spend (T : Txt K mg) : FnOk P w K mg base CX0 1 T.a_law_spend T.d_law_spend ["pool"] (sp_law_spend T) := by
  refine T.F_law_spend.ok sc_law_spend (fun vs H Q E h => ?_) (fun cdv A outer s H vs Q E hr h => ?_)
  · obtain ⟨p, c, b, rfl, _⟩ := h
    rfl
  obtain ⟨p, c, b, rfl, ⟨ns, i, r, u, t, hp, hc, hi, hcp⟩, q⟩ := h
  refine ⟨_, (pss_cons (ps_asg (pe_op op_sub (pe_ix ix_list (pv 0) pe_int (fun _ _ => rfl)) pe_int) (pg_sub (pv 0) pe_int set_list))
      (pss_one (ps_ret (pe_cmpR op_ge (pe_ix ix_list (pv 0) pe_int (fun _ _ => rfl)) pe_int (nomark _))))), ?_⟩
  refine ⟨_, rfl, p, _, 5, .int b, rfl, rfl, SqL.of hp, atI_nat (j := 5) rfl, _, _, rfl, rfl, _, rfl, p, _, 5, 5, rfl, rfl, hp, rfl, ?_⟩
  refine ⟨_, rfl, p, [.ref c, .int i, .int r, .int u, .int t, .int (b - 1)], 5, .int (b - 1), rfl, rfl, SqL.of upd_same, atI_nat (j := 5) rfl, _, _, rfl, rfl, q _ _ (b - 1) but_upd ⟨ns, i, r, u, t, upd_same, ?_, hi, hcp⟩⟩
  rw [upd_ne hcp]
  exact hc
/-! ### _law_few -/
def sp_law_few (T : Txt K mg) : Sp := fun vs H Q _ => ∃ (p c : Addr) (m b : Int), vs = [.ref p, .int m] ∧ 0 ≤ m ∧ m < 1000 ∧ Pool H p c b ∧ ∀ (k : Int) (H' : Hp), 0 ≤ k → k ≤ m → But p H H' → Pool H' p c b → Q (.int k) H'

theorem ok_law_few (T : Txt K mg) : FnOk P w K mg base CX0 2 T.a_law_few T.d_law_few ["pool", "most"] (sp_law_few T) := by
  refine T.F_law_few.ok sc_law_few (fun vs H Q E h => ?_) (fun cdv A outer s H vs Q E hr h => ?_)
  · obtain ⟨p, c, m, b, rfl, _⟩ := h
    rfl
  obtain ⟨p, c, m, b, rfl, m0, m1, hP, q⟩ := h
  refine ⟨_, (pss_cons (ps_set (i := 2) sc_law_few.nd rfl (by first | exact Or.inl rfl | exact Or.inr rfl) (pe_call (ok_law_draw T) (hr.mono (by decide)) (by rfl) T.m_law_draw T.F_law_draw.kp T.b_law_draw .nil pass0 (pa_cons (pv 0) (pa_cons pe_int pa_nil))))
      (pss_cons (ps_if (pt_cmpR op_eq (pv 2) pe_int (nomark _)) (pss_one (ps_ret (pe_call (ok_law_draw T) (hr.mono (by decide)) (by rfl) T.m_law_draw T.F_law_draw.kp T.b_law_draw .nil pass0 (pa_cons (pv 0) (pa_cons (pe_op op_add (pv 1) pe_int) pa_nil))))) pss_nil)
      (pss_one (ps_ret (pe_callB (call_min2 rfl) (by rfl) T.z_min (by first | exact PySem.boot_min | decide +kernel) (pa_cons (pv 2) (pa_cons (pv 1) pa_nil))))))), ?_⟩
  refine ⟨_, rfl, p, c, 4, b, rfl, by decide, by decide, hP, fun k H1 h0 h1 b1 P1 => ?_⟩
  refine ⟨_, rfl, rfl, _, rfl, ite2 (fun _ => ⟨_, rfl, _, rfl, _, _, rfl, rfl, p, c, m + 1, b, rfl, by omega, by omega, P1, fun k2 H2 g0 g1 b2 P2 => q _ _ g0 (by omega) (b1.trans b2) P2⟩) (fun _ => ⟨_, rfl, _, rfl, _, _, rfl, ?_⟩)⟩
  exact q _ _ (by split <;> omega) (by split <;> omega) b1 P1
/-! ### _law_number -/
def sp_law_number (T : Txt K mg) : Sp := fun vs H Q _ => ∃ (p c : Addr) (b : Int), vs = [.ref p] ∧ Pool H p c b ∧ ∀ (k : Int) (H' : Hp), Bd k → But p H H' → Pool H' p c b → Q (.int k) H'

theorem ok_law_number (T : Txt K mg) : FnOk P w K mg base CX0 2 T.a_law_number T.d_law_number ["pool"] (sp_law_number T) := by
  refine T.F_law_number.ok sc_law_number (fun vs H Q E h => ?_) (fun cdv A outer s H vs Q E hr h => ?_)
  · obtain ⟨p, c, b, rfl, _⟩ := h
    rfl
  obtain ⟨p, c, b, rfl, hP, q⟩ := h
  refine ⟨_, (pss_cons (ps_if (pt_cmpR op_eq (pe_call (ok_law_draw T) (hr.mono (by decide)) (by rfl) T.m_law_draw T.F_law_draw.kp T.b_law_draw .nil pass0 (pa_cons (pv 0) (pa_cons pe_int pa_nil))) pe_int (nomark _)) (pss_one (ps_ret (pe_call (ok_law_draw T) (hr.mono (by decide)) (by rfl) T.m_law_draw T.F_law_draw.kp T.b_law_draw .nil pass0 (pa_cons (pv 0) (pa_cons pe_int pa_nil))))) pss_nil)
      (pss_one (ps_ret (pe_call (ok_law_draw T) (hr.mono (by decide)) (by rfl) T.m_law_draw T.F_law_draw.kp T.b_law_draw .nil pass0 (pa_cons (pv 0) (pa_cons pe_int pa_nil)))))), ?_⟩
  refine ⟨_, rfl, p, c, 3, b, rfl, by decide, by decide, hP, fun k H1 h0 h1 b1 P1 => ?_⟩
  refine ⟨rfl, _, rfl, ite2 (fun _ => ?_) (fun _ => ?_)⟩
  · exact ⟨_, rfl, p, c, 65536, b, rfl, by decide, by decide, P1, fun k2 H2 g0 g1 b2 P2 => q _ _ ⟨g0, g1⟩ (b1.trans b2) P2⟩
  · exact ⟨_, rfl, p, c, 9, b, rfl, by decide, by decide, P1, fun k2 H2 g0 g1 b2 P2 => q _ _ ⟨g0, by omega⟩ (b1.trans b2) P2⟩
/-! ### _law_same -/
def sp_law_same (T : Txt K mg) (n : Nat) : Sp := fun vs H Q _ => ∃ (x y : V) (d : PyData), vs = [x, y] ∧ Da H x d ∧ Da H y d ∧ d.depth < n ∧ wide d = true ∧ Q (.bl true) H
theorem no_law_same (T : Txt K mg) : ∀ vs H Q E, ¬ sp_law_same T 0 vs H Q E := fun vs H Q E ⟨_, _, _, _, _, _, h, _⟩ => Nat.not_lt_zero _ h

theorem step_law_same (T : Txt K mg) {n : Nat} (G : FnOk P w K mg base CX0 (0 + n) T.a_law_same T.d_law_same ["actual", "due"] (sp_law_same T n)) : FnOk P w K mg base CX0 (0 + n + 1) T.a_law_same T.d_law_same ["actual", "due"] (sp_law_same T (n + 1)) := by
  refine T.F_law_same.ok sc_law_same (fun vs H Q E h => ?_) (fun cdv A outer s H vs Q E hr h => ?_)
  · obtain ⟨x, y, d, rfl, _⟩ := h
    rfl
  obtain ⟨x, y, d, rfl, hx, hy, hd, hw, q⟩ := h
  refine ⟨_, (pss_cons (ps_if (PW.pt (pw_or (pt_truth (pe_callB call_isi (by rfl) T.z_isinstance (by first | exact PySem.boot_isinstance | decide +kernel) (pa_cons (pv 1) (pa_cons (pe_bltn (v := .ty "tuple") (by rfl) T.z_tuple (by decide +kernel) rfl) pa_nil))) (fun _ => rfl)) (pw_or1 (pt_truth (pe_callB call_isi (by rfl) T.z_isinstance (by first | exact PySem.boot_isinstance | decide +kernel) (pa_cons (pv 1) (pa_cons (pe_bltn (v := .ty "list") (by rfl) T.z_list (by decide +kernel) rfl) pa_nil))) (fun _ => rfl))))) (pss_cons (ps_if (PW.pt (pw_or (pt_cmpR op_ne (pe_callB call_isi (by rfl) T.z_isinstance (by first | exact PySem.boot_isinstance | decide +kernel) (pa_cons (pv 1) (pa_cons (pe_bltn (v := .ty "tuple") (by rfl) T.z_tuple (by decide +kernel) rfl) pa_nil))) (pe_callB call_isi (by rfl) T.z_isinstance (by first | exact PySem.boot_isinstance | decide +kernel) (pa_cons (pv 0) (pa_cons (pe_bltn (v := .ty "tuple") (by rfl) T.z_tuple (by decide +kernel) rfl) pa_nil))) (nomark _)) (pw_or1 (pt_cmpR op_ne (pe_callB call_isi (by rfl) T.z_isinstance (by first | exact PySem.boot_isinstance | decide +kernel) (pa_cons (pv 1) (pa_cons (pe_bltn (v := .ty "list") (by rfl) T.z_list (by decide +kernel) rfl) pa_nil))) (pe_callB call_isi (by rfl) T.z_isinstance (by first | exact PySem.boot_isinstance | decide +kernel) (pa_cons (pv 0) (pa_cons (pe_bltn (v := .ty "list") (by rfl) T.z_list (by decide +kernel) rfl) pa_nil))) (nomark _))))) (pss_one (ps_ret pe_bl)) pss_nil)
      (pss_cons (ps_if (pt_cmpR op_ne (pe_callB call_len_seq (by rfl) T.z_len (by first | exact PySem.boot_len | decide +kernel) (pa_cons (pv 0) pa_nil)) (pe_callB call_len_seq (by rfl) T.z_len (by first | exact PySem.boot_len | decide +kernel) (pa_cons (pv 1) pa_nil)) (nomark _)) (pss_one (ps_ret pe_bl)) pss_nil)
      (pss_cons (ps_for PassesOwn.never rfl (pi_range1 (by rfl) T.z_range (pa_cons (pe_callB call_len_seq (by rfl) T.z_len (by first | exact PySem.boot_len | decide +kernel) (pa_cons (pv 1) pa_nil)) pa_nil)) (pg_name (i := 2) sc_law_same.nd rfl (by first | exact Or.inl rfl | exact Or.inr rfl)) (pss_one (ps_if (pt_not (pt_truth (pe_call G hr (by rfl) T.m_law_same T.F_law_same.kp T.b_law_same .nil pass0 (pa_cons (pe_ix (IxR.or ix_list ix_tup) (pv 0) (pv 2) (fun _ _ => rfl)) (pa_cons (pe_ix (IxR.or ix_list ix_tup) (pv 1) (pv 2) (fun _ _ => rfl)) pa_nil))) (fun _ => rfl))) (pss_one (ps_ret pe_bl)) pss_nil)))
      (pss_one (ps_ret pe_bl))))) pss_nil)
      (pss_cons (ps_if (PW.pt (pw_or (pt_cmpR op_isN (pv 1) pe_non (nomark _)) (pw_or1 (pt_truth (pe_callB call_isi (by rfl) T.z_isinstance (by first | exact PySem.boot_isinstance | decide +kernel) (pa_cons (pv 1) (pa_cons (pe_bltn (v := .ty "bool") (by rfl) T.z_bool (by decide +kernel) rfl) pa_nil))) (fun _ => rfl))))) (pss_one (ps_ret (pe_and (pe_cmpR op_eq (pe_cmpR op_isN (pv 0) pe_non (nomark _)) (pe_cmpR op_isN (pv 1) pe_non (nomark _)) (nomark _)) (pe_and (pe_or (pe_cmpR op_isN (pv 1) pe_non (nomark _)) (pe_one (pe_callB call_isi (by rfl) T.z_isinstance (by first | exact PySem.boot_isinstance | decide +kernel) (pa_cons (pv 0) (pa_cons (pe_bltn (v := .ty "bool") (by rfl) T.z_bool (by decide +kernel) rfl) pa_nil))))) (pe_one (pe_cmpR op_eq (pv 0) (pv 1) (nomark _))))))) pss_nil)
      (pss_cons (ps_if (pt_truth (pe_callB call_isi (by rfl) T.z_isinstance (by first | exact PySem.boot_isinstance | decide +kernel) (pa_cons (pv 1) (pa_cons (pe_bltn (v := .ty "int") (by rfl) T.z_int (by decide +kernel) rfl) pa_nil))) (fun _ => rfl)) (pss_one (ps_ret (pe_and (pe_callB call_isi (by rfl) T.z_isinstance (by first | exact PySem.boot_isinstance | decide +kernel) (pa_cons (pv 0) (pa_cons (pe_bltn (v := .ty "int") (by rfl) T.z_int (by decide +kernel) rfl) pa_nil))) (pe_and (pe_not (pe_callB call_isi (by rfl) T.z_isinstance (by first | exact PySem.boot_isinstance | decide +kernel) (pa_cons (pv 0) (pa_cons (pe_bltn (v := .ty "bool") (by rfl) T.z_bool (by decide +kernel) rfl) pa_nil)))) (pe_one (pe_cmpR op_eq (pv 0) (pv 1) (nomark _))))))) pss_nil)
      (pss_one (ps_ret (pe_and (pe_callB call_isi (by rfl) T.z_isinstance (by first | exact PySem.boot_isinstance | decide +kernel) (pa_cons (pv 0) (pa_cons (pe_bltn (v := .ty "str") (by rfl) T.z_str (by decide +kernel) rfl) pa_nil))) (pe_one (pe_cmpR op_eq (pv 0) (pv 1) (nomark _))))))))), ?_⟩
  cases d with
  | dict kvs => cases hx
  | none =>
    cases hx
    cases hy
    refine ⟨_, rfl, .non, .ty "tuple", .type "NoneType", .type "tuple", false, rfl, .ty _, .base .non, kit_ty (by decide +kernel), false, rfl, ?_⟩
    refine ⟨_, rfl, .non, .ty "list", .type "NoneType", .type "list", false, rfl, .ty _, .base .non, kit_ty (by decide +kernel), false, rfl, ?_⟩
    refine ⟨_, rfl, rfl, _, rfl, ?_⟩
    refine ⟨_, rfl, rfl, _, rfl, rfl, rfl, _, rfl, ?_⟩
    refine ⟨_, rfl, rfl, _, rfl, ?_⟩
    exact ⟨_, rfl, _, rfl, _, rfl, rfl, q⟩
  | bool b =>
    cases hx
    cases hy
    refine ⟨_, rfl, .bl b, .ty "tuple", .type "bool", .type "tuple", false, rfl, .ty _, .base (.bl b), kit_ty (by decide +kernel), false, rfl, ?_⟩
    refine ⟨_, rfl, .bl b, .ty "list", .type "bool", .type "list", false, rfl, .ty _, .base (.bl b), kit_ty (by decide +kernel), false, rfl, ?_⟩
    refine ⟨_, rfl, rfl, _, rfl, ?_⟩
    refine ⟨_, rfl, .bl b, .ty "bool", .type "bool", .type "bool", true, rfl, .ty _, .base (.bl b), kit_ty (by decide +kernel), true, rfl, ?_⟩
    refine ⟨_, rfl, rfl, _, rfl, rfl, rfl, _, rfl, ?_⟩
    refine ⟨_, rfl, rfl, _, rfl, ?_⟩
    refine ⟨_, rfl, .bl b, .ty "bool", .type "bool", .type "bool", true, rfl, .ty _, .base (.bl b), kit_ty (by decide +kernel), _, rfl, ?_⟩
    refine ⟨_, rfl, _, rfl, rfl, ?_⟩
    show Q (.bl (decide (V.bl b = V.bl b))) _
    rw [decide_eq_true rfl]
    exact q
  | int i =>
    cases hx
    cases hy
    refine ⟨_, rfl, .int i, .ty "tuple", .type "int", .type "tuple", false, rfl, .ty _, .base (.int i), kit_ty (by decide +kernel), false, rfl, ?_⟩
    refine ⟨_, rfl, .int i, .ty "list", .type "int", .type "list", false, rfl, .ty _, .base (.int i), kit_ty (by decide +kernel), false, rfl, ?_⟩
    refine ⟨_, rfl, rfl, _, rfl, ?_⟩
    refine ⟨_, rfl, .int i, .ty "bool", .type "int", .type "bool", false, rfl, .ty _, .base (.int i), kit_ty (by decide +kernel), false, rfl, ?_⟩
    refine ⟨_, rfl, .int i, .ty "int", .type "int", .type "int", true, rfl, .ty _, .base (.int i), kit_ty (by decide +kernel), true, rfl, ?_⟩
    refine ⟨_, rfl, .int i, .ty "int", .type "int", .type "int", true, rfl, .ty _, .base (.int i), kit_ty (by decide +kernel), _, rfl, ?_⟩
    refine ⟨_, rfl, .int i, .ty "bool", .type "int", .type "bool", false, rfl, .ty _, .base (.int i), kit_ty (by decide +kernel), _, rfl, _, rfl, ?_⟩
    refine ⟨_, rfl, _, rfl, rfl, ?_⟩
    show Q (.bl (decide (V.int i = V.int i))) _
    rw [decide_eq_true rfl]
    exact q
  | str x =>
    cases hx
    cases hy
    refine ⟨_, rfl, .str x, .ty "tuple", .type "str", .type "tuple", false, rfl, .ty _, .base (.str x), kit_ty (by decide +kernel), false, rfl, ?_⟩
    refine ⟨_, rfl, .str x, .ty "list", .type "str", .type "list", false, rfl, .ty _, .base (.str x), kit_ty (by decide +kernel), false, rfl, ?_⟩
    refine ⟨_, rfl, rfl, _, rfl, ?_⟩
    refine ⟨_, rfl, .str x, .ty "bool", .type "str", .type "bool", false, rfl, .ty _, .base (.str x), kit_ty (by decide +kernel), false, rfl, ?_⟩
    refine ⟨_, rfl, .str x, .ty "int", .type "str", .type "int", false, rfl, .ty _, .base (.str x), kit_ty (by decide +kernel), false, rfl, ?_⟩
    refine ⟨_, rfl, .str x, .ty "str", .type "str", .type "str", true, rfl, .ty _, .base (.str x), kit_ty (by decide +kernel), _, rfl, ?_⟩
    refine ⟨_, rfl, _, rfl, rfl, ?_⟩
    show Q (.bl (decide (V.str x = V.str x))) _
    rw [decide_eq_true rfl]
    exact q
  | tuple ds =>
    cases hx with
    | @tup px xs _ hpx lx ex =>
    cases hy with
    | @tup py ys _ hpy ly ey =>
    simp only [wide, Bool.and_eq_true, decide_eq_true_eq] at hw
    have hl : ((xs.length : Nat) : Int) = ((ys.length : Nat) : Int) := by rw [lx, ly]
    refine ⟨_, rfl, .ref py, .ty "tuple", .type "tuple", .type "tuple", true, rfl, .ty _, .base (.tup hpy), kit_ty (by decide +kernel), true, rfl, ?_⟩
    refine ⟨_, rfl, .ref py, .ty "tuple", .type "tuple", .type "tuple", true, rfl, .ty _, .base (.tup hpy), kit_ty (by decide +kernel), _, rfl, .ref px, .ty "tuple", .type "tuple", .type "tuple", true, rfl, .ty _, .base (.tup hpx), kit_ty (by decide +kernel), rfl, _, rfl, ?_⟩
    refine ⟨_, rfl, .ref py, .ty "list", .type "tuple", .type "list", false, rfl, .ty _, .base (.tup hpy), kit_ty (by decide +kernel), _, rfl, .ref px, .ty "list", .type "tuple", .type "list", false, rfl, .ty _, .base (.tup hpx), kit_ty (by decide +kernel), rfl, _, rfl, ?_⟩
    refine ⟨_, rfl, px, xs, rfl, .inr (SqT.of hpx), _, rfl, py, ys, rfl, .inr (SqT.of hpy), rfl, _, rfl, iteNS (congrArg V.int hl) ?_⟩
    refine ⟨_, rfl, py, ys, rfl, .inr (SqT.of hpy), _, rfl, by omega, by omega, for_range (fun i σ' H' => ∃ yk, σ' = [some (.ref px), some (.ref py), yk] ∧ H' = H) ⟨_, rfl, rfl⟩ ?_ ?_⟩
    · rintro i σ1 H1 hi ⟨yk, rfl, rfl⟩
      have hi2 : i < ds.length := by rw [← ly]; exact hi
      have gd : ds[i]? = some ds[i] := List.getElem?_eq_getElem hi2
      have gx : xs[i]? = some xs[i] := List.getElem?_eq_getElem (by rw [lx]; exact hi2)
      have gy : ys[i]? = some ys[i] := List.getElem?_eq_getElem (by rw [ly]; exact hi2)
      have e0 : (0 : Int) + (i : Int) = ((i : Nat) : Int) := Int.zero_add _
      refine ⟨_, rfl, _, rfl, .inr ⟨px, xs, _, _, rfl, rfl, SqT.of hpx, at_of e0 gx, _, rfl, _, rfl, .inr ⟨py, ys, _, _, rfl, rfl, SqT.of hpy, at_of e0 gy, xs[i], ys[i], ds[i], rfl, ex i _ _ gx gd, ey i _ _ gy gd, ?_, wide_get hw.2 gd, true, rfl, _, rfl, rfl⟩⟩⟩
      have dg := depth_get gd
      simp only [PyData.depth] at hd
      omega
    · rintro σ1 H1 ⟨yk, rfl, rfl⟩
      exact q
  | list ds =>
    cases hx with
    | @lst px xs _ hpx lx ex =>
    cases hy with
    | @lst py ys _ hpy ly ey =>
    simp only [wide, Bool.and_eq_true, decide_eq_true_eq] at hw
    have hl : ((xs.length : Nat) : Int) = ((ys.length : Nat) : Int) := by rw [lx, ly]
    refine ⟨_, rfl, .ref py, .ty "tuple", .type "list", .type "tuple", false, rfl, .ty _, .base (.lst hpy), kit_ty (by decide +kernel), false, rfl, ?_⟩
    refine ⟨_, rfl, .ref py, .ty "list", .type "list", .type "list", true, rfl, .ty _, .base (.lst hpy), kit_ty (by decide +kernel), true, rfl, ?_⟩
    refine ⟨_, rfl, .ref py, .ty "tuple", .type "list", .type "tuple", false, rfl, .ty _, .base (.lst hpy), kit_ty (by decide +kernel), _, rfl, .ref px, .ty "tuple", .type "list", .type "tuple", false, rfl, .ty _, .base (.lst hpx), kit_ty (by decide +kernel), rfl, _, rfl, ?_⟩
    refine ⟨_, rfl, .ref py, .ty "list", .type "list", .type "list", true, rfl, .ty _, .base (.lst hpy), kit_ty (by decide +kernel), _, rfl, .ref px, .ty "list", .type "list", .type "list", true, rfl, .ty _, .base (.lst hpx), kit_ty (by decide +kernel), rfl, _, rfl, ?_⟩
    refine ⟨_, rfl, px, xs, rfl, .inl (SqL.of hpx), _, rfl, py, ys, rfl, .inl (SqL.of hpy), rfl, _, rfl, iteNS (congrArg V.int hl) ?_⟩
    refine ⟨_, rfl, py, ys, rfl, .inl (SqL.of hpy), _, rfl, by omega, by omega, for_range (fun i σ' H' => ∃ yk, σ' = [some (.ref px), some (.ref py), yk] ∧ H' = H) ⟨_, rfl, rfl⟩ ?_ ?_⟩
    · rintro i σ1 H1 hi ⟨yk, rfl, rfl⟩
      have hi2 : i < ds.length := by rw [← ly]; exact hi
      have gd : ds[i]? = some ds[i] := List.getElem?_eq_getElem hi2
      have gx : xs[i]? = some xs[i] := List.getElem?_eq_getElem (by rw [lx]; exact hi2)
      have gy : ys[i]? = some ys[i] := List.getElem?_eq_getElem (by rw [ly]; exact hi2)
      have e0 : (0 : Int) + (i : Int) = ((i : Nat) : Int) := Int.zero_add _
      refine ⟨_, rfl, _, rfl, .inl ⟨px, xs, _, _, rfl, rfl, SqL.of hpx, at_of e0 gx, _, rfl, _, rfl, .inl ⟨py, ys, _, _, rfl, rfl, SqL.of hpy, at_of e0 gy, xs[i], ys[i], ds[i], rfl, ex i _ _ gx gd, ey i _ _ gy gd, ?_, wide_get hw.2 gd, true, rfl, _, rfl, rfl⟩⟩⟩
      have dg := depth_get gd
      simp only [PyData.depth] at hd
      omega
    · rintro σ1 H1 ⟨yk, rfl, rfl⟩
      exact q
theorem ok_law_same (T : Txt K mg) : ∀ n, FnOk P w K mg base CX0 (0 + n) T.a_law_same T.d_law_same ["actual", "due"] (sp_law_same T n)
  | 0 => ⟨fun vs H Q E h => absurd h (no_law_same T vs H Q E), fun A outer s H args us vs Q E _ _ _ _ h => absurd h (no_law_same T vs H Q E)⟩
  | n + 1 => step_law_same T (ok_law_same T n)
/-! ### _law_keys -/
def sp_law_keys (T : Txt K mg) : Sp := fun vs H Q _ => vs = [] ∧ ∀ (p : Addr) (H' : Hp) (ks : List Str), Same H H' → H p = none → H' p = some (.lst (ks.map V.str)) → Q (.ref p) H'

theorem ok_law_keys (T : Txt K mg) : FnOk P w K mg base CX0 1 T.a_law_keys T.d_law_keys [] (sp_law_keys T) := by
  refine T.F_law_keys.ok sc_law_keys (fun vs H Q E h => ?_) (fun cdv A outer s H vs Q E hr h => ?_)
  · obtain ⟨rfl, _⟩ := h
    rfl
  obtain ⟨rfl, q⟩ := h
  refine ⟨_, (pss_cons (ps_set (i := 0) sc_law_keys.nd rfl (by first | exact Or.inl rfl | exact Or.inr rfl) pe_str)
      (pss_one (ps_ret (pe_bm PySem.F.plainAttrs_str PySem.F.slot_str_split PySem.F.type_str_split mt_split (pe_op op_add_str (pv 0) pe_str) (pa_cons pe_str pa_nil))))), ?_⟩
  refine ⟨_, rfl, _, _, rfl, rfl, by decide +kernel, rfl, _, _, rfl, rfl, by decide +kernel, by decide +kernel, fun p hp => ?_⟩
  exact q p _ _ (same_upd hp) hp upd_same
/-! ### _law_name -/
def sp_law_name (T : Txt K mg) : Sp := fun vs H Q _ => ∃ (p c pt : Addr) (ts : List Str) (b : Int), vs = [.ref p, .ref pt] ∧ Pool H p c b ∧ pt ≠ p ∧ H pt = some (.lst (ts.map V.str)) ∧ ∀ (x : Str) (H' : Hp), But p H H' → Pool H' p c b → Q (.str x) H'

theorem ok_law_name (T : Txt K mg) : FnOk P w K mg base CX0 3 T.a_law_name T.d_law_name ["pool", "taken"] (sp_law_name T) := by
  refine T.F_law_name.ok sc_law_name (fun vs H Q E h => ?_) (fun cdv A outer s H vs Q E hr h => ?_)
  · obtain ⟨p, c, pt, ts, b, rfl, _⟩ := h
    rfl
  obtain ⟨p, c, pt, ts, b, rfl, hP, npt, ht, q⟩ := h
  refine ⟨_, (pss_cons (ps_set (i := 2) sc_law_name.nd rfl (by first | exact Or.inl rfl | exact Or.inr rfl) pe_str)
      (pss_cons (ps_set (i := 3) sc_law_name.nd rfl (by first | exact Or.inl rfl | exact Or.inr rfl) (pe_ix ix_str (pv 2) (pe_call (ok_law_draw T) (hr.mono (by decide)) (by rfl) T.m_law_draw T.F_law_draw.kp T.b_law_draw .nil pass0 (pa_cons (pv 0) (pa_cons pe_int pa_nil))) (fun _ _ => rfl)))
      (pss_cons (ps_for PassesOwn.never rfl (pi_range1 (by rfl) T.z_range (pa_cons (pe_call (ok_law_few T) (hr.mono (by decide)) (by rfl) T.m_law_few T.F_law_few.kp T.b_law_few .nil pass0 (pa_cons (pv 0) (pa_cons pe_int pa_nil))) pa_nil)) (pg_name (i := 4) sc_law_name.nd rfl (by first | exact Or.inl rfl | exact Or.inr rfl)) (pss_one (ps_set (i := 3) sc_law_name.nd rfl (by first | exact Or.inl rfl | exact Or.inr rfl) (pe_op op_add_str (pv 3) (pe_ix ix_str (pv 2) (pe_call (ok_law_draw T) (hr.mono (by decide)) (by rfl) T.m_law_draw T.F_law_draw.kp T.b_law_draw .nil pass0 (pa_cons (pv 0) (pa_cons pe_int pa_nil))) (fun _ _ => rfl))))))
      (C8.pss_cut (ps_if (PW.pt (pw_or (pt_cmpR op_in_seq (pv 3) (pv 1) (by with_unfolding_all rfl)) (pw_or1 (pt_cmpR op_in_seq (pv 3) (pe_call0 (ok_law_keys T) (hr.mono (by decide)) (by rfl) T.m_law_keys T.F_law_keys.kp T.b_law_keys .nil pass0) (by with_unfolding_all rfl))))) (pss_one (ps_for PassesOwn.never rfl (pi_range1 (by rfl) T.z_range (pa_cons pe_int pa_nil)) (pg_name (i := 4) sc_law_name.nd rfl (by first | exact Or.inl rfl | exact Or.inr rfl)) (pss_one (ps_if (pt_cmpR op_notIn_seq (pe_op op_add_str pe_str (pe_callTy call_str_int (by rfl) T.z_str (by first | exact PySem.boot_str | decide +kernel) (pa_cons (pv 4) pa_nil))) (pv 1) (by with_unfolding_all rfl)) (pss_one (ps_set (i := 3) sc_law_name.nd rfl (by first | exact Or.inl rfl | exact Or.inr rfl) (pe_op op_add_str pe_str (pe_callTy call_str_int (by rfl) T.z_str (by first | exact PySem.boot_str | decide +kernel) (pa_cons (pv 4) pa_nil))))) pss_nil)))) pss_nil)
      (pss_one (ps_ret (pv 3))))))), ?_⟩
  refine ⟨_, rfl, _, rfl, p, c, 26, b, rfl, by decide, by decide, hP, fun r H1 r0 r1 b1 P1 => ?_⟩
  have hl : (ldS.length : Int) = 36 := by decide +kernel
  obtain ⟨d, md, ad⟩ := pickS (z := ldS) r0 (by omega)
  refine ⟨ldS, r, d, rfl, rfl, by decide +kernel, ad, ?_⟩
  refine ⟨_, rfl, p, c, 11, b, rfl, by decide, by decide, P1, fun m H2 m0 m1 b2 P2 => ?_⟩
  refine ⟨m, rfl, by omega, by omega, for_range (fun i σ' H' => ∃ (x : Str) (y : Option V), σ' = [some (.ref p), some (.ref pt), some (.str ldS), some (.str x), y] ∧ But p H H' ∧ Pool H' p c b ∧ x.length ≤ i + 1) ⟨_, _, rfl, b1.trans b2, P2, Nat.le_refl 1⟩ ?_ ?_⟩
  · rintro i σ3 H3 hi ⟨x, y, rfl, b3, P3, xl⟩
    refine ⟨_, rfl, _, rfl, _, rfl, p, c, 36, b, rfl, by decide, by decide, P3, fun r H4 r0 r1 b4 P4 => ?_⟩
    obtain ⟨d, md, ad⟩ := pickS (z := ldS) r0 (by omega)
    refine ⟨ldS, r, d, rfl, rfl, by decide +kernel, ad, x, _, rfl, rfl, ?_, ⟨_, _, rfl, b3.trans b4, P4, ?_⟩⟩
    · show x.length + 1 ≤ sizeLine
      exact small_le (by omega)
    · rw [app_len]
      show x.length + 1 ≤ _
      omega
  · rintro σ3 H3 ⟨x, y, rfl, b3, P3, xl⟩
    have et := b3 _ _ npt ht
    refine ⟨fun σ' H' => ∃ (x : Str) (y : Option V), σ' = [some (.ref p), some (.ref pt), some (.str ldS), some (.str x), y] ∧ But p H H' ∧ Pool H' p c b, ?_, ?_⟩
    · refine ⟨_, rfl, _, rfl, pt, ts.map V.str, rfl, .inl (SqL.of et), rfl, strs_flat ts, _, rfl, ite2 (fun _ => ?_) (fun _ => ?_)⟩
      · refine ⟨20, rfl, by decide, by decide, for_range (fun i σ' H' => ∃ (x : Str) (y : Option V), σ' = [some (.ref p), some (.ref pt), some (.str ldS), some (.str x), y] ∧ H' = H3) ⟨_, _, rfl, rfl⟩ ?_ ?_⟩
        · rintro i σ6 H6 hi ⟨x6, y6, rfl, rfl⟩
          obtain ⟨sl, lg⟩ := small_str (k := 0 + (i : Int)) (by omega) (by omega)
          refine ⟨_, rfl, _, rfl, lg, _, _, rfl, rfl, ?_, _, rfl, pt, _, rfl, .inl (SqL.of et), rfl, strs_flat ts, _, rfl, ite2 (fun _ => ?_) (fun _ => ⟨_, _, rfl, rfl⟩)⟩
          · show 1 + _ ≤ sizeLine
            exact small_le (by omega)
          · refine ⟨_, rfl, _, rfl, lg, _, _, rfl, rfl, ?_, ⟨_, _, rfl, rfl⟩⟩
            show 1 + _ ≤ sizeLine
            exact small_le (by omega)
        · rintro σ6 H6 ⟨x6, y6, rfl, rfl⟩
          exact ⟨_, _, rfl, b3, P3⟩
      · refine ⟨_, rfl, rfl, fun pk H5 ks s5 n5 e5 => ?_⟩
        have b5 := b3.trans (but_of s5)
        have P5 := P3.same s5
        have et5 := s5 _ _ et
        refine ⟨pk, _, rfl, .inl (SqL.of e5), rfl, strs_flat ks, _, rfl, ite2 (fun _ => ?_) (fun _ => ⟨_, _, rfl, b5, P5⟩)⟩
        refine ⟨20, rfl, by decide, by decide, for_range (fun i σ' H' => ∃ (x : Str) (y : Option V), σ' = [some (.ref p), some (.ref pt), some (.str ldS), some (.str x), y] ∧ H' = H5) ⟨_, _, rfl, rfl⟩ ?_ ?_⟩
        · rintro i σ6 H6 hi ⟨x6, y6, rfl, rfl⟩
          obtain ⟨sl, lg⟩ := small_str (k := 0 + (i : Int)) (by omega) (by omega)
          refine ⟨_, rfl, _, rfl, lg, _, _, rfl, rfl, ?_, _, rfl, pt, _, rfl, .inl (SqL.of et5), rfl, strs_flat ts, _, rfl, ite2 (fun _ => ?_) (fun _ => ⟨_, _, rfl, rfl⟩)⟩
          · show 1 + _ ≤ sizeLine
            exact small_le (by omega)
          · refine ⟨_, rfl, _, rfl, lg, _, _, rfl, rfl, ?_, ⟨_, _, rfl, rfl⟩⟩
            show 1 + _ ≤ sizeLine
            exact small_le (by omega)
        · rintro σ6 H6 ⟨x6, y6, rfl, rfl⟩
          exact ⟨_, _, rfl, b5, P5⟩
    · rintro σ4 H4 ⟨x, y, rfl, b4, P4⟩
      exact ⟨_, rfl, q x H4 b4 P4⟩
/-! ### _law_names -/
def sp_law_names (T : Txt K mg) : Sp := fun vs H Q _ => ∃ (p c : Addr) (m b : Int), vs = [.ref p, .int m] ∧ 0 ≤ m ∧ m < 100 ∧ Pool H p c b ∧ ∀ (pn : Addr) (ns : List Str) (H' : Hp), But p H H' → Pool H' p c b → H pn = none → H' pn = some (.lst (ns.map V.str)) → (ns.length : Int) ≤ m → Q (.ref pn) H'

theorem ok_law_names (T : Txt K mg) : FnOk P w K mg base CX0 4 T.a_law_names T.d_law_names ["pool", "most"] (sp_law_names T) := by
  refine T.F_law_names.ok sc_law_names (fun vs H Q E h => ?_) (fun cdv A outer s H vs Q E hr h => ?_)
  · obtain ⟨p, c, m, b, rfl, _⟩ := h
    rfl
  obtain ⟨p, c, m, b, rfl, m0, m1, hP, q⟩ := h
  refine ⟨_, (pss_cons (ps_set (i := 2) sc_law_names.nd rfl (by first | exact Or.inl rfl | exact Or.inr rfl) (pe_lst pa_nil))
      (pss_cons (ps_for PassesOwn.never rfl (pi_range1 (by rfl) T.z_range (pa_cons (pe_call (ok_law_few T) (hr.mono (by decide)) (by rfl) T.m_law_few T.F_law_few.kp T.b_law_few .nil pass0 (pa_cons (pv 0) (pa_cons (pv 1) pa_nil))) pa_nil)) (pg_name (i := 3) sc_law_names.nd rfl (by first | exact Or.inl rfl | exact Or.inr rfl)) (pss_one (ps_expr (pe_bm PySem.F.plainAttrs_list PySem.F.slot_list_append PySem.F.type_list_append mt_append (pv 2) (pa_cons (pe_call (ok_law_name T) (hr.mono (by decide)) (by rfl) T.m_law_name T.F_law_name.kp T.b_law_name .nil pass0 (pa_cons (pv 0) (pa_cons (pv 2) pa_nil))) pa_nil)))))
      (pss_one (ps_ret (pv 2))))), ?_⟩
  refine ⟨by show 0 ≤ sizeLine; decide, fun W hW => ?_⟩
  have nW := hP.ne hW
  have nW2 := hP.ne2 hW
  refine ⟨_, rfl, _, rfl, p, c, m, b, rfl, m0, by omega, hP.upd nW nW2 _, fun k H2 k0 k1 b2 P2 => ?_⟩
  refine ⟨k, rfl, by omega, by omega, for_range (fun i σ' H' => ∃ (ns : List Str) (y : Option V), σ' = [some (.ref p), some (.int m), some (.ref W), y] ∧ But p H H' ∧ Pool H' p c b ∧ H' W = some (.lst (ns.map V.str)) ∧ ns.length = i)
    ⟨[], _, rfl, (but_of (same_upd hW)).trans b2, P2, b2 _ _ nW upd_same, rfl⟩ ?_ ?_⟩
  · rintro i σ3 H3 hi ⟨ns, y, rfl, b3, P3, e3, l3⟩
    refine ⟨_, rfl, .inl ⟨rfl, _, SqL.of e3⟩, _, rfl, _, rfl, p, c, W, ns, b, rfl, P3, nW, e3, fun x H4 b4 P4 => ?_⟩
    refine ⟨W, _, _, rfl, rfl, b4 _ _ nW e3, ?_, ⟨ns ++ [x], _, rfl, fun d o nd eo => ?_, P4.upd nW nW2 _, ?_, ?_⟩⟩
    · rw [List.length_map]
      exact small1000 (by omega)
    · rw [upd_ne (ne_of_none eo hW)]
      exact (b3.trans b4) d o nd eo
    · rw [upd_same, List.map_append]
      rfl
    · rw [List.length_append, l3]
      rfl
  · rintro σ3 H3 ⟨ns, y, rfl, b3, P3, e3, l3⟩
    exact ⟨_, rfl, q W ns H3 b3 P3 hW e3 (by omega)⟩
/-! ### _law_expression -/
def sp_law_expression (T : Txt K mg) (n : Nat) : Sp := fun vs H Q _ => ∃ (p c pn pp : Addr) (ns ps : List Str) (deep b : Int), vs = [.ref p, .ref pn, .ref pp, .int deep] ∧ 1 ≤ deep ∧ deep ≤ n ∧ Pool H p c b ∧ pn ≠ p ∧ pp ≠ p ∧ H pn = some (.lst (ns.map V.str)) ∧ H pp = some (.lst (ps.map V.str)) ∧
  ns.length ≤ 100 ∧ ps.length ≤ 100 ∧ ∀ (v : V) (e : Ex) (H' : Hp) (b' : Int), Ev H' v e → (e.deep : Int) ≤ deep → e.Wf ns ps → But p H H' → Pool H' p c b' → Q v H'
theorem no_law_expression (T : Txt K mg) : ∀ vs H Q E, ¬ sp_law_expression T 0 vs H Q E := fun vs H Q E ⟨_, _, _, _, _, _, _, _, _, h1, h2, _⟩ => by omega

theorem step_law_expression (T : Txt K mg) {n : Nat} (G : FnOk P w K mg base CX0 (2 + n) T.a_law_expression T.d_law_expression ["pool", "names", "picks", "deep"] (sp_law_expression T n)) : FnOk P w K mg base CX0 (2 + n + 1) T.a_law_expression T.d_law_expression ["pool", "names", "picks", "deep"] (sp_law_expression T (n + 1)) := by
  refine T.F_law_expression.ok sc_law_expression (fun vs H Q E h => ?_) (fun cdv A outer s H vs Q E hr h => ?_)
  · obtain ⟨p, c, pn, pp, ns, ps, deep, b, rfl, _⟩ := h
    rfl
  obtain ⟨p, c, pn, pp, ns, ps, deep, b, rfl, d0, d1, hP, npn, npp, hn, hp, ln, lp, q⟩ := h
  refine ⟨_, (pss_cons (ps_set (i := 4) sc_law_expression.nd rfl (by first | exact Or.inl rfl | exact Or.inr rfl) (pe_call (ok_law_draw T) (hr.mono (by omega)) (by rfl) T.m_law_draw T.F_law_draw.kp T.b_law_draw .nil pass0 (pa_cons (pv 0) (pa_cons pe_int pa_nil))))
      (C8.pss_cut (ps_if (PW.pt (pw_and (pt_cmpR op_gt (pv 3) pe_int (nomark _)) (pw_and (pt_cmpR op_lt (pv 4) pe_int (nomark _)) (pw_and1 (pt_truth (pe_call (ok_law_spend T) (hr.mono (by omega)) (by rfl) T.m_law_spend T.F_law_spend.kp T.b_law_spend .nil pass0 (pa_cons (pv 0) pa_nil)) (fun _ => rfl)))))) (pss_cons (ps_if (pt_cmpR op_gt (pv 4) pe_int (nomark _)) (pss_one (ps_ret (pe_tup (pa_cons pe_str (pa_cons (pe_call G hr (by rfl) T.m_law_expression T.F_law_expression.kp T.b_law_expression .nil pass0 (pa_cons (pv 0) (pa_cons (pv 1) (pa_cons (pv 2) (pa_cons (pe_op op_sub (pv 3) pe_int) pa_nil))))) pa_nil))))) pss_nil)
      (C8.pss_cut (ps_if (PW.pt (pw_and (pt_cmpR op_gt (pv 4) pe_int (nomark _)) (pw_and1 (pt_truth (pv 2) (fun _ => rfl))))) (pss_cons (ps_set (i := 5) sc_law_expression.nd rfl (by first | exact Or.inl rfl | exact Or.inr rfl) (pe_ix ix_list (pv 2) (pe_call (ok_law_draw T) (hr.mono (by omega)) (by rfl) T.m_law_draw T.F_law_draw.kp T.b_law_draw .nil pass0 (pa_cons (pv 0) (pa_cons (pe_callB call_len_seq (by rfl) T.z_len (by first | exact PySem.boot_len | decide +kernel) (pa_cons (pv 2) pa_nil)) pa_nil))) (fun _ _ => rfl)))
      (pss_cons (ps_set (i := 6) sc_law_expression.nd rfl (by first | exact Or.inl rfl | exact Or.inr rfl) (pe_call G hr (by rfl) T.m_law_expression T.F_law_expression.kp T.b_law_expression .nil pass0 (pa_cons (pv 0) (pa_cons (pv 1) (pa_cons (pv 2) (pa_cons (pe_op op_sub (pv 3) pe_int) pa_nil))))))
      (pss_one (ps_ret (pe_tup (pa_cons pe_str (pa_cons (pv 5) (pa_cons (pv 6) (pa_cons (pe_call G hr (by rfl) T.m_law_expression T.F_law_expression.kp T.b_law_expression .nil pass0 (pa_cons (pv 0) (pa_cons (pv 1) (pa_cons (pv 2) (pa_cons (pe_op op_sub (pv 3) pe_int) pa_nil))))) pa_nil))))))))) pss_nil)
      (pss_cons (ps_set (i := 7) sc_law_expression.nd rfl (by first | exact Or.inl rfl | exact Or.inr rfl) (pe_ix ix_tup (pe_tup (pa_cons pe_str (pa_cons pe_str (pa_cons pe_str (pa_cons pe_str (pa_cons pe_str (pa_cons pe_str (pa_cons pe_str (pa_cons pe_str (pa_cons pe_str pa_nil)))))))))) (pv 4) (fun _ _ => rfl)))
      (pss_cons (ps_set (i := 6) sc_law_expression.nd rfl (by first | exact Or.inl rfl | exact Or.inr rfl) (pe_call G hr (by rfl) T.m_law_expression T.F_law_expression.kp T.b_law_expression .nil pass0 (pa_cons (pv 0) (pa_cons (pv 1) (pa_cons (pv 2) (pa_cons (pe_op op_sub (pv 3) pe_int) pa_nil))))))
      (pss_one (ps_ret (pe_tup (pa_cons (pv 7) (pa_cons (pv 6) (pa_cons (pe_call G hr (by rfl) T.m_law_expression T.F_law_expression.kp T.b_law_expression .nil pass0 (pa_cons (pv 0) (pa_cons (pv 1) (pa_cons (pv 2) (pa_cons (pe_op op_sub (pv 3) pe_int) pa_nil))))) pa_nil)))))))))) pss_nil)
      (pss_cons (ps_if (pt_cmpR op_eq (pv 4) pe_int (nomark _)) (pss_one (ps_ret (pe_tup (pa_cons pe_str pa_nil)))) pss_nil)
      (pss_cons (ps_if (PW.pt (pw_and (pt_truth (pv 1) (fun _ => rfl)) (pw_and1 (pt_cmpR op_eq (pe_op op_mod (pe_callTy call_int1 (by rfl) T.z_int (by first | exact PySem.boot_int | decide +kernel) (pa_cons (pv 4) pa_nil)) pe_int) pe_int (nomark _))))) (pss_one (ps_ret (pe_tup (pa_cons pe_str (pa_cons (pe_ix ix_list (pv 1) (pe_call (ok_law_draw T) (hr.mono (by omega)) (by rfl) T.m_law_draw T.F_law_draw.kp T.b_law_draw .nil pass0 (pa_cons (pv 0) (pa_cons (pe_callB call_len_seq (by rfl) T.z_len (by first | exact PySem.boot_len | decide +kernel) (pa_cons (pv 1) pa_nil)) pa_nil))) (fun _ _ => rfl)) pa_nil))))) pss_nil)
      (pss_one (ps_ret (pe_tup (pa_cons pe_str (pa_cons (pe_call (ok_law_number T) (hr.mono (by omega)) (by rfl) T.m_law_number T.F_law_number.kp T.b_law_number .nil pass0 (pa_cons (pv 0) pa_nil)) pa_nil))))))))), ?_⟩
  refine ⟨_, rfl, p, c, 15, b, rfl, by decide, by decide, hP, fun k H1 h0 h1 b1 P1 => ?_⟩
  refine ⟨fun σ' H' => ∃ (y1 y2 y3 : Option V) (b' : Int), σ' = [some (.ref p), some (.ref pn), some (.ref pp), some (.int deep), some (.int k), y1, y2, y3] ∧ But p H H' ∧ Pool H' p c b', ?_, ?_⟩
  · refine ⟨_, rfl, _, _, rfl, rfl, _, rfl, ite2 (fun c1 => ?_) (fun _ => ⟨_, _, _, b, rfl, b1, P1⟩)⟩
    refine ⟨_, rfl, _, _, rfl, rfl, _, rfl, ite2 (fun c2 => ?_) (fun _ => ⟨_, _, _, b, rfl, b1, P1⟩)⟩
    have c1' : (1 : Int) < deep := of_decide_eq_true c1
    refine ⟨_, rfl, p, c, b, rfl, P1, fun kk H2 b' b2 P2 => ⟨_, rfl, ite2 (fun _ => ?_) (fun _ => ⟨_, _, _, b', rfl, b1.trans b2, P2⟩)⟩⟩
    have bb := b1.trans b2
    refine ⟨_, rfl, _, _, rfl, rfl, _, rfl, ite2 (fun c3 => ?_) (fun c3 => ?_)⟩
    · refine ⟨_, rfl, _, rfl, _, rfl, _, rfl, _, _, rfl, rfl, p, c, pn, pp, ns, ps, deep - 1, b', rfl, by omega, by omega, P2, npn, npp, bb _ _ npn hn, bb _ _ npp hp, ln, lp, fun v e H3 b3' ev ed ew b3 P3 => ⟨by show 2 ≤ sizeLine; decide, fun U hU => ?_⟩⟩
      refine q _ (.view e) _ b3' (.view upd_same (ev.keep (keepT_of (same_upd hU)))) ?_ ew ((bb.trans b3).trans (but_of (same_upd hU))) (P3.upd (P3.ne hU) (P3.ne2 hU) _)
      show ((e.deep + 1 : Nat) : Int) ≤ deep
      omega
    · have c3' : ¬ (8 : Int) < k := fun z => c3 (decide_eq_true z)
      refine ⟨fun σ' H' => ∃ (y1 y2 y3 : Option V), σ' = [some (.ref p), some (.ref pn), some (.ref pp), some (.int deep), some (.int k), y1, y2, y3] ∧ H' = H2, ?_, ?_⟩
      · refine ⟨_, rfl, _, _, rfl, rfl, _, rfl, ite2 (fun c4 => ⟨_, rfl, _, .inl ⟨_, SqL.of (bb _ _ npp hp), rfl⟩, ite2 (fun c5 => ?_) (fun _ => ⟨_, _, _, rfl, rfl⟩)⟩) (fun _ => ⟨_, _, _, rfl, rfl⟩)⟩
        have lpos : 0 < ps.length := by
          cases ps with
          | nil => cases c5
          | cons x r => exact Nat.succ_pos _
        refine ⟨_, rfl, _, rfl, _, rfl, pp, _, rfl, .inl (SqL.of (bb _ _ npp hp)), p, c, ((ps.map V.str).length : Int), b', rfl, by rw [List.length_map]; omega, by rw [List.length_map]; omega, P2, fun j H3 j0 j1 b3 P3 => ?_⟩
        rw [List.length_map] at j1
        obtain ⟨x, mx, ax⟩ := pick j0 j1
        have bc := bb.trans b3
        refine ⟨pp, _, j, _, rfl, rfl, SqL.of (bc _ _ npp hp), ax, ?_⟩
        refine ⟨_, rfl, _, rfl, _, rfl, _, rfl, _, _, rfl, rfl, p, c, pn, pp, ns, ps, deep - 1, b', rfl, by omega, by omega, P3, npn, npp, bc _ _ npn hn, bc _ _ npp hp, ln, lp, fun v e H4 b4' ev ed ew b4 P4 => ?_⟩
        have bd := bc.trans b4
        refine ⟨_, rfl, _, rfl, _, rfl, _, rfl, _, rfl, _, rfl, _, _, rfl, rfl, p, c, pn, pp, ns, ps, deep - 1, b4', rfl, by omega, by omega, P4, npn, npp, bd _ _ npn hn, bd _ _ npp hp, ln, lp, fun v2 e2 H5 b5' ev2 ed2 ew2 b5 P5 => ⟨by show 4 ≤ sizeLine; decide, fun U hU => ?_⟩⟩
        have k5 := (P4.keepT b5).trans (keepT_of (same_upd (o := .tup [V.str "pick", .str x, v, v2]) hU))
        refine q _ (.pick x e e2) _ b5' (.pick upd_same (ev.keep k5) (ev2.keep (keepT_of (same_upd hU)))) ?_ ⟨mx, ew, ew2⟩ ((bd.trans b5).trans (but_of (same_upd hU))) (P5.upd (P5.ne hU) (P5.ne2 hU) _)
        show ((max e.deep e2.deep + 1 : Nat) : Int) ≤ deep
        omega
      · rintro σ3 H3 ⟨y1, y2, y3, rfl, rfl⟩
        refine ⟨by show 9 ≤ sizeLine; decide, fun U0 hU0 => ?_⟩
        have s3 := same_upd (o := .tup (signL.map V.str)) hU0
        have P3 := P2.upd (P2.ne hU0) (P2.ne2 hU0) (.tup (signL.map V.str))
        obtain ⟨z, mz, az⟩ := pick (ss := signL) h0 (by show k < 9; omega)
        have hz : z ∈ opL := by
          have : signL.all (fun s => decide (s ∈ opL)) = true := by decide +kernel
          exact of_decide_eq_true (List.all_eq_true.mp this z mz)
        have bc := bb.trans (but_of s3)
        refine ⟨_, rfl, U0, _, k, _, rfl, rfl, SqT.of upd_same, az, ?_⟩
        refine ⟨_, rfl, _, rfl, _, rfl, _, rfl, _, _, rfl, rfl, p, c, pn, pp, ns, ps, deep - 1, b', rfl, by omega, by omega, P3, npn, npp, bc _ _ npn hn, bc _ _ npp hp, ln, lp, fun v e H4 b4' ev ed ew b4 P4 => ?_⟩
        have bd := bc.trans b4
        refine ⟨_, rfl, _, rfl, _, rfl, _, rfl, _, rfl, _, rfl, _, _, rfl, rfl, p, c, pn, pp, ns, ps, deep - 1, b4', rfl, by omega, by omega, P4, npn, npp, bd _ _ npn hn, bd _ _ npp hp, ln, lp, fun v2 e2 H5 b5' ev2 ed2 ew2 b5 P5 => ⟨by show 3 ≤ sizeLine; decide, fun U hU => ?_⟩⟩
        have k5 := (P4.keepT b5).trans (keepT_of (same_upd (o := .tup [V.str z, v, v2]) hU))
        refine q _ (.op z e e2) _ b5' (.op upd_same (ev.keep k5) (ev2.keep (keepT_of (same_upd hU)))) ?_ ⟨hz, ew, ew2⟩ ((bd.trans b5).trans (but_of (same_upd hU))) (P5.upd (P5.ne hU) (P5.ne2 hU) _)
        show ((max e.deep e2.deep + 1 : Nat) : Int) ≤ deep
        omega
  · rintro σ2 H2 ⟨y1, y2, y3, b', rfl, b2, P2⟩
    refine ⟨_, rfl, rfl, _, rfl, ite2 (fun _ => ⟨by show 1 ≤ sizeLine; decide, fun U hU => ?_⟩) (fun _ => ?_)⟩
    · exact q _ .long _ b' (.long upd_same) d0 trivial (b2.trans (but_of (same_upd hU))) (P2.upd (P2.ne hU) (P2.ne2 hU) _)
    · refine ⟨_, rfl, _, .inl ⟨_, SqL.of (b2 _ _ npn hn), rfl⟩, ite2 (fun c1 => ⟨_, rfl, .inl ⟨_, rfl, _, _, rfl, rfl, (by show (0 : Int) < 2; decide), rfl, _, rfl, ite2 (fun _ => ?_) (fun _ => ?_)⟩⟩) (fun _ => ?_)⟩
      · have lpos : 0 < ns.length := by
          cases ns with
          | nil => cases c1
          | cons x r => exact Nat.succ_pos _
        refine ⟨_, rfl, _, rfl, _, rfl, pn, _, rfl, .inl (SqL.of (b2 _ _ npn hn)), p, c, ((ns.map V.str).length : Int), b', rfl, by rw [List.length_map]; omega, by rw [List.length_map]; omega, P2, fun j H3 j0 j1 b3 P3 => ?_⟩
        rw [List.length_map] at j1
        obtain ⟨x, mx, ax⟩ := pick j0 j1
        have bc := b2.trans b3
        refine ⟨pn, _, j, _, rfl, rfl, SqL.of (bc _ _ npn hn), ax, ⟨by show 2 ≤ sizeLine; decide, fun U hU => ?_⟩⟩
        exact q _ (.var x) _ b' (.var upd_same) d0 mx (bc.trans (but_of (same_upd hU))) (P3.upd (P3.ne hU) (P3.ne2 hU) _)
      · refine ⟨_, rfl, p, c, b', rfl, P2, fun m H3 bm b3 P3 => ⟨by show 2 ≤ sizeLine; decide, fun U hU => ?_⟩⟩
        exact q _ (.num m) _ b' (.num upd_same) d0 bm ((b2.trans b3).trans (but_of (same_upd hU))) (P3.upd (P3.ne hU) (P3.ne2 hU) _)
      · refine ⟨_, rfl, p, c, b', rfl, P2, fun m H3 bm b3 P3 => ⟨by show 2 ≤ sizeLine; decide, fun U hU => ?_⟩⟩
        exact q _ (.num m) _ b' (.num upd_same) d0 bm ((b2.trans b3).trans (but_of (same_upd hU))) (P3.upd (P3.ne hU) (P3.ne2 hU) _)
theorem ok_law_expression (T : Txt K mg) : ∀ n, FnOk P w K mg base CX0 (2 + n) T.a_law_expression T.d_law_expression ["pool", "names", "picks", "deep"] (sp_law_expression T n)
  | 0 => ⟨fun vs H Q E h => absurd h (no_law_expression T vs H Q E), fun A outer s H args us vs Q E _ _ _ _ h => absurd h (no_law_expression T vs H Q E)⟩
  | n + 1 => step_law_expression T (ok_law_expression T n)
/-! ### _law_combine -/
def sp_law_combine (T : Txt K mg) : Sp := fun vs H Q _ => ∃ (k : Nat) (s : Str) (a b : Int), vs = [.int k, .int a, .int b] ∧ opL[k]? = some s ∧ Bd a ∧ Bd b ∧ Q (.int (comb s a b)) H

theorem ok_law_combine (T : Txt K mg) : FnOk P w K mg base CX0 1 T.a_law_combine T.d_law_combine ["sign", "a", "b"] (sp_law_combine T) := by
  refine T.F_law_combine.ok sc_law_combine (fun vs H Q E h => ?_) (fun cdv A outer s H vs Q E hr h => ?_)
  · obtain ⟨kz, z, a, b, rfl, _⟩ := h
    rfl
  obtain ⟨kz, z, a, b, rfl, hz, ⟨a0, a1⟩, ⟨b0, b1⟩, q⟩ := h
  refine ⟨_, (pss_cons (ps_if (pt_cmpR op_eq (pv 0) pe_int (nomark _)) (pss_one (ps_ret (pe_op op_sub (pe_op op_add (pv 1) (pv 2)) (pe_op op_mul pe_int (pe_callTy call_int1 (by rfl) T.z_int (by first | exact PySem.boot_int | decide +kernel) (pa_cons (pe_cmpR op_gt (pe_op op_add (pv 1) (pv 2)) pe_int (nomark _)) pa_nil)))))) pss_nil)
      (pss_cons (ps_if (pt_cmpR op_eq (pv 0) pe_int (nomark _)) (pss_one (ps_ret (pe_op op_mul (pe_op op_sub (pv 1) (pv 2)) (pe_callTy call_int1 (by rfl) T.z_int (by first | exact PySem.boot_int | decide +kernel) (pa_cons (pe_cmpR op_gt (pv 1) (pv 2) (nomark _)) pa_nil))))) pss_nil)
      (pss_cons (ps_if (pt_cmpR op_eq (pv 0) pe_int (nomark _)) (pss_one (ps_ret (pe_op op_sub (pe_op op_mul (pv 1) (pv 2)) (pe_op op_mul (pe_op op_fdiv (pe_op op_mul (pv 1) (pv 2)) pe_int) pe_int)))) pss_nil)
      (pss_cons (ps_if (pt_cmpR op_eq (pv 0) pe_int (nomark _)) (pss_one (ps_ret (pe_callTy call_int1 (by rfl) T.z_int (by first | exact PySem.boot_int | decide +kernel) (pa_cons (pe_cmpR op_lt (pv 1) (pv 2) (nomark _)) pa_nil)))) pss_nil)
      (pss_cons (ps_if (pt_cmpR op_eq (pv 0) pe_int (nomark _)) (pss_one (ps_ret (pe_callTy call_int1 (by rfl) T.z_int (by first | exact PySem.boot_int | decide +kernel) (pa_cons (pe_cmpR op_eq (pv 1) (pv 2) (nomark _)) pa_nil)))) pss_nil)
      (pss_cons (ps_if (pt_cmpR op_eq (pv 2) pe_int (nomark _)) (pss_one (ps_ret pe_int)) pss_nil)
      (pss_cons (ps_set (i := 3) sc_law_combine.nd rfl (by first | exact Or.inl rfl | exact Or.inr rfl) (pe_op op_fdiv (pv 1) (pv 2)))
      (pss_cons (ps_if (pt_cmpR op_eq (pv 0) pe_int (nomark _)) (pss_one (ps_ret (pv 3))) pss_nil)
      (pss_one (ps_ret (pe_op op_sub (pv 1) (pe_op op_mul (pv 3) (pv 2))))))))))))), ?_⟩
  have dec : ∀ m : Nat, m < 7 → ∀ z, opL[m]? = some z → z = opL.getD m "" := fun m _ z h => by
    rw [List.getD_eq_getElem?_getD, h]
    rfl
  have k7 : kz < 7 := (List.getElem?_eq_some_iff.mp hz).1
  have hz' := dec kz k7 z hz
  subst hz'
  match kz, k7, q with
  | 0, _, q =>
    refine ⟨_, rfl, rfl, _, rfl, iteT ?_⟩
    have k : comb "+" a b = (a + b) % 65536 := if_pos rfl
    have q : Q (.int (comb "+" a b)) H := q
    rw [k] at q
    refine ⟨_, rfl, _, rfl, _, _, rfl, rfl, _, rfl, _, rfl, _, _, rfl, rfl, _, _, rfl, rfl, .inr ⟨_, rfl, _, _, rfl, rfl, .inl ⟨by decide, by decide⟩, _, _, rfl, rfl, ?_⟩⟩
    by_cases y : 65535 < a + b
    · rw [decide_eq_true y]
      have : a + b - 65536 * 1 = (a + b) % 65536 := by omega
      show Q (.int (a + b - 65536 * 1)) H
      rw [this]
      exact q
    · rw [decide_eq_false y]
      have : a + b - 65536 * 0 = (a + b) % 65536 := by omega
      show Q (.int (a + b - 65536 * 0)) H
      rw [this]
      exact q
  | 1, _, q =>
    refine ⟨_, rfl, rfl, _, rfl, iteF ?_⟩
    refine ⟨_, rfl, rfl, _, rfl, iteT ?_⟩
    have k : comb "-" a b = max (a - b) 0 := rfl
    have q : Q (.int (comb "-" a b)) H := q
    rw [k] at q
    refine ⟨_, rfl, _, rfl, _, _, rfl, rfl, _, rfl, _, rfl, _, _, rfl, rfl, .inr ⟨_, rfl, _, _, rfl, rfl, .inl ⟨by omega, by omega⟩, ?_⟩⟩
    by_cases y : b < a
    · rw [decide_eq_true y]
      have : (a - b) * 1 = max (a - b) 0 := by omega
      show Q (.int ((a - b) * 1)) H
      rw [this]
      exact q
    · rw [decide_eq_false y]
      have : (a - b) * 0 = max (a - b) 0 := by omega
      show Q (.int ((a - b) * 0)) H
      rw [this]
      exact q
  | 2, _, q =>
    refine ⟨_, rfl, rfl, _, rfl, iteF ?_⟩
    refine ⟨_, rfl, rfl, _, rfl, iteF ?_⟩
    refine ⟨_, rfl, rfl, _, rfl, iteT ?_⟩
    have k : comb "*" a b = a * b % 65536 := rfl
    have q : Q (.int (comb "*" a b)) H := q
    rw [k] at q
    refine ⟨_, rfl, _, rfl, _, _, rfl, rfl, .inl ⟨by omega, by omega⟩, _, rfl, _, rfl, _, _, rfl, rfl, .inl ⟨by omega, by omega⟩, _, _, rfl, rfl, ⟨by decide, by decide⟩, _, _, rfl, rfl, .inr ⟨by decide, by decide⟩, _, _, rfl, rfl, ?_⟩
    have e2 : a * b - a * b / 65536 * 65536 = a * b % 65536 := by
      generalize a * b = m
      omega
    show Q (.int (a * b - a * b / 65536 * 65536)) H
    rw [e2]
    exact q
  | 3, _, q =>
    have q : Q (.int (if 0 < b then a / b else 0)) H := q
    refine ⟨_, rfl, rfl, _, rfl, iteF ?_⟩
    refine ⟨_, rfl, rfl, _, rfl, iteF ?_⟩
    refine ⟨_, rfl, rfl, _, rfl, iteF ?_⟩
    refine ⟨_, rfl, rfl, _, rfl, iteF ?_⟩
    refine ⟨_, rfl, rfl, _, rfl, iteF ?_⟩
    refine ⟨_, rfl, rfl, _, rfl, ite2 (fun c => ?_) (fun n8 => ?_)⟩
    · have e : b = 0 := V.int.inj (of_decide_eq_true c)
      rw [if_neg (by omega)] at q
      exact q
    have bne : b ≠ 0 := fun t => n8 (decide_eq_true (congrArg V.int t))
    rw [if_pos (by omega)] at q
    refine ⟨_, rfl, _, rfl, _, _, rfl, rfl, ⟨by omega, by omega⟩, ?_⟩
    exact ⟨_, rfl, rfl, _, rfl, iteT ⟨_, rfl, q⟩⟩
  | 4, _, q =>
    have q : Q (.int (if 0 < b then a % b else 0)) H := q
    refine ⟨_, rfl, rfl, _, rfl, iteF ?_⟩
    refine ⟨_, rfl, rfl, _, rfl, iteF ?_⟩
    refine ⟨_, rfl, rfl, _, rfl, iteF ?_⟩
    refine ⟨_, rfl, rfl, _, rfl, iteF ?_⟩
    refine ⟨_, rfl, rfl, _, rfl, iteF ?_⟩
    refine ⟨_, rfl, rfl, _, rfl, ite2 (fun c => ?_) (fun n8 => ?_)⟩
    · have e : b = 0 := V.int.inj (of_decide_eq_true c)
      rw [if_neg (by omega)] at q
      exact q
    have bne : b ≠ 0 := fun t => n8 (decide_eq_true (congrArg V.int t))
    rw [if_pos (by omega)] at q
    refine ⟨_, rfl, _, rfl, _, _, rfl, rfl, ⟨by omega, by omega⟩, ?_⟩
    refine ⟨_, rfl, rfl, _, rfl, iteF ?_⟩
    refine ⟨_, rfl, _, rfl, _, rfl, _, _, rfl, rfl, .inr ⟨by omega, by omega⟩, _, _, rfl, rfl, ?_⟩
    have e2 : a - a / b * b = a % b := by
      have := Int.mul_ediv_add_emod a b
      rw [Int.mul_comm] at this
      omega
    show Q (.int (a - a / b * b)) H
    rw [e2]
    exact q
  | 5, _, q =>
    have q : Q (.int (if a < b then 1 else 0)) H := q
    refine ⟨_, rfl, rfl, _, rfl, iteF ?_⟩
    refine ⟨_, rfl, rfl, _, rfl, iteF ?_⟩
    refine ⟨_, rfl, rfl, _, rfl, iteF ?_⟩
    refine ⟨_, rfl, rfl, _, rfl, iteT ?_⟩
    refine ⟨_, rfl, _, rfl, _, _, rfl, rfl, .inr ⟨_, rfl, ?_⟩⟩
    by_cases y : a < b
    · rw [if_pos y] at q
      rw [decide_eq_true y]
      exact q
    · rw [if_neg y] at q
      rw [decide_eq_false y]
      exact q
  | 6, _, q =>
    have q : Q (.int (if a = b then 1 else 0)) H := q
    refine ⟨_, rfl, rfl, _, rfl, iteF ?_⟩
    refine ⟨_, rfl, rfl, _, rfl, iteF ?_⟩
    refine ⟨_, rfl, rfl, _, rfl, iteF ?_⟩
    refine ⟨_, rfl, rfl, _, rfl, iteF ?_⟩
    refine ⟨_, rfl, rfl, _, rfl, iteT ?_⟩
    refine ⟨_, rfl, _, rfl, rfl, .inr ⟨_, rfl, ?_⟩⟩
    by_cases y : a = b
    · rw [if_pos y] at q
      rw [decide_eq_true (congrArg V.int y)]
      exact q
    · rw [if_neg y] at q
      rw [decide_eq_false (fun t => y (V.int.inj t))]
      exact q
  | n + 7, h, _ => exact absurd h (by omega)
/-! ### _law_run -/
def sp_law_run (T : Txt K mg) : Sp := fun vs H Q _ => ∃ (pc tl sa : Addr) (cs : List V) (code : List Ins) (tb sn fin : List Int), vs = [.ref pc, .ref tl, .ref sa] ∧ H pc = some (.lst cs) ∧ CodeV H cs code ∧ H tl = some (.lst (tb.map V.int)) ∧ SqT K H sa (sn.map V.int) ∧ (∀ n ∈ sn, Bd n) ∧ sn.length ≤ 100 ∧
  cruns tb sn code [] = some fin ∧ code.length ≤ 9000 ∧ ∀ (p : Addr) (H' : Hp), Same H H' → H p = none → H' p = some (.lst (fin.reverse.map V.int)) → Q (.ref p) H'
theorem same_at {H H' : Hp} {S : Addr} {o : HO} (s : Same H H') (f : H S = none) : Same H (upd H' S o) := fun b x e => by
  rw [upd_ne (ne_of_none e f)]
  exact s b x e

theorem ok_law_run (T : Txt K mg) : FnOk P w K mg base CX0 9 T.a_law_run T.d_law_run ["code", "cells", "seen"] (sp_law_run T) := by
  refine T.F_law_run.ok sc_law_run (fun vs H Q E h => ?_) (fun cdv A outer s H vs Q E hr h => ?_)
  · obtain ⟨pc, tl, sa, cs, code, tb, sn, fin, rfl, _⟩ := h
    rfl
  obtain ⟨pc, tl, sa, cs, code, tb, sn, fin, rfl, hc, hC, ht, hS, hB, hL, hrun, h9, q⟩ := h
  refine ⟨_, (pss_cons (ps_set (i := 3) sc_law_run.nd rfl (by first | exact Or.inl rfl | exact Or.inr rfl) (pe_lst pa_nil))
      (pss_cons (ps_for PassesOwn.never rfl (pi_list (pv 0)) (pg_name (i := 4) sc_law_run.nd rfl (by first | exact Or.inl rfl | exact Or.inr rfl)) (C8.pss_cut (ps_if (PW.pt (pw_or (pt_not (pt_truth (pe_callB call_isi (by rfl) T.z_isinstance (by first | exact PySem.boot_isinstance | decide +kernel) (pa_cons (pv 4) (pa_cons (pe_bltn (v := .ty "tuple") (by rfl) T.z_tuple (by decide +kernel) rfl) pa_nil))) (fun _ => rfl))) (pw_or (pt_cmpR op_ne (pe_callB call_len_seq (by rfl) T.z_len (by first | exact PySem.boot_len | decide +kernel) (pa_cons (pv 4) pa_nil)) pe_int (nomark _)) (pw_or1 (pt_not (pt_truth (pe_call (ok_law_same T 8) (hr.mono (by decide)) (by rfl) T.m_law_same T.F_law_same.kp T.b_law_same .nil pass0 (pa_cons (pv 4) (pa_cons (pe_tup (pa_cons (pe_callTy SkE.call_str_str (by rfl) T.z_str (by first | exact PySem.boot_str | decide +kernel) (pa_cons (pe_ix ix_tup (pv 4) pe_int (fun _ _ => rfl)) pa_nil)) (pa_cons (pe_callTy call_int1 (by rfl) T.z_int (by first | exact PySem.boot_int | decide +kernel) (pa_cons (pe_ix ix_tup (pv 4) pe_int (fun _ _ => rfl)) pa_nil)) pa_nil))) pa_nil))) (fun _ => rfl))))))) (pss_one (ps_ret pe_non)) pss_nil)
      (pss_cons (ps_set (i := 5) sc_law_run.nd rfl (by first | exact Or.inl rfl | exact Or.inr rfl) (pe_op op_add (pe_callTy call_int1 (by rfl) T.z_int (by first | exact PySem.boot_int | decide +kernel) (pa_cons (pe_cmpR op_eq (pe_ix ix_tup (pv 4) pe_int (fun _ _ => rfl)) pe_str (nomark _)) pa_nil)) (pe_op op_mul pe_int (pe_callTy call_int1 (by rfl) T.z_int (by first | exact PySem.boot_int | decide +kernel) (pa_cons (pe_cmpR op_eq (pe_ix ix_tup (pv 4) pe_int (fun _ _ => rfl)) pe_str (nomark _)) pa_nil)))))
      (pss_cons (ps_if (PW.pt (pw_or (pt_cmpR op_lt (pe_callB call_len_seq (by rfl) T.z_len (by first | exact PySem.boot_len | decide +kernel) (pa_cons (pv 3) pa_nil)) (pv 5) (nomark _)) (pw_or1 (pt_cmpR op_notIn_seq (pe_ix ix_tup (pv 4) pe_int (fun _ _ => rfl)) (pe_tup (pa_cons pe_str (pa_cons pe_str (pa_cons pe_str (pa_cons pe_str (pa_cons pe_str pa_nil)))))) (by with_unfolding_all rfl))))) (pss_one (ps_ret pe_non)) pss_nil)
      (pss_one (ps_if (pt_cmpR op_eq (pe_ix ix_tup (pv 4) pe_int (fun _ _ => rfl)) pe_str (nomark _)) (pss_one (ps_expr (pe_bm PySem.F.plainAttrs_list PySem.F.slot_list_append PySem.F.type_list_append mt_append (pv 3) (pa_cons (pe_ix ix_tup (pv 4) pe_int (fun _ _ => rfl)) pa_nil)))) (pss_one (ps_if (pt_cmpR op_eq (pe_ix ix_tup (pv 4) pe_int (fun _ _ => rfl)) pe_str (nomark _)) (pss_one (ps_expr (pe_bm PySem.F.plainAttrs_list PySem.F.slot_list_append PySem.F.type_list_append mt_append (pv 3) (pa_cons (pe_ix ix_list (pv 1) (pe_ix ix_tup (pv 4) pe_int (fun _ _ => rfl)) (fun _ _ => rfl)) pa_nil)))) (pss_one (ps_if (pt_cmpR op_eq (pe_ix ix_tup (pv 4) pe_int (fun _ _ => rfl)) pe_str (nomark _)) (pss_one (ps_expr (pe_bm PySem.F.plainAttrs_list PySem.F.slot_list_append PySem.F.type_list_append mt_append (pv 3) (pa_cons (pe_callB call_len_seq (by rfl) T.z_len (by first | exact PySem.boot_len | decide +kernel) (pa_cons (pv 2) pa_nil)) pa_nil)))) (pss_one (ps_if (pt_cmpR op_eq (pe_ix ix_tup (pv 4) pe_int (fun _ _ => rfl)) pe_str (nomark _)) (pss_cons (ps_set (i := 6) sc_law_run.nd rfl (by first | exact Or.inl rfl | exact Or.inr rfl) (pe_bm0 PySem.F.plainAttrs_list PySem.F.slot_list_pop PySem.F.type_list_pop mt_pop (pv 3)))
      (pss_one (ps_expr (pe_bm PySem.F.plainAttrs_list PySem.F.slot_list_append PySem.F.type_list_append mt_append (pv 3) (pa_cons (pe_ix ix_list (pe_op op_cat (pe_callTy call_list_of (by rfl) T.z_list (by first | exact PySem.boot_list | decide +kernel) (pa_cons (pv 2) pa_nil)) (pe_lst (pa_cons pe_int pa_nil))) (pe_callB (call_min2 rfl) (by rfl) T.z_min (by first | exact PySem.boot_min | decide +kernel) (pa_cons (pv 6) (pa_cons (pe_callB call_len_seq (by rfl) T.z_len (by first | exact PySem.boot_len | decide +kernel) (pa_cons (pv 2) pa_nil)) pa_nil))) (fun _ _ => rfl)) pa_nil))))) (pss_cons (ps_set (i := 7) sc_law_run.nd rfl (by first | exact Or.inl rfl | exact Or.inr rfl) (pe_bm0 PySem.F.plainAttrs_list PySem.F.slot_list_pop PySem.F.type_list_pop mt_pop (pv 3)))
      (pss_one (ps_expr (pe_bm PySem.F.plainAttrs_list PySem.F.slot_list_append PySem.F.type_list_append mt_append (pv 3) (pa_cons (pe_call (ok_law_combine T) (hr.mono (by decide)) (by rfl) T.m_law_combine T.F_law_combine.kp T.b_law_combine .nil pass0 (pa_cons (pe_ix ix_tup (pv 4) pe_int (fun _ _ => rfl)) (pa_cons (pe_bm0 PySem.F.plainAttrs_list PySem.F.slot_list_pop PySem.F.type_list_pop mt_pop (pv 3)) (pa_cons (pv 7) pa_nil)))) pa_nil)))))))))))))))))
      (pss_one (ps_ret (pv 3))))), ?_⟩
  refine ⟨by show 0 ≤ sizeLine; decide, fun S fS => ?_⟩
  have sS := same_upd (o := .lst []) fS
  have hlen : cs.length = code.length := hC.length
  refine ⟨_, rfl, pc, rfl, ⟨_, SqL.of (sS _ _ hc)⟩, for_list (K := K) (a := pc) (xs := cs) (fun i σ' H' => ∃ (y4 y5 y6 y7 : Option V) (st : List Int), σ' = [some (.ref pc), some (.ref tl), some (.ref sa), some (.ref S), y4, y5, y6, y7] ∧ Same H H' ∧ H' S = some (.lst (st.reverse.map V.int)) ∧ cruns tb sn (code.take i) [] = some st ∧ st.length ≤ i ∧ (∀ n ∈ st, Bd n))
    ⟨_, _, _, _, [], rfl, sS, upd_same, by rw [List.take_zero]; rfl, Nat.le_refl 0, fun n m => by cases m⟩ ?_ ?_ ?_⟩
  · rintro i σ' H' _ ⟨y4, y5, y6, y7, st, rfl, s1, _⟩
    exact SqL.of (s1 _ _ hc)
  · rintro i x σ' H' hi ⟨y4, y5, y6, y7, st, rfl, s1, e1, r1, l1, b1⟩
    obtain ⟨⟨cn, ck⟩, hci, a, rfl, ha⟩ := pgetC hC hi
    obtain ⟨st1, st2, g1, g2, g3⟩ := cruns_turn hrun hci
    rw [r1] at g1
    cases g1
    have l2 := cstep_len g2
    have b2 := cstep_bd hB hL g2 b1
    have hil : i < cs.length := (List.getElem?_eq_some_iff.mp hi).1
    have ha1 := s1 _ _ ha
    refine ⟨fun σ' H'' => σ' = [some (.ref pc), some (.ref tl), some (.ref sa), some (.ref S), some (.ref a), y5, y6, y7] ∧ Same H' H'', ?_, ?_⟩
    · refine ⟨_, rfl, .ref a, .ty "tuple", .type "tuple", .type "tuple", true, rfl, .ty _, .base (.tup ha1), kit_ty (by decide +kernel), true, rfl, ?_⟩
      refine ⟨_, rfl, a, _, rfl, .inr (SqT.of ha1), rfl, _, rfl, iteNS rfl ?_⟩
      refine ⟨_, rfl, _, rfl, a, _, 0, .str cn, rfl, rfl, SqT.of ha1, atI_nat (j := 0) rfl, cn, rfl, _, rfl, a, _, 1, .int ck, rfl, rfl, SqT.of ha1, atI_nat (j := 1) rfl, .inl ⟨ck, rfl, by show 2 ≤ sizeLine; decide, fun u fu => ?_⟩⟩
      have su := same_upd (o := .tup [V.str cn, .int ck]) fu
      have d1 : InsV (upd H' u (.tup [V.str cn, .int ck])) (.ref a) (cn, ck) := ⟨a, rfl, su _ _ ha1⟩
      have d2 : InsV (upd H' u (.tup [V.str cn, .int ck])) (.ref u) (cn, ck) := ⟨u, rfl, upd_same⟩
      refine ⟨.ref a, .ref u, insD (cn, ck), rfl, d1.da, d2.da, by rw [insD_depth]; decide, insD_wide _, true, rfl, iteF ?_⟩
      exact ⟨rfl, su⟩
    · rintro σ2 H2 ⟨rfl, s2⟩
      have ha2 := s2 _ _ ha1
      have e2 := s2 _ _ e1
      have sA := s1.trans s2
      have fin : ∀ (y5 y6 y7 : Option V) (H3 : Hp), Same H H3 → H3 S = some (.lst (st2.reverse.map V.int)) → ∃ (z4 z5 z6 z7 : Option V) (st : List Int), [some (.ref pc), some (.ref tl), some (.ref sa), some (.ref S), some (V.ref a), y5, y6, y7] = [some (.ref pc), some (.ref tl), some (.ref sa), some (.ref S), z4, z5, z6, z7] ∧ Same H H3 ∧ H3 S = some (.lst (st.reverse.map V.int)) ∧ cruns tb sn (code.take (i + 1)) [] = some st ∧ st.length ≤ i + 1 ∧ (∀ n ∈ st, Bd n) :=
        fun y5 y6 y7 H3 s3 e3 => ⟨_, _, _, _, st2, rfl, s3, e3, g3, by omega, b2⟩
      rcases cstep_cases g2 with ⟨rfl, k0, k1, rfl⟩ | ⟨rfl, n, hn, k0, rfl⟩ | ⟨rfl, rfl⟩ | ⟨rfl, j, r, rfl, rfl⟩ | ⟨rfl, w2, w1, r, z, rfl, hz, k0, rfl⟩
      · refine ⟨_, rfl, a, _, 0, .str "push", rfl, rfl, SqT.of ha2, atI_nat (j := 0) rfl, rfl, .inr ⟨_, rfl, _, rfl, a, _, 0, .str "push", rfl, rfl, SqT.of ha2, atI_nat (j := 0) rfl, rfl, .inr ⟨_, rfl, (2 : Int), 0, rfl, by decide +kernel, .inl ⟨by decide, by decide⟩, 0, 2 * 0, by decide +kernel, rfl, ?_⟩⟩⟩
        refine ⟨_, rfl, S, _, rfl, .inl (SqL.of e2), _, rfl, _, _, rfl, rfl, _, rfl, ite2 (fun c => ?_) (fun _ => ?_)⟩
        · have c' := of_decide_eq_true c
          rw [List.length_map, List.length_reverse] at c'
          first | omega | (simp only [List.length_cons] at c'; omega)
        refine ⟨_, rfl, a, _, 0, .str "push", rfl, rfl, SqT.of ha2, atI_nat (j := 0) rfl, by show 5 ≤ sizeLine; decide, fun U fU => ?_⟩
        have sU := same_upd (o := .tup [V.str "push", .str "load", .str "long", .str "view", .str "sign"]) fU
        refine ⟨U, _, rfl, .inr (SqT.of upd_same), rfl, rfl, _, rfl, ite2 (fun c => absurd c (by decide +kernel)) (fun _ => ?_)⟩
        have sB := sA.trans sU
        have ha3 := sU _ _ ha2
        have e3 := sU _ _ e2
        have ht3 := sB _ _ ht
        have hS3 := sqT_same hS sB
        revert sB ha3 e3 ht3 hS3
        generalize upd H2 U (.tup [V.str "push", .str "load", .str "long", .str "view", .str "sign"]) = H3
        intro sB ha3 e3 ht3 hS3
        refine ⟨_, rfl, a, _, 0, .str "push", rfl, rfl, SqT.of ha3, atI_nat (j := 0) rfl, rfl, _, rfl, iteS ?_⟩
        exact ⟨_, rfl, .inl ⟨rfl, _, SqL.of e3⟩, _, rfl, a, _, 1, .int ck, rfl, rfl, SqT.of ha3, atI_nat (j := 1) rfl, S, _, _, rfl, rfl, e3, (by rw [List.length_map, List.length_reverse]; exact Nat.lt_of_lt_of_le (show st.length < 9001 by omega) (by rw [sizeLine_eq]; decide)), fin _ _ _ _ (same_at sB fS) (by rw [upd_same, List.reverse_cons, List.map_append]; rfl)⟩
      · refine ⟨_, rfl, a, _, 0, .str "load", rfl, rfl, SqT.of ha2, atI_nat (j := 0) rfl, rfl, .inr ⟨_, rfl, _, rfl, a, _, 0, .str "load", rfl, rfl, SqT.of ha2, atI_nat (j := 0) rfl, rfl, .inr ⟨_, rfl, (2 : Int), 0, rfl, by decide +kernel, .inl ⟨by decide, by decide⟩, 0, 2 * 0, by decide +kernel, rfl, ?_⟩⟩⟩
        refine ⟨_, rfl, S, _, rfl, .inl (SqL.of e2), _, rfl, _, _, rfl, rfl, _, rfl, ite2 (fun c => ?_) (fun _ => ?_)⟩
        · have c' := of_decide_eq_true c
          rw [List.length_map, List.length_reverse] at c'
          first | omega | (simp only [List.length_cons] at c'; omega)
        refine ⟨_, rfl, a, _, 0, .str "load", rfl, rfl, SqT.of ha2, atI_nat (j := 0) rfl, by show 5 ≤ sizeLine; decide, fun U fU => ?_⟩
        have sU := same_upd (o := .tup [V.str "push", .str "load", .str "long", .str "view", .str "sign"]) fU
        refine ⟨U, _, rfl, .inr (SqT.of upd_same), rfl, rfl, _, rfl, ite2 (fun c => absurd c (by decide +kernel)) (fun _ => ?_)⟩
        have sB := sA.trans sU
        have ha3 := sU _ _ ha2
        have e3 := sU _ _ e2
        have ht3 := sB _ _ ht
        have hS3 := sqT_same hS sB
        revert sB ha3 e3 ht3 hS3
        generalize upd H2 U (.tup [V.str "push", .str "load", .str "long", .str "view", .str "sign"]) = H3
        intro sB ha3 e3 ht3 hS3
        refine ⟨_, rfl, a, _, 0, .str "load", rfl, rfl, SqT.of ha3, atI_nat (j := 0) rfl, rfl, _, rfl, iteN (by decide +kernel) ?_⟩
        refine ⟨_, rfl, a, _, 0, .str "load", rfl, rfl, SqT.of ha3, atI_nat (j := 0) rfl, rfl, _, rfl, iteS ?_⟩
        exact ⟨_, rfl, .inl ⟨rfl, _, SqL.of e3⟩, _, rfl, _, rfl, a, _, 1, .int ck, rfl, rfl, SqT.of ha3, atI_nat (j := 1) rfl, tl, _, ck, .int n, rfl, rfl, SqL.of ht3, at_ofG (j := ck.toNat) (by omega) (by rw [List.getElem?_map, hn]; rfl), S, _, _, rfl, rfl, e3, (by rw [List.length_map, List.length_reverse]; exact Nat.lt_of_lt_of_le (show st.length < 9001 by omega) (by rw [sizeLine_eq]; decide)), fin _ _ _ _ (same_at sB fS) (by rw [upd_same, List.reverse_cons, List.map_append]; rfl)⟩
      · refine ⟨_, rfl, a, _, 0, .str "long", rfl, rfl, SqT.of ha2, atI_nat (j := 0) rfl, rfl, .inr ⟨_, rfl, _, rfl, a, _, 0, .str "long", rfl, rfl, SqT.of ha2, atI_nat (j := 0) rfl, rfl, .inr ⟨_, rfl, (2 : Int), 0, rfl, by decide +kernel, .inl ⟨by decide, by decide⟩, 0, 2 * 0, by decide +kernel, rfl, ?_⟩⟩⟩
        refine ⟨_, rfl, S, _, rfl, .inl (SqL.of e2), _, rfl, _, _, rfl, rfl, _, rfl, ite2 (fun c => ?_) (fun _ => ?_)⟩
        · have c' := of_decide_eq_true c
          rw [List.length_map, List.length_reverse] at c'
          first | omega | (simp only [List.length_cons] at c'; omega)
        refine ⟨_, rfl, a, _, 0, .str "long", rfl, rfl, SqT.of ha2, atI_nat (j := 0) rfl, by show 5 ≤ sizeLine; decide, fun U fU => ?_⟩
        have sU := same_upd (o := .tup [V.str "push", .str "load", .str "long", .str "view", .str "sign"]) fU
        refine ⟨U, _, rfl, .inr (SqT.of upd_same), rfl, rfl, _, rfl, ite2 (fun c => absurd c (by decide +kernel)) (fun _ => ?_)⟩
        have sB := sA.trans sU
        have ha3 := sU _ _ ha2
        have e3 := sU _ _ e2
        have ht3 := sB _ _ ht
        have hS3 := sqT_same hS sB
        revert sB ha3 e3 ht3 hS3
        generalize upd H2 U (.tup [V.str "push", .str "load", .str "long", .str "view", .str "sign"]) = H3
        intro sB ha3 e3 ht3 hS3
        refine ⟨_, rfl, a, _, 0, .str "long", rfl, rfl, SqT.of ha3, atI_nat (j := 0) rfl, rfl, _, rfl, iteN (by decide +kernel) ?_⟩
        refine ⟨_, rfl, a, _, 0, .str "long", rfl, rfl, SqT.of ha3, atI_nat (j := 0) rfl, rfl, _, rfl, iteN (by decide +kernel) ?_⟩
        refine ⟨_, rfl, a, _, 0, .str "long", rfl, rfl, SqT.of ha3, atI_nat (j := 0) rfl, rfl, _, rfl, iteS ?_⟩
        exact ⟨_, rfl, .inl ⟨rfl, _, SqL.of e3⟩, _, rfl, sa, _, rfl, .inr hS3, S, _, _, rfl, rfl, e3, (by rw [List.length_map, List.length_reverse]; exact Nat.lt_of_lt_of_le (show st.length < 9001 by omega) (by rw [sizeLine_eq]; decide)), fin _ _ _ _ (same_at sB fS) (by rw [upd_same, List.reverse_cons, List.map_append, List.length_map]; rfl)⟩
      · refine ⟨_, rfl, a, _, 0, .str "view", rfl, rfl, SqT.of ha2, atI_nat (j := 0) rfl, rfl, .inr ⟨_, rfl, _, rfl, a, _, 0, .str "view", rfl, rfl, SqT.of ha2, atI_nat (j := 0) rfl, rfl, .inr ⟨_, rfl, (2 : Int), 0, rfl, by decide +kernel, .inl ⟨by decide, by decide⟩, 1, 2 * 0, by decide +kernel, rfl, ?_⟩⟩⟩
        refine ⟨_, rfl, S, _, rfl, .inl (SqL.of e2), _, rfl, _, _, rfl, rfl, _, rfl, ite2 (fun c => ?_) (fun _ => ?_)⟩
        · have c' := of_decide_eq_true c
          rw [List.length_map, List.length_reverse] at c'
          first | omega | (simp only [List.length_cons] at c'; omega)
        refine ⟨_, rfl, a, _, 0, .str "view", rfl, rfl, SqT.of ha2, atI_nat (j := 0) rfl, by show 5 ≤ sizeLine; decide, fun U fU => ?_⟩
        have sU := same_upd (o := .tup [V.str "push", .str "load", .str "long", .str "view", .str "sign"]) fU
        refine ⟨U, _, rfl, .inr (SqT.of upd_same), rfl, rfl, _, rfl, ite2 (fun c => absurd c (by decide +kernel)) (fun _ => ?_)⟩
        have sB := sA.trans sU
        have ha3 := sU _ _ ha2
        have e3 := sU _ _ e2
        have ht3 := sB _ _ ht
        have hS3 := sqT_same hS sB
        revert sB ha3 e3 ht3 hS3
        generalize upd H2 U (.tup [V.str "push", .str "load", .str "long", .str "view", .str "sign"]) = H3
        intro sB ha3 e3 ht3 hS3
        refine ⟨_, rfl, a, _, 0, .str "view", rfl, rfl, SqT.of ha3, atI_nat (j := 0) rfl, rfl, _, rfl, iteN (by decide +kernel) ?_⟩
        refine ⟨_, rfl, a, _, 0, .str "view", rfl, rfl, SqT.of ha3, atI_nat (j := 0) rfl, rfl, _, rfl, iteN (by decide +kernel) ?_⟩
        refine ⟨_, rfl, a, _, 0, .str "view", rfl, rfl, SqT.of ha3, atI_nat (j := 0) rfl, rfl, _, rfl, iteN (by decide +kernel) ?_⟩
        refine ⟨_, rfl, a, _, 0, .str "view", rfl, rfl, SqT.of ha3, atI_nat (j := 0) rfl, rfl, _, rfl, iteS ?_⟩
        have ex : ((j :: r).reverse.map V.int) = (r).reverse.map V.int ++ [V.int j] := by
          rw [List.reverse_cons, List.map_append]
          rfl
        rw [ex] at e3
        refine ⟨_, rfl, .inl ⟨rfl, _, SqL.of e3⟩, S, _, .int j, rfl, rfl, e3, by rw [List.length_append]; exact List.getElem?_concat_length, ?_⟩
        rw [List.dropLast_concat]
        have sC := same_at (o := .lst (r.reverse.map V.int)) sB fS
        have hS4 := sqT_same hS sC
        have e4 : upd H3 S (.lst (r.reverse.map V.int)) S = some (.lst (r.reverse.map V.int)) := upd_same
        revert sC hS4 e4
        generalize upd H3 S (.lst (r.reverse.map V.int)) = H4
        intro sC hS4 e4
        have j0 := (b1 j List.mem_cons_self).1
        refine ⟨_, rfl, .inl ⟨rfl, _, SqL.of e4⟩, _, rfl, sa, _, rfl, .inr hS4, fun q1 h1 => ⟨by show 1 ≤ sizeLine; decide, fun q2 h2 => ?_⟩⟩
        have t2 := same_upd (o := .lst (sn.map V.int)) h1
        have t3 := same_upd (o := .lst [V.int 0]) h2
        refine ⟨q1, q2, _, _, rfl, rfl, t3 _ _ upd_same, upd_same, ?_, fun q3 h3 => ?_⟩
        · rw [List.length_map]
          exact small_le (by show sn.length + 1 ≤ 1000; omega)
        have t4 := same_upd (o := .lst (sn.map V.int ++ [V.int 0])) h3
        have tA := (t2.trans t3).trans t4
        refine ⟨_, rfl, _, rfl, sa, _, rfl, .inr (sqT_same hS4 tA), _, _, rfl, ?_⟩
        rw [List.length_map]
        have eg : (sn.map V.int ++ [V.int 0])[min j.toNat sn.length]? = some (.int (sn.getD j.toNat 0)) := by
          rw [List.getD_eq_getElem?_getD]
          by_cases c : j.toNat < sn.length
          · rw [Nat.min_eq_left (Nat.le_of_lt c), List.getElem?_append_left (by rw [List.length_map]; exact c), List.getElem?_map, List.getElem?_eq_getElem c]
            rfl
          · have en : sn[j.toNat]? = none := List.getElem?_eq_none (by omega)
            rw [en, Nat.min_eq_right (by omega), List.getElem?_append_right (by rw [List.length_map]; exact Nat.le_refl _), List.length_map, Nat.sub_self]
            rfl
        refine ⟨q3, _, _, _, rfl, rfl, SqL.of upd_same, at_ofG (j := min j.toNat sn.length) (by omega) eg, S, _, _, rfl, rfl, tA _ _ e4, ?_, fin _ _ _ _ (same_at (sC.trans tA) fS) (by rw [upd_same, List.reverse_cons, List.map_append]; rfl)⟩
        rw [List.length_map, List.length_reverse]
        rw [List.length_cons] at l1
        exact Nat.lt_of_lt_of_le (show r.length < 9001 by omega) (by rw [sizeLine_eq]; decide)
      · refine ⟨_, rfl, a, _, 0, .str "sign", rfl, rfl, SqT.of ha2, atI_nat (j := 0) rfl, rfl, .inr ⟨_, rfl, _, rfl, a, _, 0, .str "sign", rfl, rfl, SqT.of ha2, atI_nat (j := 0) rfl, rfl, .inr ⟨_, rfl, (2 : Int), 1, rfl, by decide +kernel, .inl ⟨by decide, by decide⟩, 0, 2 * 1, by decide +kernel, rfl, ?_⟩⟩⟩
        refine ⟨_, rfl, S, _, rfl, .inl (SqL.of e2), _, rfl, _, _, rfl, rfl, _, rfl, ite2 (fun c => ?_) (fun _ => ?_)⟩
        · have c' := of_decide_eq_true c
          rw [List.length_map, List.length_reverse] at c'
          first | omega | (simp only [List.length_cons] at c'; omega)
        refine ⟨_, rfl, a, _, 0, .str "sign", rfl, rfl, SqT.of ha2, atI_nat (j := 0) rfl, by show 5 ≤ sizeLine; decide, fun U fU => ?_⟩
        have sU := same_upd (o := .tup [V.str "push", .str "load", .str "long", .str "view", .str "sign"]) fU
        refine ⟨U, _, rfl, .inr (SqT.of upd_same), rfl, rfl, _, rfl, ite2 (fun c => absurd c (by decide +kernel)) (fun _ => ?_)⟩
        have sB := sA.trans sU
        have ha3 := sU _ _ ha2
        have e3 := sU _ _ e2
        have ht3 := sB _ _ ht
        have hS3 := sqT_same hS sB
        revert sB ha3 e3 ht3 hS3
        generalize upd H2 U (.tup [V.str "push", .str "load", .str "long", .str "view", .str "sign"]) = H3
        intro sB ha3 e3 ht3 hS3
        refine ⟨_, rfl, a, _, 0, .str "sign", rfl, rfl, SqT.of ha3, atI_nat (j := 0) rfl, rfl, _, rfl, iteN (by decide +kernel) ?_⟩
        refine ⟨_, rfl, a, _, 0, .str "sign", rfl, rfl, SqT.of ha3, atI_nat (j := 0) rfl, rfl, _, rfl, iteN (by decide +kernel) ?_⟩
        refine ⟨_, rfl, a, _, 0, .str "sign", rfl, rfl, SqT.of ha3, atI_nat (j := 0) rfl, rfl, _, rfl, iteN (by decide +kernel) ?_⟩
        refine ⟨_, rfl, a, _, 0, .str "sign", rfl, rfl, SqT.of ha3, atI_nat (j := 0) rfl, rfl, _, rfl, iteN (by decide +kernel) ?_⟩
        have ex : ((w2 :: w1 :: r).reverse.map V.int) = (w1 :: r).reverse.map V.int ++ [V.int w2] := by
          rw [List.reverse_cons, List.map_append]
          rfl
        rw [ex] at e3
        refine ⟨_, rfl, .inl ⟨rfl, _, SqL.of e3⟩, S, _, .int w2, rfl, rfl, e3, by rw [List.length_append]; exact List.getElem?_concat_length, ?_⟩
        rw [List.dropLast_concat]
        have ex2 : ((w1 :: r).reverse.map V.int) = r.reverse.map V.int ++ [V.int w1] := by
          rw [List.reverse_cons, List.map_append]
          rfl
        rw [ex2]
        have sC := same_at (o := .lst (r.reverse.map V.int ++ [V.int w1])) sB fS
        have e4 : upd H3 S (.lst (r.reverse.map V.int ++ [V.int w1])) S = some (.lst (r.reverse.map V.int ++ [V.int w1])) := upd_same
        revert sC e4
        generalize upd H3 S (.lst (r.reverse.map V.int ++ [V.int w1])) = H4
        intro sC e4
        refine ⟨_, rfl, .inl ⟨rfl, _, SqL.of e4⟩, _, rfl, a, _, 1, .int ck, rfl, rfl, SqT.of (sC _ _ ha), atI_nat (j := 1) rfl, _, rfl, .inl ⟨rfl, _, SqL.of e4⟩, S, _, .int w1, rfl, rfl, e4, by rw [List.length_append]; exact List.getElem?_concat_length, ?_⟩
        rw [List.dropLast_concat]
        have hk : [V.int ck, .int w1, .int w2] = [V.int ((ck.toNat : Nat) : Int), .int w1, .int w2] := by rw [Int.toNat_of_nonneg k0]
        refine ⟨_, rfl, ck.toNat, z, w1, w2, hk, hz, b1 _ (List.mem_cons_of_mem _ List.mem_cons_self), b1 _ List.mem_cons_self, S, _, _, rfl, rfl, upd_same, ?_, ?_⟩
        · rw [List.length_map, List.length_reverse]
          rw [List.length_cons, List.length_cons] at l1
          exact Nat.lt_of_lt_of_le (show r.length < 9001 by omega) (by rw [sizeLine_eq]; decide)
        rw [upd_upd]
        exact fin _ _ _ _ (same_at sC fS) (by rw [upd_same, List.reverse_cons, List.map_append]; rfl)
  · rintro σ9 H9 ⟨y4, y5, y6, y7, st, rfl, s1, e1, r1, l1, b1⟩
    rw [List.take_of_length_le (by omega), hrun] at r1
    cases r1
    exact ⟨_, rfl, q S _ s1 fS e1⟩
/-! ### _law_code -/
def sp_law_code (T : Txt K mg) (n : Nat) : Sp := fun vs H Q _ => ∃ (v : V) (s o : Addr) (e : Ex) (ns ps : List Str) (on : Str → Bool) (ko : List (Key × V)), vs = [v, .ref s, .ref o] ∧ Ev H v e ∧ e.deep ≤ n ∧ n ≤ 13 ∧ e.Wf ns ps ∧ H s = some (.lst (ns.map V.str)) ∧ H o = some (.dK ko) ∧ (∀ x ∈ ps, valV ko (.inr x) = some (.bl (on x))) ∧
  ∀ (p : Addr) (H' : Hp) (cs : List V), Same H H' → H p = none → H' p = some (.lst cs) → CodeV H' cs (e.code ns on) → Q (.ref p) H'
theorem no_law_code (T : Txt K mg) : ∀ vs H Q E, ¬ sp_law_code T 0 vs H Q E := fun vs H Q E ⟨_, _, _, e, _, _, _, _, _, _, h, _⟩ => absurd (deep_pos e) (by omega)
theorem eqV_str {a b : Str} : eqV (V.str a) (V.str b) = decide (a = b) := by
  show (a == b) = _
  by_cases h : a = b
  · rw [decide_eq_true h, h]
    exact beq_self_eq_true b
  · rw [decide_eq_false h]
    exact beq_eq_false_iff_ne.mpr h
theorem list_ix {ns : List Str} {x : Str} (m : x ∈ ns) : (ns.map V.str)[ixS ns x]? = some (V.str x) ∧ eqV (V.str x) (V.str x) = true ∧ ∀ (m : Nat) (z' : V), m < ixS ns x → (ns.map V.str)[m]? = some z' → eqV z' (V.str x) = false := by
  obtain ⟨g1, g2⟩ := ixS_get m
  refine ⟨?_, ?_, fun m z hm hz => ?_⟩
  · rw [List.getElem?_map, g1]
    rfl
  · rw [eqV_str]
    exact decide_eq_true rfl
  · obtain ⟨y, hy, rfl⟩ := str_of_map hz
    rw [eqV_str]
    exact decide_eq_false fun z => g2 m hm (by rw [hy, z])

theorem step_law_code (T : Txt K mg) {n : Nat} (G : FnOk P w K mg base CX0 (0 + n) T.a_law_code T.d_law_code ["due", "slots", "on"] (sp_law_code T n)) : FnOk P w K mg base CX0 (0 + n + 1) T.a_law_code T.d_law_code ["due", "slots", "on"] (sp_law_code T (n + 1)) := by
  refine T.F_law_code.ok sc_law_code (fun vs H Q E h => ?_) (fun cdv A outer s H vs Q E hr h => ?_)
  · obtain ⟨v, sa, o, e, ns, ps, on, ko, rfl, _⟩ := h
    rfl
  obtain ⟨v, sa, o, e, ns, ps, on, ko, rfl, hv, hd, h13, hw, hS, ho, hov, q⟩ := h
  refine ⟨_, (pss_cons (ps_if (pt_cmpR op_eq (pe_ix ix_tup (pv 0) pe_int (fun _ _ => rfl)) pe_str (nomark _)) (pss_one (ps_ret (pe_lst (pa_cons (pe_tup (pa_cons pe_str (pa_cons (pe_ix ix_tup (pv 0) pe_int (fun _ _ => rfl)) pa_nil))) pa_nil)))) pss_nil)
      (pss_cons (ps_if (pt_cmpR op_eq (pe_ix ix_tup (pv 0) pe_int (fun _ _ => rfl)) pe_str (nomark _)) (pss_one (ps_ret (pe_lst (pa_cons (pe_tup (pa_cons pe_str (pa_cons (pe_bm PySem.F.plainAttrs_list PySem.F.slot_list_index PySem.F.type_list_index mt_index (pv 1) (pa_cons (pe_ix ix_tup (pv 0) pe_int (fun _ _ => rfl)) pa_nil)) pa_nil))) pa_nil)))) pss_nil)
      (pss_cons (ps_if (pt_cmpR op_eq (pe_ix ix_tup (pv 0) pe_int (fun _ _ => rfl)) pe_str (nomark _)) (pss_one (ps_ret (pe_lst (pa_cons (pe_tup (pa_cons pe_str (pa_cons pe_int pa_nil))) pa_nil)))) pss_nil)
      (pss_cons (ps_if (pt_cmpR op_eq (pe_ix ix_tup (pv 0) pe_int (fun _ _ => rfl)) pe_str (nomark _)) (pss_one (ps_ret (pe_op op_cat (pe_call G hr (by rfl) T.m_law_code T.F_law_code.kp T.b_law_code .nil pass0 (pa_cons (pe_ix ix_tup (pv 0) pe_int (fun _ _ => rfl)) (pa_cons (pv 1) (pa_cons (pv 2) pa_nil)))) (pe_lst (pa_cons (pe_tup (pa_cons pe_str (pa_cons pe_int pa_nil))) pa_nil))))) pss_nil)
      (pss_cons (ps_if (pt_cmpR op_eq (pe_ix ix_tup (pv 0) pe_int (fun _ _ => rfl)) pe_str (nomark _)) (pss_one (ps_ret (pe_call G hr (by rfl) T.m_law_code T.F_law_code.kp T.b_law_code .nil pass0 (pa_cons (pe_ix ix_tup (pv 0) (pe_op op_sub pe_int (pe_callTy call_int1 (by rfl) T.z_int (by first | exact PySem.boot_int | decide +kernel) (pa_cons (pe_dget (d_room hr) (pv 2) (pe_ix ix_tup (pv 0) pe_int (fun _ _ => rfl)) (fun _ _ => rfl)) pa_nil))) (fun _ _ => rfl)) (pa_cons (pv 1) (pa_cons (pv 2) pa_nil)))))) pss_nil)
      (pss_cons (ps_set (i := 3) sc_law_code.nd rfl (by first | exact Or.inl rfl | exact Or.inr rfl) (pe_mG ty_tu PySem.F.plainAttrs_tuple PySem.F.slot_tuple_index PySem.F.type_tuple_index mt_tup_index (pe_tupF (pa_cons pe_str (pa_cons pe_str (pa_cons pe_str (pa_cons pe_str (pa_cons pe_str (pa_cons pe_str (pa_cons pe_str pa_nil)))))))) (pa_cons (pe_ix ix_tup (pv 0) pe_int (fun _ _ => rfl)) pa_nil)))
      (pss_one (ps_ret (pe_op op_cat (pe_op op_cat (pe_call G hr (by rfl) T.m_law_code T.F_law_code.kp T.b_law_code .nil pass0 (pa_cons (pe_ix ix_tup (pv 0) pe_int (fun _ _ => rfl)) (pa_cons (pv 1) (pa_cons (pv 2) pa_nil)))) (pe_call G hr (by rfl) T.m_law_code T.F_law_code.kp T.b_law_code .nil pass0 (pa_cons (pe_ix ix_tup (pv 0) pe_int (fun _ _ => rfl)) (pa_cons (pv 1) (pa_cons (pv 2) pa_nil))))) (pe_lst (pa_cons (pe_tup (pa_cons pe_str (pa_cons (pv 3) pa_nil))) pa_nil))))))))))), ?_⟩
  obtain ⟨n1, n2, n3, n4, n5, n6, n7, n8, n9, n10⟩ := num_ne
  cases hv with
  | @num a m ha =>
    refine ⟨_, rfl, a, _, 0, .str "number", rfl, rfl, SqT.of ha, atI_nat (j := 0) rfl, rfl, _, rfl, iteS ?_⟩
    refine ⟨_, rfl, a, _, 1, .int m, rfl, rfl, SqT.of ha, atI_nat (j := 1) rfl, by show 2 ≤ sizeLine; decide, fun t ft => ⟨by show 1 ≤ sizeLine; decide, fun p fp => ?_⟩⟩
    have s1 := same_upd (o := .tup [V.str "push", .int m]) ft
    have s2 := same_upd (o := .lst [V.ref t]) fp
    exact q p _ _ (s1.trans s2) (s1.free fp) upd_same (.cons ⟨t, rfl, s2 _ _ upd_same⟩ .nil)
  | @var a x ha =>
    refine ⟨_, rfl, a, _, 0, .str "variable", rfl, rfl, SqT.of ha, atI_nat (j := 0) rfl, rfl, _, rfl, iteN n1 ?_⟩
    refine ⟨_, rfl, a, _, 0, .str "variable", rfl, rfl, SqT.of ha, atI_nat (j := 0) rfl, rfl, _, rfl, iteS ?_⟩
    obtain ⟨i1, i2, i3⟩ := list_ix (show x ∈ ns from hw)
    refine ⟨_, rfl, .inl ⟨rfl, _, SqL.of hS⟩, _, rfl, a, _, 1, .str x, rfl, rfl, SqT.of ha, atI_nat (j := 1) rfl, sa, ns.map V.str, .str x, ixS ns x, .str x, rfl, rfl, SqL.of hS, rfl, strs_flat ns, i1, i2, i3, by show 2 ≤ sizeLine; decide, fun t ft => ⟨by show 1 ≤ sizeLine; decide, fun p fp => ?_⟩⟩
    have s1 := same_upd (o := .tup [V.str "load", .int (ixS ns x : Nat)]) ft
    have s2 := same_upd (o := .lst [V.ref t]) fp
    exact q p _ _ (s1.trans s2) (s1.free fp) upd_same (.cons ⟨t, rfl, s2 _ _ upd_same⟩ .nil)
  | @long a ha =>
    refine ⟨_, rfl, a, _, 0, .str "long", rfl, rfl, SqT.of ha, atI_nat (j := 0) rfl, rfl, _, rfl, iteN n2 ?_⟩
    refine ⟨_, rfl, a, _, 0, .str "long", rfl, rfl, SqT.of ha, atI_nat (j := 0) rfl, rfl, _, rfl, iteN n5 ?_⟩
    refine ⟨_, rfl, a, _, 0, .str "long", rfl, rfl, SqT.of ha, atI_nat (j := 0) rfl, rfl, _, rfl, iteS ?_⟩
    refine ⟨by show 2 ≤ sizeLine; decide, fun t ft => ⟨by show 1 ≤ sizeLine; decide, fun p fp => ?_⟩⟩
    have s1 := same_upd (o := .tup [V.str "long", .int 0]) ft
    have s2 := same_upd (o := .lst [V.ref t]) fp
    exact q p _ _ (s1.trans s2) (s1.free fp) upd_same (.cons ⟨t, rfl, s2 _ _ upd_same⟩ .nil)
  | @view a v e ha hv =>
    have hd' : e.deep ≤ n := by
      have : e.deep + 1 ≤ n + 1 := hd
      omega
    refine ⟨_, rfl, a, _, 0, .str "view", rfl, rfl, SqT.of ha, atI_nat (j := 0) rfl, rfl, _, rfl, iteN n3 ?_⟩
    refine ⟨_, rfl, a, _, 0, .str "view", rfl, rfl, SqT.of ha, atI_nat (j := 0) rfl, rfl, _, rfl, iteN n6 ?_⟩
    refine ⟨_, rfl, a, _, 0, .str "view", rfl, rfl, SqT.of ha, atI_nat (j := 0) rfl, rfl, _, rfl, iteN n8 ?_⟩
    refine ⟨_, rfl, a, _, 0, .str "view", rfl, rfl, SqT.of ha, atI_nat (j := 0) rfl, rfl, _, rfl, iteS ?_⟩
    refine ⟨_, rfl, a, _, 1, v, rfl, rfl, SqT.of ha, atI_nat (j := 1) rfl, _, rfl, _, rfl, v, sa, o, e, ns, ps, on, ko, rfl, hv, hd', by omega, hw, hS, ho, hov, fun p1 H1 cs s1 f1 e1 c1 => ?_⟩
    refine ⟨by show 2 ≤ sizeLine; decide, fun t ft => ⟨by show 1 ≤ sizeLine; decide, fun p2 f2 => ?_⟩⟩
    have s2 := same_upd (o := .tup [V.str "view", .int 0]) ft
    have s2' := same_upd (o := .lst [V.ref t]) f2
    have l1 := code_len13 (ns := ns) (on := on) (e := e) (by omega)
    have l2 : cs.length = (e.code ns on).length := c1.length
    refine ⟨p1, p2, cs, [.ref t], rfl, rfl, (s2.trans s2') _ _ e1, upd_same, ?_, fun p fp => ?_⟩
    · rw [sizeLine_eq]
      show cs.length + 1 ≤ _
      omega
    have s3 := same_upd (o := .lst (cs ++ [V.ref t])) fp
    exact q p _ _ (((s1.trans s2).trans s2').trans s3) (((s1.trans s2).trans s2').free fp) upd_same (paired_app (c1.keep (keepT_of ((s2.trans s2').trans s3))) (.cons ⟨t, rfl, (s2'.trans s3) _ _ upd_same⟩ .nil))
  | @pick a x v w e f ha hv hv2 =>
    have hd' : max e.deep f.deep + 1 ≤ n + 1 := hd
    refine ⟨_, rfl, a, _, 0, .str "pick", rfl, rfl, SqT.of ha, atI_nat (j := 0) rfl, rfl, _, rfl, iteN n4 ?_⟩
    refine ⟨_, rfl, a, _, 0, .str "pick", rfl, rfl, SqT.of ha, atI_nat (j := 0) rfl, rfl, _, rfl, iteN n7 ?_⟩
    refine ⟨_, rfl, a, _, 0, .str "pick", rfl, rfl, SqT.of ha, atI_nat (j := 0) rfl, rfl, _, rfl, iteN n9 ?_⟩
    refine ⟨_, rfl, a, _, 0, .str "pick", rfl, rfl, SqT.of ha, atI_nat (j := 0) rfl, rfl, _, rfl, iteN n10 ?_⟩
    refine ⟨_, rfl, a, _, 0, .str "pick", rfl, rfl, SqT.of ha, atI_nat (j := 0) rfl, rfl, _, rfl, iteS ?_⟩
    have q' : ∀ (p : Addr) (H' : Hp) (cs : List V), Same H H' → H p = none → H' p = some (.lst cs) → CodeV H' cs (if on x = true then e.code ns on else f.code ns on) → Q (.ref p) H' := q
    obtain ⟨u, g, gi, gv, gd, gw, gq⟩ : ∃ (u : V) (g : Ex), atI [V.str "pick", .str x, v, w] (3 - (if on x = true then 1 else 0)) = some u ∧ Ev H u g ∧ g.deep ≤ n ∧ g.Wf ns ps ∧ (if on x = true then e.code ns on else f.code ns on) = g.code ns on := by
      by_cases c : on x = true
      · exact ⟨v, e, by rw [if_pos c]; exact atI_nat (j := 2) rfl, hv, by omega, hw.2.1, if_pos c⟩
      · exact ⟨w, f, by rw [if_neg c]; exact atI_nat (j := 3) rfl, hv2, by omega, hw.2.2, if_neg c⟩
    rw [gq] at q'
    exact ⟨_, rfl, _, rfl, _, rfl, a, _, 1, .str x, rfl, rfl, SqT.of ha, atI_nat (j := 1) rfl, o, _, rfl, dget_of ho (hov x hw.1), .inr ⟨_, rfl, _, _, rfl, rfl, a, _, _, u, rfl, rfl, SqT.of ha, gi, _, rfl, _, rfl, u, sa, o, g, ns, ps, on, ko, rfl, gv, gd, by omega, gw, hS, ho, hov, q'⟩⟩
  | @op a z v w e f ha hv hv2 =>
    have hd' : max e.deep f.deep + 1 ≤ n + 1 := hd
    obtain ⟨m1, m2, m3, m4, m5⟩ := opL_ne hw.1
    refine ⟨_, rfl, a, _, 0, .str z, rfl, rfl, SqT.of ha, atI_nat (j := 0) rfl, rfl, _, rfl, iteN m1 ?_⟩
    refine ⟨_, rfl, a, _, 0, .str z, rfl, rfl, SqT.of ha, atI_nat (j := 0) rfl, rfl, _, rfl, iteN m2 ?_⟩
    refine ⟨_, rfl, a, _, 0, .str z, rfl, rfl, SqT.of ha, atI_nat (j := 0) rfl, rfl, _, rfl, iteN m3 ?_⟩
    refine ⟨_, rfl, a, _, 0, .str z, rfl, rfl, SqT.of ha, atI_nat (j := 0) rfl, rfl, _, rfl, iteN m4 ?_⟩
    refine ⟨_, rfl, a, _, 0, .str z, rfl, rfl, SqT.of ha, atI_nat (j := 0) rfl, rfl, _, rfl, iteN m5 ?_⟩
    obtain ⟨g1, g2⟩ := ixS_get hw.1
    refine ⟨by show 7 ≤ sizeLine; decide, fun u ou fu cu du => ?_⟩
    have s0 := same_upd (o := .frz ou (.tup (opL.map V.str))) fu
    have fT : FT (upd H u (.frz ou (.tup (opL.map V.str)))) u (opL.map V.str) := ⟨ou, upd_same, cu, du⟩
    refine ⟨⟨u, rfl, .inl ⟨_, fT⟩⟩, _, rfl, a, _, 0, .str z, rfl, rfl, SqT.of (s0 _ _ ha), atI_nat (j := 0) rfl, u, opL, z, ixS opL z, rfl, rfl, fT.sq, g1, g2, ?_⟩
    refine ⟨_, rfl, a, _, 1, v, rfl, rfl, SqT.of (s0 _ _ ha), atI_nat (j := 1) rfl, _, rfl, _, rfl, v, sa, o, e, ns, ps, on, ko, rfl, hv.keep (keepT_of s0), by omega, by omega, hw.2.1, s0 _ _ hS, s0 _ _ ho, hov, fun p1 H1 cs1 s1 f1 e1 c1 => ?_⟩
    have sA := s0.trans s1
    refine ⟨_, rfl, a, _, 2, w, rfl, rfl, SqT.of (sA _ _ ha), atI_nat (j := 2) rfl, _, rfl, _, rfl, w, sa, o, f, ns, ps, on, ko, rfl, hv2.keep (keepT_of sA), by omega, by omega, hw.2.2, sA _ _ hS, sA _ _ ho, hov, fun p2 H2 cs2 s2 f2 e2 c2 => ?_⟩
    have l1 := code_len13 (ns := ns) (on := on) (e := e) (by omega)
    have l2 : cs1.length = (e.code ns on).length := c1.length
    have l3 := code_len13 (ns := ns) (on := on) (e := f) (by omega)
    have l4 : cs2.length = (f.code ns on).length := c2.length
    refine ⟨p1, p2, cs1, cs2, rfl, rfl, s2 _ _ e1, e2, by rw [sizeLine_eq]; omega, fun p3 f3 => ?_⟩
    have s3 := same_upd (o := .lst (cs1 ++ cs2)) f3
    refine ⟨_, rfl, by show 2 ≤ sizeLine; decide, fun t ft => ⟨by show 1 ≤ sizeLine; decide, fun p4 f4 => ?_⟩⟩
    have s4 := same_upd (o := .tup [V.str "sign", .int (ixS opL z : Nat)]) ft
    have s5 := same_upd (o := .lst [V.ref t]) f4
    refine ⟨p3, p4, cs1 ++ cs2, [.ref t], rfl, rfl, (s4.trans s5) _ _ upd_same, upd_same, ?_, fun p fp => ?_⟩
    · rw [sizeLine_eq, List.length_append]
      show cs1.length + cs2.length + 1 ≤ _
      omega
    have s6 := same_upd (o := .lst (cs1 ++ cs2 ++ [V.ref t])) fp
    have sB := ((s3.trans s4).trans s5).trans s6
    exact q p _ _ ((sA.trans s2).trans sB) (((((sA.trans s2).trans s3).trans s4).trans s5).free fp) upd_same (paired_app (paired_app (c1.keep (keepT_of (s2.trans sB))) (c2.keep (keepT_of sB))) (.cons ⟨t, rfl, (s5.trans s6) _ _ upd_same⟩ .nil))
theorem ok_law_code (T : Txt K mg) : ∀ n, FnOk P w K mg base CX0 (0 + n) T.a_law_code T.d_law_code ["due", "slots", "on"] (sp_law_code T n)
  | 0 => ⟨fun vs H Q E h => absurd h (no_law_code T vs H Q E), fun A outer s H args us vs Q E _ _ _ _ h => absurd h (no_law_code T vs H Q E)⟩
  | n + 1 => step_law_code T (ok_law_code T n)
/-! ### law -/
def sp_law (T : Txt K mg) : Sp := spLaw K

theorem ok_law (T : Txt K mg) : FnOk P w K mg base CX0 16 T.a_law T.d_law ["script"] (sp_law T) := by
  refine T.F_law.ok sc_law (fun vs H Q E h => ?_) (fun cdv A outer s H vs Q E hr h => ?_)
  · obtain ⟨a, ns, rfl, _⟩ := h
    rfl
  obtain ⟨a, ns0, rfl, hS, h63, q⟩ := h
  refine ⟨_, (pss_cons (ps_set (i := 1) sc_law.nd rfl (by first | exact Or.inl rfl | exact Or.inr rfl) (pe_call (ok_law_pool T) (hr.mono (by decide)) (by rfl) T.m_law_pool T.F_law_pool.kp T.b_law_pool .nil pass0 (pa_cons (pv 0) (pa_cons pe_int pa_nil))))
      (pss_cons (ps_set (i := 2) sc_law.nd rfl (by first | exact Or.inl rfl | exact Or.inr rfl) (pe_call (ok_law_names T) (hr.mono (by decide)) (by rfl) T.m_law_names T.F_law_names.kp T.b_law_names .nil pass0 (pa_cons (pv 1) (pa_cons pe_int pa_nil))))
      (pss_cons (ps_set (i := 3) sc_law.nd rfl (by first | exact Or.inl rfl | exact Or.inr rfl) (pe_call (ok_law_names T) (hr.mono (by decide)) (by rfl) T.m_law_names T.F_law_names.kp T.b_law_names .nil pass0 (pa_cons (pv 1) (pa_cons pe_int pa_nil))))
      (pss_cons (ps_set (i := 4) sc_law.nd rfl (by first | exact Or.inl rfl | exact Or.inr rfl) pe_dnewK)
      (pss_cons (ps_for PassesOwn.never rfl (pi_list (pv 2)) (pg_name (i := 5) sc_law.nd rfl (by first | exact Or.inl rfl | exact Or.inr rfl)) (pss_one (ps_asg (pe_call (ok_law_number T) (hr.mono (by decide)) (by rfl) T.m_law_number T.F_law_number.kp T.b_law_number .nil pass0 (pa_cons (pv 1) pa_nil)) (pg_sub (pv 4) (pv 5) (set_dict (d_room hr))))))
      (pss_cons (ps_set (i := 6) sc_law.nd rfl (by first | exact Or.inl rfl | exact Or.inr rfl) pe_dnewK)
      (pss_cons (ps_for PassesOwn.never rfl (pi_list (pv 3)) (pg_name (i := 5) sc_law.nd rfl (by first | exact Or.inl rfl | exact Or.inr rfl)) (pss_one (ps_asg (pe_cmpR op_eq (pe_call (ok_law_draw T) (hr.mono (by decide)) (by rfl) T.m_law_draw T.F_law_draw.kp T.b_law_draw .nil pass0 (pa_cons (pv 1) (pa_cons pe_int pa_nil))) pe_int (nomark _)) (pg_sub (pv 6) (pv 5) (set_dict (d_room hr))))))
      (pss_cons (ps_set (i := 7) sc_law.nd rfl (by first | exact Or.inl rfl | exact Or.inr rfl) (pe_callTy call_tuple_of (by rfl) T.z_tuple (by first | exact PySem.boot_tuple | decide +kernel) (pa_cons (pe_lc (own := [("k", 11)]) (g := gName 11) (tt := tYes) rfl sc_law.nd (pi_range1 (by rfl) T.z_range (pa_cons (pe_call (ok_law_draw T) (hr.mono (by decide)) (by rfl) T.m_law_draw T.F_law_draw.kp T.b_law_draw .nil pass0 (pa_cons (pv 1) (pa_cons pe_int pa_nil))) pa_nil)) (blkOk_by (N := N_law) (sc := defScope s_law) (by decide +kernel)) (fun _ _ _ _ _ => (pg_name (i := 11) sc_law.nd rfl (by first | exact Or.inl rfl | exact Or.inr rfl))) (fun _ _ _ _ _ => pts_nil) (fun _ _ _ _ _ => (pe_call (ok_law_number T) (hr.mono (by decide)) (by rfl) T.m_law_number T.F_law_number.kp T.b_law_number .nil pass0 (pa_cons (pv 1) pa_nil)))) pa_nil)))
      (pss_cons (ps_set (i := 8) sc_law.nd rfl (by first | exact Or.inl rfl | exact Or.inr rfl) (pe_call (ok_law_expression T 13) (hr.mono (by decide)) (by rfl) T.m_law_expression T.F_law_expression.kp T.b_law_expression .nil pass0 (pa_cons (pv 1) (pa_cons (pv 2) (pa_cons (pv 3) (pa_cons pe_int pa_nil))))))
      (pss_cons (ps_set (i := 9) sc_law.nd rfl (by first | exact Or.inl rfl | exact Or.inr rfl) (pe_call (ok_expression_code T 13) (hr.mono (by decide)) (by rfl) T.m_expression_code T.F_expression_code.kp T.b_expression_code .nil pass0 (pa_cons (pv 8) (pa_cons (pe_callTy call_tuple_frz (by rfl) T.z_tuple (by first | exact PySem.boot_tuple | decide +kernel) (pa_cons (pv 2) pa_nil)) (pa_cons (pv 6) pa_nil)))))
      (pss_cons (ps_if (PW.pt (pw_or (pt_not (pt_truth (pe_callB call_isi (by rfl) T.z_isinstance (by first | exact PySem.boot_isinstance | decide +kernel) (pa_cons (pv 9) (pa_cons (pe_bltn (v := .ty "list") (by rfl) T.z_list (by decide +kernel) rfl) pa_nil))) (fun _ => rfl))) (pw_or1 (pt_not (pt_truth (pe_call (ok_law_same T 8) (hr.mono (by decide)) (by rfl) T.m_law_same T.F_law_same.kp T.b_law_same .nil pass0 (pa_cons (pv 9) (pa_cons (pe_call (ok_law_code T 13) (hr.mono (by decide)) (by rfl) T.m_law_code T.F_law_code.kp T.b_law_code .nil pass0 (pa_cons (pv 8) (pa_cons (pv 2) (pa_cons (pv 6) pa_nil)))) pa_nil))) (fun _ => rfl)))))) (pss_one (ps_ret pe_bl)) pss_nil)
      (pss_cons (ps_set (i := 10) sc_law.nd rfl (by first | exact Or.inl rfl | exact Or.inr rfl) (pe_call (ok_law_run T) (hr.mono (by decide)) (by rfl) T.m_law_run T.F_law_run.kp T.b_law_run .nil pass0 (pa_cons (pv 9) (pa_cons (pe_lc (own := [("name", 5)]) (g := gName 5) (tt := tYes) rfl sc_law.nd (pi_list (pv 2)) (blkOk_by (N := N_law) (sc := defScope s_law) (by decide +kernel)) (fun _ _ _ _ _ => (pg_name (i := 5) sc_law.nd rfl (by first | exact Or.inl rfl | exact Or.inr rfl))) (fun _ _ _ _ _ => pts_nil) (fun _ _ _ _ _ => (pe_dget (d_room hr) (pv 4) (pv 5) (fun _ _ => rfl)))) (pa_cons (pv 7) pa_nil)))))
      (pss_one (ps_ret (pe_and (pe_cmpR op_notN (pv 10) pe_non (nomark _)) (pe_one (pe_call (ok_law_same T 8) (hr.mono (by decide)) (by rfl) T.m_law_same T.F_law_same.kp T.b_law_same .nil pass0 (pa_cons (pv 10) (pa_cons (pe_lst (pa_cons (pe_call (ok_value_of T 13) (hr.mono (by decide)) (by rfl) T.m_value_of T.F_value_of.kp T.b_value_of .nil pass0 (pa_cons (pv 8) (pa_cons (pv 4) (pa_cons (pv 6) (pa_cons (pv 7) pa_nil))))) pa_nil)) pa_nil))))))))))))))))))), ?_⟩
  refine ⟨_, rfl, a, ns0, 50, rfl, hS, fun p c H1 s1 np nc P1 => ?_⟩
  refine ⟨_, rfl, p, c, 4, 50, rfl, by decide, by decide, P1, fun pn ns H2 b2 P2 fn en nl => ?_⟩
  have npn := P1.ne fn
  refine ⟨_, rfl, p, c, 3, 50, rfl, by decide, by decide, P2, fun pp ps H3 b3 P3 fp ep pl => ?_⟩
  have npp := P2.ne fp
  have en3 := b3 _ _ npn en
  clear s1 hS b2 b3 P1 P2 fn fp
  -- table
  refine fun t ft => ?_
  have st := same_upd (o := .dK []) ft
  have nt := P3.ne ft
  have nt2 := P3.ne2 ft
  refine ⟨_, rfl, pn, rfl, ⟨_, SqL.of (st _ _ en3)⟩, for_list (K := K) (a := pn) (xs := ns.map V.str) (fun i σ' H' => ∃ (y : Option V) (kt : List (Key × V)), σ' = [some (.ref a), some (.ref p), some (.ref pn), some (.ref pp), some (.ref t), y, none, none, none, none, none, none] ∧ H' pn = some (.lst (ns.map V.str)) ∧ H' pp = some (.lst (ps.map V.str)) ∧ Pool H' p c 50 ∧ H' t = some (.dK kt) ∧ TI GN kt (ns.take i))
    ⟨none, [], rfl, st _ _ en3, st _ _ ep, P3.same st, upd_same, by rw [List.take_zero]; exact TI.nil _⟩ ?_ ?_ ?_⟩
  · rintro i σ' H' _ ⟨y, kt, rfl, e1, _⟩
    exact SqL.of e1
  · rintro i x σ' H' hi ⟨y, kt, rfl, e1, e2, P4, e4, ti⟩
    obtain ⟨z, hz, rfl⟩ := str_of_map hi
    refine ⟨_, rfl, p, c, 50, rfl, P4, fun n H5 bn b5 P5 => ?_⟩
    have f4 := b5 _ _ nt e4
    have f1 := b5 _ _ npn e1
    have f2 := b5 _ _ npp e2
    have tl := ti.len
    rw [List.length_take] at tl
    refine ⟨_, rfl, _, rfl, t, _, rfl, DPut.k (k := .inr z) f4 (small1000 (by omega)), ⟨_, _, rfl, ?_, ?_, P5.upd nt nt2 _, upd_same, ?_⟩⟩
    · rw [upd_ne (ne_of_none en3 ft)]
      exact f1
    · rw [upd_ne (ne_of_none ep ft)]
      exact f2
    · rw [take_snoc hz]
      exact ti.put ⟨n, rfl, bn⟩
  rintro σ4 H4 ⟨y4, kt, rfl, en4, ep4, P4, et4, ti⟩
  rw [List.length_map, List.take_of_length_le (Nat.le_refl _)] at ti
  clear st nt2 ft en3 ep P3
  -- on
  refine fun o fo => ?_
  have so := same_upd (o := .dK []) fo
  have no := P4.ne fo
  have no2 := P4.ne2 fo
  refine ⟨_, rfl, pp, rfl, ⟨_, SqL.of (so _ _ ep4)⟩, for_list (K := K) (a := pp) (xs := ps.map V.str) (fun i σ' H' => ∃ (y : Option V) (ko : List (Key × V)), σ' = [some (.ref a), some (.ref p), some (.ref pn), some (.ref pp), some (.ref t), y, some (.ref o), none, none, none, none, none] ∧ H' pn = some (.lst (ns.map V.str)) ∧ H' pp = some (.lst (ps.map V.str)) ∧ H' t = some (.dK kt) ∧ Pool H' p c 50 ∧ H' o = some (.dK ko) ∧ TI GB ko (ps.take i))
    ⟨_, [], rfl, so _ _ en4, so _ _ ep4, so _ _ et4, P4.same so, upd_same, by rw [List.take_zero]; exact TI.nil _⟩ ?_ ?_ ?_⟩
  · rintro i σ' H' _ ⟨y, ko, rfl, _, e1, _⟩
    exact SqL.of e1
  · rintro i x σ' H' hi ⟨y, ko, rfl, e1, e2, e3, P5, e4, oi⟩
    obtain ⟨z, hz, rfl⟩ := str_of_map hi
    refine ⟨_, rfl, p, c, 2, 50, rfl, by decide, by decide, P5, fun n H5 n0 n1 b5 P6 => ?_⟩
    have f4 := b5 _ _ no e4
    have f1 := b5 _ _ npn e1
    have f2 := b5 _ _ npp e2
    have f3 := b5 _ _ nt e3
    have tl := oi.len
    rw [List.length_take] at tl
    refine ⟨rfl, _, rfl, _, rfl, o, _, rfl, DPut.k (k := .inr z) f4 (small1000 (by omega)), ⟨_, _, rfl, ?_, ?_, ?_, P6.upd no no2 _, upd_same, ?_⟩⟩
    · rw [upd_ne (ne_of_none en4 fo)]
      exact f1
    · rw [upd_ne (ne_of_none ep4 fo)]
      exact f2
    · rw [upd_ne (ne_of_none et4 fo)]
      exact f3
    · rw [take_snoc hz]
      exact oi.put ⟨_, rfl⟩
  rintro σ5 H5 ⟨y5, ko, rfl, en5, ep5, et5, P5, eo5, oi⟩
  rw [List.length_map, List.take_of_length_le (Nat.le_refl _)] at oi
  clear so no2 fo en4 ep4 et4 P4
  -- seen
  refine ⟨_, rfl, p, c, 6, 50, rfl, by decide, by decide, P5, fun m H8 hm0 hm1 b8 P8 => ?_⟩
  refine ⟨m, rfl, by omega, by omega, fun D hD => ?_⟩
  have nD := P8.ne hD
  have nD2 := P8.ne2 hD
  refine lc_range (fun i H' => ∃ sn : List Int, sn.length = i ∧ (∀ n ∈ sn, Bd n) ∧ H' D = some (.lst (sn.map V.int)) ∧ Pool H' p c 50 ∧ But p H8 H') ⟨[], rfl, (fun _ m => by cases m), upd_same, P8.upd nD nD2 _, but_of (same_upd hD)⟩ (fun i H9 hi ⟨sn, el, hc, e9, P9, b9⟩ => ?_) (fun H9 ⟨sn, el, hB, e9, P9, b9⟩ => ?_)
  · refine ⟨rfl, ?_⟩
    refine ⟨_, rfl, p, c, 50, rfl, P9, fun n H10 bn b10 P10 => ?_⟩
    refine ⟨_, b10 _ _ nD e9, ?_, sn ++ [n], by rw [List.length_append, el]; rfl, fun z mz => ?_, ?_, P10.upd nD nD2 _, fun d od nd ed => ?_⟩
    · rw [List.length_map, el]
      exact small1000 (by omega)
    · rcases List.mem_append.mp mz with mz | mz
      · exact hc z mz
      · rw [List.mem_singleton.mp mz]
        exact bn
    · rw [upd_same, List.map_append]
      rfl
    · rw [upd_ne (ne_of_none ed hD)]
      exact (b9.trans b10) d od nd ed
  have hL : sn.length ≤ 100 := by omega
  have bE := b8.trans b9
  have en9 := bE _ _ npn en5
  have ep9 := bE _ _ npp ep5
  have et9 := bE _ _ nt et5
  have eo9 := bE _ _ no eo5
  clear bE b8 b9 P5 en5 ep5 et5 eo5 hD
  refine ⟨D, _, rfl, .inl ⟨SqL.of e9, fun sa fs => ?_⟩⟩
  have ss := same_upd (o := .tup (sn.map V.int)) fs
  have P10 := P9.same ss
  have nsa := P9.ne fs
  -- plain
  refine ⟨_, rfl, _, rfl, _, rfl, p, c, pn, pp, ns, ps, 12, 50, rfl, by decide, by decide, P10, npn, npp, ss _ _ en9, ss _ _ ep9, by omega, by omega, fun v e H11 bb ev ed ew b11 P11 => ?_⟩
  have ed' : e.deep ≤ 13 := by omega
  have en11 := b11 _ _ npn (ss _ _ en9)
  have et11 := b11 _ _ nt (ss _ _ et9)
  have eo11 := b11 _ _ no (ss _ _ eo9)
  have es11 := b11 _ _ nsa upd_same
  clear ss en9 ep9 et9 eo9 P9 P10 b11 fs e9 P11
  refine ⟨_, rfl, _, rfl, pn, _, rfl, SqL.of en11, fun pt ot ft ct dt => ?_⟩
  have s1 := same_upd (o := .frz ot (.tup (ns.map V.str))) ft
  refine ⟨_, rfl, v, pt, o, e, ns, ps, onOf ko, ko, rfl, ev.keep (keepT_of s1), ed', by decide, ew, ⟨ot, upd_same, ct, dt⟩, s1 _ _ eo11, on_of oi, fun p1 H12 cs s2 f1 e1 c1 => ?_⟩
  have ev12 := ev.keep (keepT_of (s1.trans s2))
  have en12 := (s1.trans s2) _ _ en11
  have et12 := (s1.trans s2) _ _ et11
  have eo12 := (s1.trans s2) _ _ eo11
  have es12 := (s1.trans s2) _ _ es11
  clear ev en11 et11 eo11 es11 s1 s2 ft f1
  refine ⟨_, rfl, .ref p1, .ty "list", .type "list", .type "list", true, rfl, .ty _, .base (.lst e1), kit_ty (by decide +kernel), true, rfl, ?_⟩
  refine ⟨_, rfl, _, rfl, _, rfl, _, rfl, v, pn, o, e, ns, ps, onOf ko, ko, rfl, ev12, ed', by decide, ew, en12, eo12, on_of oi, fun p2 H13 cs2 s2 f2 e2 c2 => ?_⟩
  have l13 := code_len13 (ns := ns) (on := onOf ko) ed'
  have e1' := s2 _ _ e1
  have c1' := c1.keep (keepT_of s2)
  refine ⟨.ref p1, .ref p2, .list ((e.code ns (onOf ko)).map insD), rfl, c1'.da e1', c2.da e2, ?_, ?_, true, rfl, iteF ?_⟩
  · have := codeD_depth (e.code ns (onOf ko))
    simp only [PyData.depth]
    omega
  · simp only [wide, codeD_wide, List.length_map, Bool.and_true, decide_eq_true_eq]
    omega
  have ev13 := ev12.keep (keepT_of s2)
  have en13 := s2 _ _ en12
  have et13 := s2 _ _ et12
  have eo13 := s2 _ _ eo12
  have es13 := s2 _ _ es12
  clear ev12 en12 et12 eo12 es12 e1 c1 e2 c2 f2 s2
  refine ⟨_, rfl, _, rfl, pn, rfl, ⟨_, SqL.of en13⟩, fun D hD => ?_⟩
  have sD := same_upd (o := .lst []) hD
  refine lc_list (a := pn) (xs := ns.map V.str) (fun i H' => Same H13 H' ∧ H' D = some (.lst (((ns.take i).map (tbOf kt)).map V.int))) ⟨sD, upd_same⟩ (fun i H' _ h => SqL.of (h.1 _ _ en13)) (fun i x H' hx h => ?_) (fun H14 h => ?_)
  · obtain ⟨z, hz, rfl⟩ := str_of_map hx
    have zm := List.mem_of_getElem? hz
    refine ⟨rfl, ?_⟩
    refine ⟨_, rfl, _, rfl, t, _, rfl, dget_of (h.1 _ _ et13) (tb_of ti z zm).1, _, h.2, ?_, same_at h.1 hD, ?_⟩
    · rw [List.length_map, List.length_map, List.length_take]
      exact small1000 (by omega)
    · rw [upd_same, take_snoc hz, List.map_append, List.map_append]
      rfl
  obtain ⟨s14, e14⟩ := h
  rw [List.length_map, List.take_of_length_le (Nat.le_refl _)] at e14
  have ht14 : ∀ x ∈ ns, (ns.map (tbOf kt))[ixS ns x]? = some (tbOf kt x) ∧ Bd (tbOf kt x) := fun x m => ⟨by rw [List.getElem?_map, (ixS_get m).1]; rfl, (tb_of ti x m).2⟩
  have run := code_runs (on := onOf ko) ht14 hB hL e [] ew
  refine ⟨_, rfl, p1, D, sa, cs, e.code ns (onOf ko), ns.map (tbOf kt), sn, _, rfl, s14 _ _ e1', c1'.keep (keepT_of s14), e14, SqT.of (s14 _ _ es13), hB, hL, run, by omega, fun ps2 H15 s15 f15 e15 => ?_⟩
  have sE := s14.trans s15
  refine ⟨_, rfl, rfl, _, rfl, iteT ?_⟩
  refine ⟨_, rfl, _, rfl, _, rfl, _, rfl, _, rfl, v, t, o, sa, e, ns, ps, tbOf kt, onOf ko, sn, rfl, ev13.keep (keepT_of sE), ed', ew, tb_env (sE _ _ et13) (sE _ _ eo13) ti oi, SqT.of (sE _ _ es13), hB, by show 1 ≤ sizeLine; decide, fun l hl => ?_⟩
  have sF := same_upd (o := .lst [V.int (e.val (tbOf kt) (onOf ko) sn)]) hl
  have one : ∀ (H : Hp) (q : Addr) (n : Int), H q = some (.lst [V.int n]) → Da H (.ref q) (.list [.int n]) := fun H q n h => by
    refine .lst h rfl fun i v d h1 h2 => ?_
    match i, h1, h2 with
    | 0, h1, h2 => cases h1; cases h2; exact .int n
    | i + 1, h1, h2 => simp at h1
  exact ⟨_, _, .list [.int (e.val (tbOf kt) (onOf ko) sn)], rfl, one _ _ _ (sF _ _ e15), one _ _ _ upd_same, by simp [PyData.depth, PyData.depthAll], by simp [wide, wideAll], q _⟩
end
/-! ### what the top has written -/
theorem all_mk {l : PySem.W.OpenLaw} {w : World} {K : PySem.W.Frag} {h : Heap} {mg : Str → Option Value} {fa : Addr} (X : K.In h) (G : h.Ns mainGlobals mg) (hfa : mg "law" = some (.ref fa))
    {tk_MODULUS : Tok}
    {tk_GREATEST_NUMBER : Tok}
    {A_OPERATORS : Addr} {tr_OPERATORS : Nat} {tu_OPERATORS : Array (Option Value)} {tk_OPERATORS_0 tk_OPERATORS_1 tk_OPERATORS_2 tk_OPERATORS_3 tk_OPERATORS_4 tk_OPERATORS_5 tk_OPERATORS_6 : Tok}
    {f1 : Addr} {od1 an1 : Option Addr} {sl1 : Array (Option Value)} {oc1 kV1 dc1 pm1 cd1 ct1 : Value}
    {f2 : Addr} {od2 an2 : Option Addr} {sl2 : Array (Option Value)} {oc2 kV2 dc2 pm2 cd2 ct2 : Value}
    {Tt2 : Addr} {tc2 : Value} {td2 : Option Addr} {tn2 : Nat} {tl2 : Array (Option Value)}
    {zt2 : Addr} {zd2 : Option Addr} {zn2 : Nat} {zl2 : Array (Option Value)}
    {f3 : Addr} {od3 an3 : Option Addr} {sl3 : Array (Option Value)} {oc3 kV3 dc3 pm3 cd3 ct3 : Value}
    {f4 : Addr} {od4 an4 : Option Addr} {sl4 : Array (Option Value)} {oc4 kV4 dc4 pm4 cd4 ct4 : Value}
    {f5 : Addr} {od5 an5 : Option Addr} {sl5 : Array (Option Value)} {oc5 kV5 dc5 pm5 cd5 ct5 : Value}
    {f6 : Addr} {od6 an6 : Option Addr} {sl6 : Array (Option Value)} {oc6 kV6 dc6 pm6 cd6 ct6 : Value}
    {f7 : Addr} {od7 an7 : Option Addr} {sl7 : Array (Option Value)} {oc7 kV7 dc7 pm7 cd7 ct7 : Value}
    {f8 : Addr} {od8 an8 : Option Addr} {sl8 : Array (Option Value)} {oc8 kV8 dc8 pm8 cd8 ct8 : Value}
    {f9 : Addr} {od9 an9 : Option Addr} {sl9 : Array (Option Value)} {oc9 kV9 dc9 pm9 cd9 ct9 : Value}
    {f10 : Addr} {od10 an10 : Option Addr} {sl10 : Array (Option Value)} {oc10 kV10 dc10 pm10 cd10 ct10 : Value}
    {f11 : Addr} {od11 an11 : Option Addr} {sl11 : Array (Option Value)} {oc11 kV11 dc11 pm11 cd11 ct11 : Value}
    {f12 : Addr} {od12 an12 : Option Addr} {sl12 : Array (Option Value)} {oc12 kV12 dc12 pm12 cd12 ct12 : Value}
    {f13 : Addr} {od13 an13 : Option Addr} {sl13 : Array (Option Value)} {oc13 kV13 dc13 pm13 cd13 ct13 : Value}
    {f14 : Addr} {od14 an14 : Option Addr} {sl14 : Array (Option Value)} {oc14 kV14 dc14 pm14 cd14 ct14 : Value}
    {f15 : Addr} {od15 an15 : Option Addr} {sl15 : Array (Option Value)} {oc15 kV15 dc15 pm15 cd15 ct15 : Value}
    {f16 : Addr} {od16 an16 : Option Addr} {sl16 : Array (Option Value)} {oc16 kV16 dc16 pm16 cd16 ct16 : Value}
    {f17 : Addr} {od17 an17 : Option Addr} {sl17 : Array (Option Value)} {oc17 kV17 dc17 pm17 cd17 ct17 : Value}
    (ac_MODULUS : PySem.W.nsIn K mainGlobals "MODULUS" = some (some (.int 65536 tk_MODULUS)))
    (ac_GREATEST_NUMBER : PySem.W.nsIn K mainGlobals "GREATEST_NUMBER" = some (some (.int 65535 tk_GREATEST_NUMBER)))
    (ac_OPERATORS : PySem.W.nsIn K mainGlobals "OPERATORS" = some (some (.ref A_OPERATORS)))
    (lk_OPERATORS : K.lookup A_OPERATORS = some ⟨.type "tuple", none, .seq #[.str "+" tk_OPERATORS_0, .str "-" tk_OPERATORS_1, .str "*" tk_OPERATORS_2, .str "/" tk_OPERATORS_3, .str "mod" tk_OPERATORS_4, .str "<" tk_OPERATORS_5, .str "=" tk_OPERATORS_6] tr_OPERATORS, tu_OPERATORS⟩)
    (a1 : PySem.W.nsIn K mainGlobals "combine" = some (some (.ref f1)))
    (l1 : K.lookup f1 = some ⟨oc1, od1, .func (PySem.W.fnOf "combine" "combine" (defArgs s_combine) (defBody s_combine) (defScope s_combine) .none kV1 dc1 pm1 an1 cd1 ct1), sl1⟩)
    (c1 : PySem.W.codeIn K cd1 "combine" = true)
    (k1 : PySem.W.keepIn K (.ref f1) = true)
    (a2 : PySem.W.nsIn K mainGlobals "value_of" = some (some (.ref f2)))
    (l2 : K.lookup f2 = some ⟨oc2, od2, .func (PySem.W.fnOf "value_of" "value_of" (defArgs s_value_of) (defBody s_value_of) (defScope s_value_of) (.ref Tt2) kV2 dc2 pm2 an2 cd2 ct2), sl2⟩)
    (c2 : PySem.W.codeIn K cd2 "value_of" = true)
    (k2 : PySem.W.keepIn K (.ref f2) = true)
    (t2 : K.lookup Tt2 = some ⟨tc2, td2, .seq #[.ref zt2] tn2, tl2⟩)
    (zk2 : K.lookup zt2 = some ⟨.type "tuple", zd2, .seq #[] zn2, zl2⟩)
    (a3 : PySem.W.nsIn K mainGlobals "expression_code" = some (some (.ref f3)))
    (l3 : K.lookup f3 = some ⟨oc3, od3, .func (PySem.W.fnOf "expression_code" "expression_code" (defArgs s_expression_code) (defBody s_expression_code) (defScope s_expression_code) .none kV3 dc3 pm3 an3 cd3 ct3), sl3⟩)
    (c3 : PySem.W.codeIn K cd3 "expression_code" = true)
    (k3 : PySem.W.keepIn K (.ref f3) = true)
    (a4 : PySem.W.nsIn K mainGlobals "_law_pool" = some (some (.ref f4)))
    (l4 : K.lookup f4 = some ⟨oc4, od4, .func (PySem.W.fnOf "_law_pool" "_law_pool" (defArgs s_law_pool) (defBody s_law_pool) (defScope s_law_pool) .none kV4 dc4 pm4 an4 cd4 ct4), sl4⟩)
    (c4 : PySem.W.codeIn K cd4 "_law_pool" = true)
    (k4 : PySem.W.keepIn K (.ref f4) = true)
    (a5 : PySem.W.nsIn K mainGlobals "_law_draw" = some (some (.ref f5)))
    (l5 : K.lookup f5 = some ⟨oc5, od5, .func (PySem.W.fnOf "_law_draw" "_law_draw" (defArgs s_law_draw) (defBody s_law_draw) (defScope s_law_draw) .none kV5 dc5 pm5 an5 cd5 ct5), sl5⟩)
    (c5 : PySem.W.codeIn K cd5 "_law_draw" = true)
    (k5 : PySem.W.keepIn K (.ref f5) = true)
    (a6 : PySem.W.nsIn K mainGlobals "_law_spend" = some (some (.ref f6)))
    (l6 : K.lookup f6 = some ⟨oc6, od6, .func (PySem.W.fnOf "_law_spend" "_law_spend" (defArgs s_law_spend) (defBody s_law_spend) (defScope s_law_spend) .none kV6 dc6 pm6 an6 cd6 ct6), sl6⟩)
    (c6 : PySem.W.codeIn K cd6 "_law_spend" = true)
    (k6 : PySem.W.keepIn K (.ref f6) = true)
    (a7 : PySem.W.nsIn K mainGlobals "_law_few" = some (some (.ref f7)))
    (l7 : K.lookup f7 = some ⟨oc7, od7, .func (PySem.W.fnOf "_law_few" "_law_few" (defArgs s_law_few) (defBody s_law_few) (defScope s_law_few) .none kV7 dc7 pm7 an7 cd7 ct7), sl7⟩)
    (c7 : PySem.W.codeIn K cd7 "_law_few" = true)
    (k7 : PySem.W.keepIn K (.ref f7) = true)
    (a8 : PySem.W.nsIn K mainGlobals "_law_number" = some (some (.ref f8)))
    (l8 : K.lookup f8 = some ⟨oc8, od8, .func (PySem.W.fnOf "_law_number" "_law_number" (defArgs s_law_number) (defBody s_law_number) (defScope s_law_number) .none kV8 dc8 pm8 an8 cd8 ct8), sl8⟩)
    (c8 : PySem.W.codeIn K cd8 "_law_number" = true)
    (k8 : PySem.W.keepIn K (.ref f8) = true)
    (a9 : PySem.W.nsIn K mainGlobals "_law_same" = some (some (.ref f9)))
    (l9 : K.lookup f9 = some ⟨oc9, od9, .func (PySem.W.fnOf "_law_same" "_law_same" (defArgs s_law_same) (defBody s_law_same) (defScope s_law_same) .none kV9 dc9 pm9 an9 cd9 ct9), sl9⟩)
    (c9 : PySem.W.codeIn K cd9 "_law_same" = true)
    (k9 : PySem.W.keepIn K (.ref f9) = true)
    (a10 : PySem.W.nsIn K mainGlobals "_law_keys" = some (some (.ref f10)))
    (l10 : K.lookup f10 = some ⟨oc10, od10, .func (PySem.W.fnOf "_law_keys" "_law_keys" (defArgs s_law_keys) (defBody s_law_keys) (defScope s_law_keys) .none kV10 dc10 pm10 an10 cd10 ct10), sl10⟩)
    (c10 : PySem.W.codeIn K cd10 "_law_keys" = true)
    (k10 : PySem.W.keepIn K (.ref f10) = true)
    (a11 : PySem.W.nsIn K mainGlobals "_law_name" = some (some (.ref f11)))
    (l11 : K.lookup f11 = some ⟨oc11, od11, .func (PySem.W.fnOf "_law_name" "_law_name" (defArgs s_law_name) (defBody s_law_name) (defScope s_law_name) .none kV11 dc11 pm11 an11 cd11 ct11), sl11⟩)
    (c11 : PySem.W.codeIn K cd11 "_law_name" = true)
    (k11 : PySem.W.keepIn K (.ref f11) = true)
    (a12 : PySem.W.nsIn K mainGlobals "_law_names" = some (some (.ref f12)))
    (l12 : K.lookup f12 = some ⟨oc12, od12, .func (PySem.W.fnOf "_law_names" "_law_names" (defArgs s_law_names) (defBody s_law_names) (defScope s_law_names) .none kV12 dc12 pm12 an12 cd12 ct12), sl12⟩)
    (c12 : PySem.W.codeIn K cd12 "_law_names" = true)
    (k12 : PySem.W.keepIn K (.ref f12) = true)
    (a13 : PySem.W.nsIn K mainGlobals "_law_expression" = some (some (.ref f13)))
    (l13 : K.lookup f13 = some ⟨oc13, od13, .func (PySem.W.fnOf "_law_expression" "_law_expression" (defArgs s_law_expression) (defBody s_law_expression) (defScope s_law_expression) .none kV13 dc13 pm13 an13 cd13 ct13), sl13⟩)
    (c13 : PySem.W.codeIn K cd13 "_law_expression" = true)
    (k13 : PySem.W.keepIn K (.ref f13) = true)
    (a14 : PySem.W.nsIn K mainGlobals "_law_combine" = some (some (.ref f14)))
    (l14 : K.lookup f14 = some ⟨oc14, od14, .func (PySem.W.fnOf "_law_combine" "_law_combine" (defArgs s_law_combine) (defBody s_law_combine) (defScope s_law_combine) .none kV14 dc14 pm14 an14 cd14 ct14), sl14⟩)
    (c14 : PySem.W.codeIn K cd14 "_law_combine" = true)
    (k14 : PySem.W.keepIn K (.ref f14) = true)
    (a15 : PySem.W.nsIn K mainGlobals "_law_run" = some (some (.ref f15)))
    (l15 : K.lookup f15 = some ⟨oc15, od15, .func (PySem.W.fnOf "_law_run" "_law_run" (defArgs s_law_run) (defBody s_law_run) (defScope s_law_run) .none kV15 dc15 pm15 an15 cd15 ct15), sl15⟩)
    (c15 : PySem.W.codeIn K cd15 "_law_run" = true)
    (k15 : PySem.W.keepIn K (.ref f15) = true)
    (a16 : PySem.W.nsIn K mainGlobals "_law_code" = some (some (.ref f16)))
    (l16 : K.lookup f16 = some ⟨oc16, od16, .func (PySem.W.fnOf "_law_code" "_law_code" (defArgs s_law_code) (defBody s_law_code) (defScope s_law_code) .none kV16 dc16 pm16 an16 cd16 ct16), sl16⟩)
    (c16 : PySem.W.codeIn K cd16 "_law_code" = true)
    (k16 : PySem.W.keepIn K (.ref f16) = true)
    (a17 : PySem.W.nsIn K mainGlobals "law" = some (some (.ref f17)))
    (l17 : K.lookup f17 = some ⟨oc17, od17, .func (PySem.W.fnOf "law" "law" (defArgs s_law) (defBody s_law) (defScope s_law) .none kV17 dc17 pm17 an17 cd17 ct17), sl17⟩)
    (c17 : PySem.W.codeIn K cd17 "law" = true)
    (k17 : PySem.W.keepIn K (.ref f17) = true)
    (z_bool : PySem.W.nsIn K mainGlobals "bool" = some none)
    (z_int : PySem.W.nsIn K mainGlobals "int" = some none)
    (z_isinstance : PySem.W.nsIn K mainGlobals "isinstance" = some none)
    (z_len : PySem.W.nsIn K mainGlobals "len" = some none)
    (z_list : PySem.W.nsIn K mainGlobals "list" = some none)
    (z_max : PySem.W.nsIn K mainGlobals "max" = some none)
    (z_min : PySem.W.nsIn K mainGlobals "min" = some none)
    (z_range : PySem.W.nsIn K mainGlobals "range" = some none)
    (z_str : PySem.W.nsIn K mainGlobals "str" = some none)
    (z_tuple : PySem.W.nsIn K mainGlobals "tuple" = some none) :
    ∃ fd : FuncData, (∀ (s : Shared) (v : Value), BindsTo s fd ⟨[v], []⟩ [("script", v)]) ∧ ∀ base : Heap, K.In base → base.Ns mainGlobals mg → FnOk l.prog w K mg base CX0 16 fa fd ["script"] (spLaw K) := by
  have e := hfa.symm.trans (PySem.W.mg_of X G a17)
  cases e
  have FD2 : FunD K "value_of" "value_of" (defArgs s_value_of) (defBody s_value_of) (defScope s_value_of) [.ref zt2] [] f2 _ := ⟨⟨_, _, _, _, _, _, _, _, _, _, rfl, l2, c2, .inr ⟨(by simp), _, _, _, _, rfl, t2, rfl, (.cons (by first | exact ⟨_, rfl⟩ | rfl) .nil)⟩, .inl rfl⟩, k2⟩
  obtain ⟨dz2, vz2, bz2⟩ := FD2.binds1 (ps := ["expression", "table", "on", "seen"]) 4 1 (by simp) (by first | decide | rfl) (fun _ _ _ _ _ _ _ us its h1 h2 => match us, its, h1, h2 with | [_, _, _, _], [_], _, _ => ⟨_, rfl, rfl⟩)
  cases vz2
  obtain ⟨ds2, vd2, bd2⟩ := FD2.binds1 (ps := ["expression", "table", "on", "seen"]) 3 0 (by simp) (by first | decide | rfl) (fun _ _ _ _ _ _ _ us its h1 h2 => match us, its, h1, h2 with | [_, _, _], [_], _, _ => ⟨_, rfl, rfl⟩)
  let T : Txt K mg := { v_MODULUS := _, g_MODULUS := PySem.W.mg_of X G ac_MODULUS, r_MODULUS := ⟨_, rfl⟩, v_GREATEST_NUMBER := _, g_GREATEST_NUMBER := PySem.W.mg_of X G ac_GREATEST_NUMBER, r_GREATEST_NUMBER := ⟨_, rfl⟩, A_OPERATORS := A_OPERATORS, g_OPERATORS := PySem.W.mg_of X G ac_OPERATORS, q_OPERATORS := fun H => .inr ⟨_, _, _, lk_OPERATORS, rfl, rfl, by show 7 ≤ sizeLine; decide, (.cons (by first | exact ⟨_, rfl⟩ | rfl) (.cons (by first | exact ⟨_, rfl⟩ | rfl) (.cons (by first | exact ⟨_, rfl⟩ | rfl) (.cons (by first | exact ⟨_, rfl⟩ | rfl) (.cons (by first | exact ⟨_, rfl⟩ | rfl) (.cons (by first | exact ⟨_, rfl⟩ | rfl) (.cons (by first | exact ⟨_, rfl⟩ | rfl) .nil)))))))⟩, qd_OPERATORS := ⟨_, lk_OPERATORS, rfl, rfl⟩, a_combine := f1, d_combine := _, F_combine := fun_mk (st := s_combine) l1 c1 k1, b_combine := (fun_mk (st := s_combine) l1 c1 k1).binds (ps := ["sign", "left", "right"]) (fun _ _ _ _ _ _ us hl => match us, hl with | [_, _, _], _ => rfl), m_combine := PySem.W.mg_of X G a1, z_value_of := zt2, qz_value_of := fun H => .inr ⟨_, _, _, zk2, rfl, rfl, by show 0 ≤ sizeLine; decide, .nil⟩, a_value_of := f2, d_value_of := _, F_value_of := FD2, ds_value_of := ds2, v_value_of := vd2, bd_value_of := bd2, b_value_of := bz2, m_value_of := PySem.W.mg_of X G a2, a_expression_code := f3, d_expression_code := _, F_expression_code := fun_mk (st := s_expression_code) l3 c3 k3, b_expression_code := (fun_mk (st := s_expression_code) l3 c3 k3).binds (ps := ["expression", "slots", "on"]) (fun _ _ _ _ _ _ us hl => match us, hl with | [_, _, _], _ => rfl), m_expression_code := PySem.W.mg_of X G a3, a_law_pool := f4, d_law_pool := _, F_law_pool := fun_mk (st := s_law_pool) l4 c4 k4, b_law_pool := (fun_mk (st := s_law_pool) l4 c4 k4).binds (ps := ["script", "budget"]) (fun _ _ _ _ _ _ us hl => match us, hl with | [_, _], _ => rfl), m_law_pool := PySem.W.mg_of X G a4, a_law_draw := f5, d_law_draw := _, F_law_draw := fun_mk (st := s_law_draw) l5 c5 k5, b_law_draw := (fun_mk (st := s_law_draw) l5 c5 k5).binds (ps := ["pool", "size"]) (fun _ _ _ _ _ _ us hl => match us, hl with | [_, _], _ => rfl), m_law_draw := PySem.W.mg_of X G a5, a_law_spend := f6, d_law_spend := _, F_law_spend := fun_mk (st := s_law_spend) l6 c6 k6, b_law_spend := (fun_mk (st := s_law_spend) l6 c6 k6).binds (ps := ["pool"]) (fun _ _ _ _ _ _ us hl => match us, hl with | [_], _ => rfl), m_law_spend := PySem.W.mg_of X G a6, a_law_few := f7, d_law_few := _, F_law_few := fun_mk (st := s_law_few) l7 c7 k7, b_law_few := (fun_mk (st := s_law_few) l7 c7 k7).binds (ps := ["pool", "most"]) (fun _ _ _ _ _ _ us hl => match us, hl with | [_, _], _ => rfl), m_law_few := PySem.W.mg_of X G a7, a_law_number := f8, d_law_number := _, F_law_number := fun_mk (st := s_law_number) l8 c8 k8, b_law_number := (fun_mk (st := s_law_number) l8 c8 k8).binds (ps := ["pool"]) (fun _ _ _ _ _ _ us hl => match us, hl with | [_], _ => rfl), m_law_number := PySem.W.mg_of X G a8, a_law_same := f9, d_law_same := _, F_law_same := fun_mk (st := s_law_same) l9 c9 k9, b_law_same := (fun_mk (st := s_law_same) l9 c9 k9).binds (ps := ["actual", "due"]) (fun _ _ _ _ _ _ us hl => match us, hl with | [_, _], _ => rfl), m_law_same := PySem.W.mg_of X G a9, a_law_keys := f10, d_law_keys := _, F_law_keys := fun_mk (st := s_law_keys) l10 c10 k10, b_law_keys := (fun_mk (st := s_law_keys) l10 c10 k10).binds (ps := []) (fun _ _ _ _ _ _ us hl => match us, hl with | [], _ => rfl), m_law_keys := PySem.W.mg_of X G a10, a_law_name := f11, d_law_name := _, F_law_name := fun_mk (st := s_law_name) l11 c11 k11, b_law_name := (fun_mk (st := s_law_name) l11 c11 k11).binds (ps := ["pool", "taken"]) (fun _ _ _ _ _ _ us hl => match us, hl with | [_, _], _ => rfl), m_law_name := PySem.W.mg_of X G a11, a_law_names := f12, d_law_names := _, F_law_names := fun_mk (st := s_law_names) l12 c12 k12, b_law_names := (fun_mk (st := s_law_names) l12 c12 k12).binds (ps := ["pool", "most"]) (fun _ _ _ _ _ _ us hl => match us, hl with | [_, _], _ => rfl), m_law_names := PySem.W.mg_of X G a12, a_law_expression := f13, d_law_expression := _, F_law_expression := fun_mk (st := s_law_expression) l13 c13 k13, b_law_expression := (fun_mk (st := s_law_expression) l13 c13 k13).binds (ps := ["pool", "names", "picks", "deep"]) (fun _ _ _ _ _ _ us hl => match us, hl with | [_, _, _, _], _ => rfl), m_law_expression := PySem.W.mg_of X G a13, a_law_combine := f14, d_law_combine := _, F_law_combine := fun_mk (st := s_law_combine) l14 c14 k14, b_law_combine := (fun_mk (st := s_law_combine) l14 c14 k14).binds (ps := ["sign", "a", "b"]) (fun _ _ _ _ _ _ us hl => match us, hl with | [_, _, _], _ => rfl), m_law_combine := PySem.W.mg_of X G a14, a_law_run := f15, d_law_run := _, F_law_run := fun_mk (st := s_law_run) l15 c15 k15, b_law_run := (fun_mk (st := s_law_run) l15 c15 k15).binds (ps := ["code", "cells", "seen"]) (fun _ _ _ _ _ _ us hl => match us, hl with | [_, _, _], _ => rfl), m_law_run := PySem.W.mg_of X G a15, a_law_code := f16, d_law_code := _, F_law_code := fun_mk (st := s_law_code) l16 c16 k16, b_law_code := (fun_mk (st := s_law_code) l16 c16 k16).binds (ps := ["due", "slots", "on"]) (fun _ _ _ _ _ _ us hl => match us, hl with | [_, _, _], _ => rfl), m_law_code := PySem.W.mg_of X G a16, a_law := fa, d_law := _, F_law := fun_mk (st := s_law) l17 c17 k17, b_law := (fun_mk (st := s_law) l17 c17 k17).binds (ps := ["script"]) (fun _ _ _ _ _ _ us hl => match us, hl with | [_], _ => rfl), m_law := PySem.W.mg_of X G a17, z_bool := PySem.W.mg_none_of X G z_bool, z_int := PySem.W.mg_none_of X G z_int, z_isinstance := PySem.W.mg_none_of X G z_isinstance, z_len := PySem.W.mg_none_of X G z_len, z_list := PySem.W.mg_none_of X G z_list, z_max := PySem.W.mg_none_of X G z_max, z_min := PySem.W.mg_none_of X G z_min, z_range := PySem.W.mg_none_of X G z_range, z_str := PySem.W.mg_none_of X G z_str, z_tuple := PySem.W.mg_none_of X G z_tuple }
  exact ⟨T.d_law, fun s v => .of_eq rfl, fun base _ _ => ok_law T⟩
end Own
open PySem PySem.W PyProof.Rows
set_option maxHeartbeats 0 in
theorem PySem.Challenge.cw_sureplay_k70_code_of_an_expression_holds : PySem.Challenge.rw_sureplay_k70_code_of_an_expression.Holds := by
  w_on; o_law; k_head; (case hw => w_witness2)
  k_fill
  refine L2.walk_of (l := PySem.Challenge.rw_sureplay_k70_code_of_an_expression) (n := 63) (k := 16) (x := "script") (CX := fun _ => L2.CX0) (sp := fun w => Own.spLaw _) rfl (by decide) rfl ⟨rfl, by decide, by decide⟩ (fun w h Y => PySem.W.kIn_of Y) ?F (fun _ _ a ns hl _ hS => ⟨a, ns, rfl, hS, hl, fun _ => rfl⟩) (fun _ _ _ _ _ h => h)
  case F =>
    intro w mg fa h KX G hmg
    refine' Own.all_mk KX G hmg ?ac_MODULUS ?ac_GREATEST_NUMBER ?ac_OPERATORS ?lk_OPERATORS ?a1 ?l1 ?c1 ?k1 ?a2 ?l2 ?c2 ?k2 ?t2 ?zk2 ?a3 ?l3 ?c3 ?k3 ?a4 ?l4 ?c4 ?k4 ?a5 ?l5 ?c5 ?k5 ?a6 ?l6 ?c6 ?k6 ?a7 ?l7 ?c7 ?k7 ?a8 ?l8 ?c8 ?k8 ?a9 ?l9 ?c9 ?k9 ?a10 ?l10 ?c10 ?k10 ?a11 ?l11 ?c11 ?k11 ?a12 ?l12 ?c12 ?k12 ?a13 ?l13 ?c13 ?k13 ?a14 ?l14 ?c14 ?k14 ?a15 ?l15 ?c15 ?k15 ?a16 ?l16 ?c16 ?k16 ?a17 ?l17 ?c17 ?k17 ?z_bool ?z_int ?z_isinstance ?z_len ?z_list ?z_max ?z_min ?z_range ?z_str ?z_tuple
    (case ac_MODULUS => k_is)
    (case ac_GREATEST_NUMBER => k_is)
    (case ac_OPERATORS => k_is)
    (case lk_OPERATORS => k_is)
    (case a1 => k_is)
    (case l1 => k_is)
    (case c1 => k_is)
    (case k1 => k_is)
    (case a2 => k_is)
    (case l2 => k_is)
    (case c2 => k_is)
    (case k2 => k_is)
    (case t2 => k_is)
    (case zk2 => k_is)
    (case a3 => k_is)
    (case l3 => k_is)
    (case c3 => k_is)
    (case k3 => k_is)
    (case a4 => k_is)
    (case l4 => k_is)
    (case c4 => k_is)
    (case k4 => k_is)
    (case a5 => k_is)
    (case l5 => k_is)
    (case c5 => k_is)
    (case k5 => k_is)
    (case a6 => k_is)
    (case l6 => k_is)
    (case c6 => k_is)
    (case k6 => k_is)
    (case a7 => k_is)
    (case l7 => k_is)
    (case c7 => k_is)
    (case k7 => k_is)
    (case a8 => k_is)
    (case l8 => k_is)
    (case c8 => k_is)
    (case k8 => k_is)
    (case a9 => k_is)
    (case l9 => k_is)
    (case c9 => k_is)
    (case k9 => k_is)
    (case a10 => k_is)
    (case l10 => k_is)
    (case c10 => k_is)
    (case k10 => k_is)
    (case a11 => k_is)
    (case l11 => k_is)
    (case c11 => k_is)
    (case k11 => k_is)
    (case a12 => k_is)
    (case l12 => k_is)
    (case c12 => k_is)
    (case k12 => k_is)
    (case a13 => k_is)
    (case l13 => k_is)
    (case c13 => k_is)
    (case k13 => k_is)
    (case a14 => k_is)
    (case l14 => k_is)
    (case c14 => k_is)
    (case k14 => k_is)
    (case a15 => k_is)
    (case l15 => k_is)
    (case c15 => k_is)
    (case k15 => k_is)
    (case a16 => k_is)
    (case l16 => k_is)
    (case c16 => k_is)
    (case k16 => k_is)
    (case a17 => k_is)
    (case l17 => k_is)
    (case c17 => k_is)
    (case k17 => k_is)
    (case z_bool => k_is)
    (case z_int => k_is)
    (case z_isinstance => k_is)
    (case z_len => k_is)
    (case z_list => k_is)
    (case z_max => k_is)
    (case z_min => k_is)
    (case z_range => k_is)
    (case z_str => k_is)
    (case z_tuple => k_is)
#print axioms PySem.Challenge.cw_sureplay_k70_code_of_an_expression_holds
