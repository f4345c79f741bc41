import PyProof.Rows.All
import Wide.All
import OpenK.AllK
import Wide.FinOn
import HandS.TupAny
import HandS.ForMost
import HandS.IsInst
import HandS.Codes
import HandS.Defaults
import HandS.Walk
import HandS.Text
import HandS.Dict
import HandS.Small
import HandS.More
import HandS.DeepEq
import HandS.TupMul
import PySem.Challenge.RW_sureplay_k24_folded_statements
set_option Elab.async false
set_option linter.all false
set_option maxRecDepth 100000
set_option maxHeartbeats 4000000
namespace Own
open PySem PySem.Spec PyProof.Rows L2
def topS (i : Nat) : Stmt := PySem.Challenge.pw_sureplay_k24_folded_statements.main.body.getD i (.Pass ⟨0, 0, 0, 0⟩)
abbrev s_combine : Stmt := (topS 2)
abbrev N_combine : List Str := ["sign", "left", "right"]
theorem sc_combine : FnScope N_combine ["sign", "left", "right"] (defScope s_combine) := ⟨rfl, rfl, rfl, by decide +kernel, rfl, by decide +kernel, by decide +kernel⟩
abbrev s_is_zero : Stmt := (topS 8)
abbrev N_is_zero : List Str := ["sign", "left", "right"]
theorem sc_is_zero : FnScope N_is_zero ["sign", "left", "right"] (defScope s_is_zero) := ⟨rfl, rfl, rfl, by decide +kernel, rfl, by decide +kernel, by decide +kernel⟩
abbrev s_fold_operator : Stmt := (topS 7)
abbrev N_fold_operator : List Str := ["sign", "left", "right"]
theorem sc_fold_operator : FnScope N_fold_operator ["sign", "left", "right"] (defScope s_fold_operator) := ⟨rfl, rfl, rfl, by decide +kernel, rfl, by decide +kernel, by decide +kernel⟩
abbrev s_fold_expression : Stmt := (topS 6)
abbrev N_fold_expression : List Str := ["expression", "on", "kind"]
theorem sc_fold_expression : FnScope N_fold_expression ["expression", "on"] (defScope s_fold_expression) := ⟨rfl, rfl, rfl, by decide +kernel, rfl, by decide +kernel, by decide +kernel⟩
abbrev s_fold_if : Stmt := (topS 11)
abbrev N_fold_if : List Str := ["statement", "on", "test", "then", "other"]
theorem sc_fold_if : FnScope N_fold_if ["statement", "on"] (defScope s_fold_if) := ⟨rfl, rfl, rfl, by decide +kernel, rfl, by decide +kernel, by decide +kernel⟩
abbrev s_fold_statement : Stmt := (topS 10)
abbrev N_fold_statement : List Str := ["statement", "on", "kind", "value"]
theorem sc_fold_statement : FnScope N_fold_statement ["statement", "on"] (defScope s_fold_statement) := ⟨rfl, rfl, rfl, by decide +kernel, rfl, by decide +kernel, by decide +kernel⟩
abbrev s_fold_block : Stmt := (topS 9)
abbrev N_fold_block : List Str := ["block", "on", "folded", "statement"]
theorem sc_fold_block : FnScope N_fold_block ["block", "on"] (defScope s_fold_block) := ⟨rfl, rfl, rfl, by decide +kernel, rfl, by decide +kernel, by decide +kernel⟩
abbrev s_law_pool : Stmt := (topS 13)
abbrev N_law_pool : List Str := ["script", "budget"]
theorem sc_law_pool : FnScope N_law_pool ["script", "budget"] (defScope s_law_pool) := ⟨rfl, rfl, rfl, by decide +kernel, rfl, by decide +kernel, by decide +kernel⟩
abbrev s_law_draw : Stmt := (topS 14)
abbrev N_law_draw : List Str := ["pool", "size", "cell", "value"]
theorem sc_law_draw : FnScope N_law_draw ["pool", "size"] (defScope s_law_draw) := ⟨rfl, rfl, rfl, by decide +kernel, rfl, by decide +kernel, by decide +kernel⟩
abbrev s_law_spend : Stmt := (topS 15)
abbrev N_law_spend : List Str := ["pool"]
theorem sc_law_spend : FnScope N_law_spend ["pool"] (defScope s_law_spend) := ⟨rfl, rfl, rfl, by decide +kernel, rfl, by decide +kernel, by decide +kernel⟩
abbrev s_law_few : Stmt := (topS 16)
abbrev N_law_few : List Str := ["pool", "most", "few"]
theorem sc_law_few : FnScope N_law_few ["pool", "most"] (defScope s_law_few) := ⟨rfl, rfl, rfl, by decide +kernel, rfl, by decide +kernel, by decide +kernel⟩
abbrev s_law_number : Stmt := (topS 17)
abbrev N_law_number : List Str := ["pool"]
theorem sc_law_number : FnScope N_law_number ["pool"] (defScope s_law_number) := ⟨rfl, rfl, rfl, by decide +kernel, rfl, by decide +kernel, by decide +kernel⟩
abbrev s_law_same : Stmt := (topS 18)
abbrev N_law_same : List Str := ["actual", "due", "k"]
theorem sc_law_same : FnScope N_law_same ["actual", "due"] (defScope s_law_same) := ⟨rfl, rfl, rfl, by decide +kernel, rfl, by decide +kernel, by decide +kernel⟩
abbrev s_law_keys : Stmt := (topS 19)
abbrev N_law_keys : List Str := ["text"]
theorem sc_law_keys : FnScope N_law_keys [] (defScope s_law_keys) := ⟨rfl, rfl, rfl, by decide +kernel, rfl, by decide +kernel, by decide +kernel⟩
abbrev s_law_name : Stmt := (topS 20)
abbrev N_law_name : List Str := ["pool", "taken", "signs", "name", "k"]
theorem sc_law_name : FnScope N_law_name ["pool", "taken"] (defScope s_law_name) := ⟨rfl, rfl, rfl, by decide +kernel, rfl, by decide +kernel, by decide +kernel⟩
abbrev s_law_names : Stmt := (topS 21)
abbrev N_law_names : List Str := ["pool", "most", "names", "k"]
theorem sc_law_names : FnScope N_law_names ["pool", "most"] (defScope s_law_names) := ⟨rfl, rfl, rfl, by decide +kernel, rfl, by decide +kernel, by decide +kernel⟩
abbrev s_law_expression : Stmt := (topS 22)
abbrev N_law_expression : List Str := ["pool", "names", "picks", "deep", "kind", "pick", "left", "sign"]
theorem sc_law_expression : FnScope N_law_expression ["pool", "names", "picks", "deep"] (defScope s_law_expression) := ⟨rfl, rfl, rfl, by decide +kernel, rfl, by decide +kernel, by decide +kernel⟩
abbrev s_law_combine : Stmt := (topS 23)
abbrev N_law_combine : List Str := ["sign", "a", "b", "whole"]
theorem sc_law_combine : FnScope N_law_combine ["sign", "a", "b"] (defScope s_law_combine) := ⟨rfl, rfl, rfl, by decide +kernel, rfl, by decide +kernel, by decide +kernel⟩
abbrev s_law_fold_pair : Stmt := (topS 24)
abbrev N_law_fold_pair : List Str := ["sign", "a", "b", "zero", "one"]
theorem sc_law_fold_pair : FnScope N_law_fold_pair ["sign", "a", "b"] (defScope s_law_fold_pair) := ⟨rfl, rfl, rfl, by decide +kernel, rfl, by decide +kernel, by decide +kernel⟩
abbrev s_law_fold : Stmt := (topS 25)
abbrev N_law_fold : List Str := ["due", "on"]
theorem sc_law_fold : FnScope N_law_fold ["due", "on"] (defScope s_law_fold) := ⟨rfl, rfl, rfl, by decide +kernel, rfl, by decide +kernel, by decide +kernel⟩
abbrev s_law_statement : Stmt := (topS 27)
abbrev N_law_statement : List Str := ["pool", "names", "picks", "deep", "state", "kind", "count", "then", "other", "name"]
theorem sc_law_statement : FnScope N_law_statement ["pool", "names", "picks", "deep", "state"] (defScope s_law_statement) := ⟨rfl, rfl, rfl, by decide +kernel, rfl, by decide +kernel, by decide +kernel⟩
abbrev s_law_block : Stmt := (topS 26)
abbrev N_law_block : List Str := ["pool", "names", "picks", "deep", "state", "block", "k"]
theorem sc_law_block : FnScope N_law_block ["pool", "names", "picks", "deep", "state"] (defScope s_law_block) := ⟨rfl, rfl, rfl, by decide +kernel, rfl, by decide +kernel, by decide +kernel⟩
abbrev s_law_fold_block : Stmt := (topS 29)
abbrev N_law_fold_block : List Str := ["block", "on", "folded", "due"]
theorem sc_law_fold_block : FnScope N_law_fold_block ["block", "on"] (defScope s_law_fold_block) := ⟨rfl, rfl, rfl, by decide +kernel, rfl, by decide +kernel, by decide +kernel⟩
abbrev s_law_fold_statement : Stmt := (topS 28)
abbrev N_law_fold_statement : List Str := ["due", "on", "test", "then", "other", "value"]
theorem sc_law_fold_statement : FnScope N_law_fold_statement ["due", "on"] (defScope s_law_fold_statement) := ⟨rfl, rfl, rfl, by decide +kernel, rfl, by decide +kernel, by decide +kernel⟩
abbrev s_law : Stmt := (topS 30)
abbrev N_law : List Str := ["script", "pool", "names", "picks", "on", "name", "block", "due", "actual"]
theorem sc_law : FnScope N_law ["script"] (defScope s_law) := ⟨rfl, rfl, rfl, by decide +kernel, rfl, by decide +kernel, by decide +kernel⟩
def spLaw (K : PySem.W.Frag) : Sp := fun vs H Q _ => ∃ (a : Addr) (ns : List Int), vs = [.ref a] ∧ SqL K H a (ns.map V.int) ∧ ns.length ≤ 63 ∧ ∀ H', Q (.bl true) H'
def cell (ns : List Int) (k : Int) : Int := ns.getD k.toNat 0
theorem same_upd {H : Hp} {p : Addr} {o : HO} (h : H p = none) : Same H (upd H p o) := fun b x e => by
  rw [upd_ne (ne_of_none e h)]
  exact e
theorem cut_from (xs : List V) (k : Nat) : cutV xs (some (k : Int)) none = xs.drop k := by
  unfold cutV
  rw [HT.sIx_nat, HT.sIx_none]
  by_cases h : k ≤ xs.length
  · rw [Nat.min_eq_left h]
    exact List.take_of_length_le (by rw [List.length_drop]; omega)
  · rw [Nat.min_eq_right (by omega), List.drop_eq_nil_of_le (by omega), List.drop_eq_nil_of_le (by omega)]
    simp
theorem cut_to (xs : List V) (k : Nat) : cutV xs none (some (k : Int)) = xs.take k := by
  unfold cutV
  rw [HT.sIx_nat, HT.sIx_none, List.drop_zero, Nat.sub_zero]
  by_cases h : k ≤ xs.length
  · rw [Nat.min_eq_left h]
  · rw [Nat.min_eq_right (by omega), List.take_of_length_le (Nat.le_refl _), List.take_of_length_le (by omega)]
theorem cut_to' (xs : List V) (k : Int) (h : 0 ≤ k) : cutV xs none (some k) = xs.take k.toNat := by
  obtain ⟨m, rfl⟩ := Int.eq_ofNat_of_zero_le h
  exact cut_to xs m
theorem cut_from' (xs : List V) (k : Int) (h : 0 ≤ k) : cutV xs (some k) none = xs.drop k.toNat := by
  obtain ⟨m, rfl⟩ := Int.eq_ofNat_of_zero_le h
  exact cut_from xs m
theorem small_le {n : Nat} (h : n ≤ 1000) : n ≤ sizeLine := Nat.le_of_lt (small1000 h)
theorem at_ofG {α : Type} {xs : List α} {z : Int} {j : Nat} {v : α} (e : z = (j : Int)) (h : xs[j]? = some v) : atI xs z = some v := by
  rw [e]
  exact atI_nat h
theorem int_of_map {ns : List Int} {i : Nat} {y : V} (hi : (ns.map V.int)[i]? = some y) : ∃ z, ns[i]? = some z ∧ y = V.int z := by
  rw [List.getElem?_map] at hi
  cases e : ns[i]? with
  | none => rw [e] at hi; cases hi
  | some u => rw [e] at hi; exact ⟨u, rfl, (Option.some.inj hi).symm⟩
theorem dp_ints {K : PySem.W.Frag} {H : Hp} : ∀ ns : List Int, DpAll K H (ns.map V.int) (ns.map PyData.int)
  | [] => .nil
  | n :: r => .cons (.int n) (dp_ints r)
theorem lay_ints : ∀ ns : List Int, PyData.canLayAll0 (ns.map PyData.int) = true ∧ PyData.depthAll (ns.map PyData.int) = 0
  | [] => ⟨by simp [PyData.canLayAll0], by simp [PyData.depthAll]⟩
  | n :: r => by
    have ih := lay_ints r
    exact ⟨by simp [PyData.canLayAll0, PyData.canLay0, ih.1], by simp [PyData.depthAll, PyData.depth, ih.2]⟩
theorem shaped_ints (ns : List Int) : SeqAt.shaped (.list (ns.map PyData.int)) = true := by
  have h := lay_ints ns
  unfold SeqAt.shaped
  simp [PyData.canLay0, PyData.depth, h.1, h.2]
theorem eqv_ints (ns : List Int) : PyData.eqv (.list (ns.map PyData.int)) (.list (ns.map PyData.int)) = true :=
  SeqAt.eqv_refl _ (by rw [PyData.canLay0]; exact (lay_ints ns).1)

mutual
/-- data that never changes: scalars and tracked tuples of such -/
inductive Im (H : Hp) : V → PyData → Prop
  | non : Im H .non .none
  | bl (b : Bool) : Im H (.bl b) (.bool b)
  | int (i : Int) : Im H (.int i) (.int i)
  | str (x : Str) : Im H (.str x) (.str x)
  | tup {a : Addr} {xs : List V} {ds : List PyData} : H a = some (.tup xs) → ImAll H xs ds → Im H (.ref a) (.tuple ds)
inductive ImAll (H : Hp) : List V → List PyData → Prop
  | nil : ImAll H [] []
  | cons {v : V} {vs : List V} {d : PyData} {ds : List PyData} : Im H v d → ImAll H vs ds → ImAll H (v :: vs) (d :: ds)
end
/-- the tracked tuples stay -/
def KeepT (H H' : Hp) : Prop := ∀ b xs, H b = some (.tup xs) → H' b = some (.tup xs)
theorem KeepT.refl (H : Hp) : KeepT H H := fun _ _ h => h
theorem KeepT.trans {H H1 H2 : Hp} (a : KeepT H H1) (b : KeepT H1 H2) : KeepT H H2 := fun c x h => b c x (a c x h)
theorem keepT_of {H H' : Hp} (s : Same H H') : KeepT H H' := fun b xs h => s b _ h
theorem keepT_lst {H : Hp} {p : Addr} {xs ys : List V} (h : H p = some (.lst xs)) : KeepT H (upd H p (.lst ys)) := fun b zs e => by
  have n : b ≠ p := fun q => by rw [q, h] at e; cases e
  rw [upd_ne n]
  exact e
mutual
theorem Im.keep {H H' : Hp} (k : KeepT H H') : ∀ {v : V} {d : PyData}, Im H v d → Im H' v d
  | _, _, .non => .non
  | _, _, .bl b => .bl b
  | _, _, .int i => .int i
  | _, _, .str x => .str x
  | _, _, .tup h a => .tup (k _ _ h) (ImAll.keep k a)
theorem ImAll.keep {H H' : Hp} (k : KeepT H H') : ∀ {vs : List V} {ds : List PyData}, ImAll H vs ds → ImAll H' vs ds
  | _, _, .nil => .nil
  | _, _, .cons h a => .cons (Im.keep k h) (ImAll.keep k a)
end
mutual
theorem Im.dp {K : PySem.W.Frag} {H : Hp} : ∀ {v : V} {d : PyData}, Im H v d → Dp K H v d
  | _, _, .non => .non
  | _, _, .bl b => .bl b
  | _, _, .int i => .int i
  | _, _, .str x => .str x
  | _, _, .tup h a => .tup (SqT.of h) (ImAll.dp a)
theorem ImAll.dp {K : PySem.W.Frag} {H : Hp} : ∀ {vs : List V} {ds : List PyData}, ImAll H vs ds → DpAll K H vs ds
  | _, _, .nil => .nil
  | _, _, .cons h a => .cons (Im.dp h) (ImAll.dp a)
end
theorem ImAll.len {H : Hp} : ∀ {vs : List V} {ds : List PyData}, ImAll H vs ds → vs.length = ds.length
  | _, _, .nil => rfl
  | _, _, .cons _ a => by rw [List.length_cons, List.length_cons, ImAll.len a]
theorem ImAll.append {H : Hp} : ∀ {vs us : List V} {ds es : List PyData}, ImAll H vs ds → ImAll H us es → ImAll H (vs ++ us) (ds ++ es)
  | _, _, _, _, .nil, b => b
  | _, _, _, _, .cons h a, b => .cons h (ImAll.append a b)
theorem ImAll.get {H : Hp} : ∀ {vs : List V} {ds : List PyData} {i : Nat} {d : PyData}, ImAll H vs ds → ds[i]? = some d → ∃ v, vs[i]? = some v ∧ Im H v d
  | _, _, 0, _, .cons h _, e => by
    cases e
    exact ⟨_, rfl, h⟩
  | _, _, i + 1, _, .cons _ a, e => by
    rw [List.getElem?_cons_succ] at e
    rw [List.getElem?_cons_succ]
    exact ImAll.get a e
theorem ImAll.take {H : Hp} : ∀ {vs : List V} {ds : List PyData} (i : Nat), ImAll H vs ds → ImAll H (vs.take i) (ds.take i)
  | _, _, 0, _ => by
    rw [List.take_zero, List.take_zero]
    exact .nil
  | _, _, _ + 1, .nil => by
    rw [List.take_nil, List.take_nil]
    exact .nil
  | _, _, i + 1, .cons h a => .cons h (ImAll.take i a)
theorem ImAll.snoc {H : Hp} {vs : List V} {ds : List PyData} {v : V} {d : PyData} (a : ImAll H vs ds) (h : Im H v d) : ImAll H (vs ++ [v]) (ds ++ [d]) := a.append (.cons h .nil)
theorem ImAll.rev {H : Hp} : ∀ {vs : List V} {ds : List PyData}, ImAll H vs ds → ImAll H vs.reverse ds.reverse
  | _, _, .nil => .nil
  | _, _, .cons h a => by
    rw [List.reverse_cons, List.reverse_cons]
    exact (ImAll.rev a).snoc h
mutual
/-- all sequences are short -/
def wide : PyData → Bool
  | .list xs => decide (xs.length ≤ 1000000) && wideAll xs
  | .tuple xs => decide (xs.length ≤ 1000000) && wideAll xs
  | .none => true
  | .bool _ => true
  | .int _ => true
  | .str _ => true
  | .dict _ => false
def wideAll : List PyData → Bool
  | [] => true
  | x :: r => wide x && wideAll r
end
/-- what a comparison asks of data: sizes -/
def Lay (n : Nat) (d : PyData) : Prop := d.canLay0 = true ∧ d.depth ≤ n ∧ wide d = true
theorem lay_all : ∀ {n : Nat} {ds : List PyData}, (∀ d ∈ ds, Lay n d) → PyData.canLayAll0 ds = true ∧ PyData.depthAll ds ≤ n ∧ wideAll ds = true
  | n, [], _ => ⟨by simp [PyData.canLayAll0], by simp [PyData.depthAll], by simp [wideAll]⟩
  | n, d :: r, h => by
    have h1 := h d List.mem_cons_self
    have h2 := lay_all fun e he => h e (List.mem_cons_of_mem d he)
    refine ⟨by simp [PyData.canLayAll0, h1.1, h2.1], ?_, by simp [wideAll, h1.2.2, h2.2.2]⟩
    simp only [PyData.depthAll]
    exact Nat.max_le.mpr ⟨h1.2.1, h2.2.1⟩
theorem lay_tuple {n : Nat} {ds : List PyData} (hl : ds.length ≤ 1000000) (h : ∀ d ∈ ds, Lay n d) : Lay (n + 1) (.tuple ds) := by
  have q := lay_all h
  exact ⟨by simp [PyData.canLay0, q.1], by simp only [PyData.depth]; omega, by simp only [wide, q.2.2, decide_eq_true hl]; rfl⟩
theorem lay_list {n : Nat} {ds : List PyData} (hl : ds.length ≤ 1000000) (h : ∀ d ∈ ds, Lay n d) : Lay (n + 1) (.list ds) := by
  have q := lay_all h
  exact ⟨by simp [PyData.canLay0, q.1], by simp only [PyData.depth]; omega, by simp only [wide, q.2.2, decide_eq_true hl]; rfl⟩
theorem Lay.mono {n m : Nat} {d : PyData} (h : Lay n d) (l : n ≤ m) : Lay m d := ⟨h.1, Nat.le_trans h.2.1 l, h.2.2⟩
theorem Lay.shaped {n : Nat} {d : PyData} (h : Lay n d) (l : n ≤ 64) : SeqAt.shaped d = true := by
  unfold SeqAt.shaped
  rw [h.1, decide_eq_true (Nat.le_trans h.2.1 l)]
  rfl
theorem Lay.refl {n : Nat} {d : PyData} (h : Lay n d) : PyData.eqv d d = true := SeqAt.eqv_refl _ h.1
theorem lay_int (i : Int) : Lay 0 (.int i) := ⟨by simp [PyData.canLay0], by simp [PyData.depth], by simp [wide]⟩
theorem lay_str {x : Str} (h : PyData.strOk x = true) : Lay 0 (.str x) := ⟨by simp [PyData.canLay0, h], by simp [PyData.depth], by simp [wide]⟩
theorem lay_none : Lay 0 .none := ⟨by simp [PyData.canLay0], by simp [PyData.depth], by simp [wide]⟩
theorem lay_bool (b : Bool) : Lay 0 (.bool b) := ⟨by simp [PyData.canLay0], by simp [PyData.depth], by simp [wide]⟩
theorem wide_get {ds : List PyData} {i : Nat} {d : PyData} : wideAll ds = true → ds[i]? = some d → wide d = true := by
  induction ds generalizing i with
  | nil => intro _ h; simp at h
  | cons x r ih =>
    intro hw h
    simp only [wideAll, Bool.and_eq_true] at hw
    cases i with
    | zero => cases h; exact hw.1
    | succ i => exact ih (i := i) hw.2 (by rw [List.getElem?_cons_succ] at h; exact h)
/-- view + (event,) -/
theorem cat_ev {K : PySem.W.Frag} {H : Hp} {v t u : Addr} {xs : List V} {ds : List PyData} {e : PyData} {Q : VK} (hv : H v = some (.tup xs)) (hA : ImAll H xs ds) (he : Im H (.ref t) e) (hu : H u = some (.tup [.ref t])) (hz : xs.length ≤ 900)
    (k : ∀ (p : Addr) (H' : Hp), Same H H' → Im H' (.ref p) (.tuple (ds ++ [e])) → Q (.ref p) H') : rCatA K (.ref v) (.ref u) H Q := by
  refine ⟨v, u, xs, [.ref t], rfl, rfl, SqT.of hv, SqT.of hu, by show xs.length + 1 ≤ sizeLine; exact small_le (by omega), fun z => ?_, fun _ z => (by cases z), fun _ _ p hp => ?_⟩
  · subst z
    cases hA
    exact k u H (Same.refl H) (.tup hu (.cons he .nil))
  · exact k p _ (same_upd hp) (.tup upd_same ((hA.snoc he).keep (keepT_of (same_upd hp))))
theorem upd2_same {H : Hp} {t u : Addr} {o o' : HO} (ht : H t = none) (hu : upd H t o u = none) : Same H (upd (upd H t o) u o') := (same_upd ht).trans (same_upd hu)


/-- the drawing pool at p: the script's cells at c, five numbers -/
def Pool (H : Hp) (p c : Addr) (b : Int) : Prop := ∃ (ns : List Int) (i r s t : Int), H p = some (.lst [.ref c, .int i, .int r, .int s, .int t, .int b]) ∧ H c = some (.lst (ns.map V.int)) ∧ 0 ≤ i ∧ c ≠ p
def But (p : Addr) (H H' : Hp) : Prop := ∀ b o, b ≠ p → H b = some o → H' b = some o
theorem But.refl (p : Addr) (H : Hp) : But p H H := fun _ _ _ h => h
theorem But.trans {p : Addr} {H H1 H2 : Hp} (a : But p H H1) (b : But p H1 H2) : But p H H2 := fun c o n h => b c o n (a c o n h)
theorem but_of {p : Addr} {H H' : Hp} (s : Same H H') : But p H H' := fun b o _ h => s b o h
theorem but_upd {p : Addr} {H : Hp} {o : HO} : But p H (upd H p o) := fun b x n e => by rw [upd_ne n]; exact e
/-- what stood before the list at p was made stays -/
theorem But.same {p : Addr} {H0 H H' : Hp} (b : But p H H') (s : Same H0 H) (n : H0 p = none) : Same H0 H' := fun c o e => b c o (ne_of_none e n) (s c o e)
theorem But.keepT {p : Addr} {xs : List V} {H H' : Hp} (b : But p H H') (h : H p = some (.lst xs)) : KeepT H H' := fun c ys e => b c _ (fun z => by rw [z, h] at e; cases e) e
theorem Pool.keepT {p c : Addr} {b : Int} {H H' : Hp} (h : Pool H p c b) (k : But p H H') : KeepT H H' := by
  obtain ⟨ns, i, r, s, t, hp, _⟩ := h
  exact k.keepT hp
theorem Pool.same {p c : Addr} {b : Int} {H H' : Hp} (h : Pool H p c b) (k : Same H H') : Pool H' p c b := by
  obtain ⟨ns, i, r, s, t, hp, hc, h0, n⟩ := h
  exact ⟨ns, i, r, s, t, k _ _ hp, k _ _ hc, h0, n⟩
theorem Pool.upd {p c q : Addr} {b : Int} {H : Hp} (h : Pool H p c b) (n1 : q ≠ p) (n2 : q ≠ c) (o : HO) : Pool (L2.upd H q o) p c b := by
  obtain ⟨ns, i, r, s, t, hp, hc, h0, n⟩ := h
  exact ⟨ns, i, r, s, t, by rw [upd_ne n1.symm]; exact hp, by rw [upd_ne n2.symm]; exact hc, h0, n⟩
theorem Pool.ne2 {p c q : Addr} {b : Int} {H : Hp} (h : Pool H p c b) (e : H q = none) : q ≠ c := by
  obtain ⟨ns, i, r, s, t, hp, hc, _⟩ := h
  exact fun z => by rw [z, hc] at e; cases e
theorem Pool.ne {p c q : Addr} {b : Int} {H : Hp} (h : Pool H p c b) (e : H q = none) : q ≠ p := by
  obtain ⟨ns, i, r, s, t, hp, _⟩ := h
  exact fun z => by rw [z, hp] at e; cases e
/-- data of any make: tuples and lists that are tracked -/
inductive Da (H : Hp) : V → PyData → Prop
  | non : Da H .non .none
  | bl (b : Bool) : Da H (.bl b) (.bool b)
  | int (i : Int) : Da H (.int i) (.int i)
  | str (x : Str) : Da H (.str x) (.str x)
  | tup {a : Addr} {xs : List V} {ds : List PyData} : H a = some (.tup xs) → xs.length = ds.length → (∀ (i : Nat) v d, xs[i]? = some v → ds[i]? = some d → Da H v d) → Da H (.ref a) (.tuple ds)
  | lst {a : Addr} {xs : List V} {ds : List PyData} : H a = some (.lst xs) → xs.length = ds.length → (∀ (i : Nat) v d, xs[i]? = some v → ds[i]? = some d → Da H v d) → Da H (.ref a) (.list ds)
mutual
theorem Im.da {H : Hp} : ∀ {v : V} {d : PyData}, Im H v d → Da H v d
  | _, _, .non => .non
  | _, _, .bl b => .bl b
  | _, _, .int i => .int i
  | _, _, .str x => .str x
  | _, _, .tup h a => .tup h a.len (ImAll.da a)
theorem ImAll.da {H : Hp} : ∀ {vs : List V} {ds : List PyData}, ImAll H vs ds → ∀ (i : Nat) v d, vs[i]? = some v → ds[i]? = some d → Da H v d
  | _, _, .nil => fun i v d h _ => by simp at h
  | _, _, .cons h a => fun i v d h1 h2 => match i, h1, h2 with
    | 0, h1, h2 => by
      cases h1
      cases h2
      exact Im.da h
    | i + 1, h1, h2 => ImAll.da a i v d (by rw [List.getElem?_cons_succ] at h1; exact h1) (by rw [List.getElem?_cons_succ] at h2; exact h2)
end
theorem Da.strs {H : Hp} {a : Addr} {ys : List Str} (h : H a = some (.lst (ys.map V.str))) : Da H (.ref a) (.list (ys.map PyData.str)) := by
  refine .lst h (by rw [List.length_map, List.length_map]) fun i v d h1 h2 => ?_
  rw [List.getElem?_map] at h1 h2
  cases e : ys[i]? with
  | none => rw [e] at h1; cases h1
  | some y =>
    rw [e] at h1 h2
    cases h1
    cases h2
    exact .str y
theorem depth_get {ds : List PyData} {i : Nat} {d : PyData} : ds[i]? = some d → d.depth ≤ PyData.depthAll ds := by
  induction ds generalizing i with
  | nil => intro h; simp at h
  | cons x r ih =>
    intro h
    simp only [PyData.depthAll]
    cases i with
    | zero => cases h; exact Nat.le_max_left _ _
    | succ i => exact Nat.le_trans (ih (i := i) (by rw [List.getElem?_cons_succ] at h; exact h)) (Nat.le_max_right _ _)

theorem d_room {A : Around} {k : Nat} (h : Room k A) : A.units + 1 < cLine := by
  have := h.un
  omega
theorem eq_room {A : Around} {k : Nat} (h : Room k A) : A.units + 64 < cLine := by
  have := h.un
  omega
def signL : List Str := ["+", "-", "*", "/", "mod", "<", "=", "+", "-"]
def opL : List Str := ["+", "-", "*", "/", "mod", "<", "="]
/-- an expression -/
inductive Ex where
  | num (n : Int) | var (x : Str) | long | view (e : Ex) | pick (x : Str) (a b : Ex) | op (s : Str) (a b : Ex)
def Ex.deep : Ex → Nat
  | .num _ => 1 | .var _ => 1 | .long => 1 | .view e => e.deep + 1 | .pick _ a b => max a.deep b.deep + 1 | .op _ a b => max a.deep b.deep + 1
def Ex.Wf (ns ps : List Str) : Ex → Prop
  | .num n => 0 ≤ n ∧ n < 65536
  | .var x => x ∈ ns
  | .long => True
  | .view e => e.Wf ns ps
  | .pick x a b => x ∈ ps ∧ a.Wf ns ps ∧ b.Wf ns ps
  | .op s a b => s ∈ opL ∧ a.Wf ns ps ∧ b.Wf ns ps
/-- it stands at v -/
inductive Ev (H : Hp) : V → Ex → Prop
  | num {a : Addr} {n : Int} : H a = some (.tup [.str "number", .int n]) → Ev H (.ref a) (.num n)
  | var {a : Addr} {x : Str} : H a = some (.tup [.str "variable", .str x]) → Ev H (.ref a) (.var x)
  | long {a : Addr} : H a = some (.tup [.str "long"]) → Ev H (.ref a) .long
  | view {a : Addr} {v : V} {e : Ex} : H a = some (.tup [.str "view", v]) → Ev H v e → Ev H (.ref a) (.view e)
  | pick {a : Addr} {x : Str} {v w : V} {e f : Ex} : H a = some (.tup [.str "pick", .str x, v, w]) → Ev H v e → Ev H w f → Ev H (.ref a) (.pick x e f)
  | op {a : Addr} {s : Str} {v w : V} {e f : Ex} : H a = some (.tup [.str s, v, w]) → Ev H v e → Ev H w f → Ev H (.ref a) (.op s e f)
theorem Ev.keep {H H' : Hp} (k : KeepT H H') : ∀ {v : V} {e : Ex}, Ev H v e → Ev H' v e
  | _, _, .num h => .num (k _ _ h)
  | _, _, .var h => .var (k _ _ h)
  | _, _, .long h => .long (k _ _ h)
  | _, _, .view h a => .view (k _ _ h) (Ev.keep k a)
  | _, _, .pick h a b => .pick (k _ _ h) (Ev.keep k a) (Ev.keep k b)
  | _, _, .op h a b => .op (k _ _ h) (Ev.keep k a) (Ev.keep k b)
def comb (s : Str) (a b : Int) : Int :=
  if s = "+" then (a + b) % 65536 else if s = "-" then max (a - b) 0 else if s = "*" then a * b % 65536 else if s = "/" then (if 0 < b then a / b else 0) else
  if s = "mod" then (if 0 < b then a % b else 0) else if s = "<" then (if a < b then 1 else 0) else (if a = b then 1 else 0)
def Ex.val (tb : Str → Int) (on : Str → Bool) (sn : List Int) : Ex → Int
  | .num n => n
  | .var x => tb x
  | .long => min (sn.length : Int) 65535
  | .view e => sn.getD (e.val tb on sn).toNat 0
  | .pick x a b => if on x = true then a.val tb on sn else b.val tb on sn
  | .op s a b => comb s (a.val tb on sn) (b.val tb on sn)
def Bd (n : Int) : Prop := 0 ≤ n ∧ n < 65536
theorem comb_bd {s : Str} {a b : Int} (ha : Bd a) (hb : Bd b) : Bd (comb s a b) := by
  obtain ⟨a0, a1⟩ := ha
  obtain ⟨b0, b1⟩ := hb
  unfold comb Bd
  split
  · omega
  split
  · omega
  split
  · exact ⟨Int.emod_nonneg _ (by decide), Int.emod_lt_of_pos _ (by decide)⟩
  split
  · split
    · rename_i h
      have h1 : 0 ≤ a / b := Int.ediv_nonneg a0 b0
      have h2 : a / b ≤ a := Int.ediv_le_self _ a0
      omega
    · decide
  split
  · split
    · rename_i h
      have h1 : 0 ≤ a % b := Int.emod_nonneg _ (by omega)
      have h2 : a % b < b := Int.emod_lt_of_pos _ h
      omega
    · decide
  split
  · split <;> decide
  · split <;> decide
theorem getD_bd {sn : List Int} (h : ∀ n ∈ sn, Bd n) (i : Nat) : Bd (sn.getD i 0) := by
  rw [List.getD_eq_getElem?_getD]
  cases e : sn[i]? with
  | none => exact ⟨by decide, by decide⟩
  | some n => exact h n (List.mem_of_getElem? e)
theorem val_bd {ns ps : List Str} {tb : Str → Int} {on : Str → Bool} {sn : List Int} (ht : ∀ x ∈ ns, Bd (tb x)) (hs : ∀ n ∈ sn, Bd n) : ∀ e : Ex, e.Wf ns ps → Bd (e.val tb on sn)
  | .num n, h => h
  | .var x, h => ht x h
  | .long, _ => by
    show Bd (min (sn.length : Int) 65535)
    unfold Bd
    omega
  | .view e, h => getD_bd hs _
  | .pick x a b, h => by
    show Bd (if on x = true then a.val tb on sn else b.val tb on sn)
    split
    · exact val_bd ht hs a h.2.1
    · exact val_bd ht hs b h.2.2
  | .op s a b, h => comb_bd (val_bd ht hs a h.2.1) (val_bd ht hs b h.2.2)
/-- the tables and what is seen -/
def Tb (H : Hp) (ns ps : List Str) (t o : Addr) (tb : Str → Int) (on : Str → Bool) : Prop :=
  (∃ kvs, H t = some (.dK kvs) ∧ ∀ x ∈ ns, valV kvs (.inr x) = some (.int (tb x)) ∧ Bd (tb x)) ∧ ∃ kvs, H o = some (.dK kvs) ∧ ∀ x ∈ ps, valV kvs (.inr x) = some (.bl (on x))
theorem Tb.same {H H' : Hp} {ns ps : List Str} {t o : Addr} {tb : Str → Int} {on : Str → Bool} (h : Tb H ns ps t o tb on) (s : Same H H') : Tb H' ns ps t o tb on := by
  obtain ⟨⟨k1, h1, h2⟩, k2, h3, h4⟩ := h
  exact ⟨⟨k1, s _ _ h1, h2⟩, k2, s _ _ h3, h4⟩
theorem sqT_same {K : PySem.W.Frag} {H H' : Hp} {a : Addr} {xs : List V} (h : SqT K H a xs) (s : Same H H') : SqT K H' a xs := by
  rcases h with (h | ⟨o, h⟩) | h
  · exact .inl (.inl (s _ _ h))
  · exact .inl (.inr ⟨o, s _ _ h⟩)
  · exact .inr h
theorem opL_ne {s : Str} (h : s ∈ opL) : s ≠ "number" ∧ s ≠ "variable" ∧ s ≠ "long" ∧ s ≠ "view" ∧ s ≠ "pick" := by
  have : opL.all (fun s => decide (s ≠ "number" ∧ s ≠ "variable" ∧ s ≠ "long" ∧ s ≠ "view" ∧ s ≠ "pick")) = true := by decide +kernel
  exact of_decide_eq_true (List.all_eq_true.mp this s h)
theorem iteS {a : Str} {A B : Prop} (h : A) : if decide (V.str a = V.str a) = true then A else B := by
  rw [decide_eq_true rfl]
  exact iteT h
theorem iteN {a b : Str} {A B : Prop} (n : a ≠ b) (h : B) : if decide (V.str a = V.str b) = true then A else B := by
  rw [decide_eq_false fun z => n (V.str.inj z)]
  exact iteF h
theorem dget_of {H : Hp} {t : Addr} {x : Str} {v : V} {kvs : List (Key × V)} (h : H t = some (.dK kvs)) (e : valV kvs (.inr x) = some v) : DGet H t (.str x) (some v) := by
  rw [← e]
  exact DGet.k (k := .inr x) h
theorem num_ne : ("variable" : Str) ≠ "number" ∧ ("long" : Str) ≠ "number" ∧ ("view" : Str) ≠ "number" ∧ ("pick" : Str) ≠ "number" ∧ ("long" : Str) ≠ "variable" ∧ ("view" : Str) ≠ "variable" ∧ ("pick" : Str) ≠ "variable" ∧ ("view" : Str) ≠ "long" ∧ ("pick" : Str) ≠ "long" ∧ ("pick" : Str) ≠ "view" := by decide +kernel
theorem str_ne {a b : Str} (h : a ≠ b) : ¬ decide (V.str a = V.str b) = true := fun z => h (V.str.inj (of_decide_eq_true z))
theorem str_eq {a b : Str} (z : decide (V.str a = V.str b) = true) : a = b := V.str.inj (of_decide_eq_true z)
def ldS : Str := "abcdefghijklmnopqrstuvwxyz0123456789"
theorem strs_flat (ts : List Str) : (ts.map V.str).all flatV = true := by
  rw [List.all_eq_true]
  intro v m
  obtain ⟨x, _, rfl⟩ := List.mem_map.mp m
  rfl
theorem app_len (a b : Str) : (a ++ b).length = a.length + b.length := by
  show (a ++ b).cps.toList.length = a.cps.toList.length + b.cps.toList.length
  have : (a ++ b).cps.toList = a.cps.toList ++ b.cps.toList := by
    show (a.cps ++ b.cps).toList = _
    simp
  rw [this, List.length_append]
theorem pickS {z : Str} {r : Int} (h0 : 0 ≤ r) (h1 : r < (z.length : Int)) : ∃ c, c ∈ z.cps.toList ∧ atI z.cps.toList r = some c := by
  have hz : z.length = z.cps.toList.length := rfl
  have hlt : r.toNat < z.cps.toList.length := by omega
  exact ⟨z.cps.toList[r.toNat], List.getElem_mem hlt, at_ofG (j := r.toNat) (by omega) (List.getElem?_eq_getElem hlt)⟩
theorem pick {ss : List Str} {r : Int} (h0 : 0 ≤ r) (h1 : r < (ss.length : Int)) : ∃ w, w ∈ ss ∧ atI (ss.map V.str) r = some (.str w) := by
  have hlt : r.toNat < ss.length := by omega
  refine ⟨ss[r.toNat], List.getElem_mem hlt, at_ofG (j := r.toNat) (by omega) ?_⟩
  rw [List.getElem?_map, List.getElem?_eq_getElem hlt]
  rfl
theorem small_str {k : Int} (h0 : 0 ≤ k) (h1 : k < 1000) : (Str.ofString (toString k)).length ≤ 6 ∧ k.natAbs.log2 < 1920 := by
  obtain ⟨m, rfl⟩ := Int.eq_ofNat_of_zero_le h0
  constructor
  · have e : (Str.ofString (toString ((m : Nat) : Int))).cps.toList = TL.numL m := TL.tl_num m
    show (Str.ofString (toString ((m : Nat) : Int))).cps.toList.length ≤ 6
    rw [e]
    exact TL.numL_len (by decide) (by omega)
  · have : m.log2 ≤ 1919 := PySem.W.mg_log (Nat.lt_of_lt_of_le (show m < 1000 by omega) (by decide +kernel))
    show m.log2 < 1920
    omega
open Classical in
/-- the keys of names, each once -/
noncomputable def dk (l : List Str) : List Key := l.foldl (fun acc x => if Sum.inr x ∈ acc then acc else acc ++ [Sum.inr x]) []
open Classical in
theorem dk_snoc (l : List Str) (x : Str) : dk (l ++ [x]) = if Sum.inr x ∈ dk l then dk l else dk l ++ [Sum.inr x] := by
  unfold dk
  rw [List.foldl_append]
  rfl
open Classical in
theorem put_keys (kvs : List (Key × V)) (k : Key) (v : V) : (putK kvs k v).map (·.1) = if k ∈ kvs.map (·.1) then kvs.map (·.1) else kvs.map (·.1) ++ [k] := by
  unfold putK
  by_cases h : (kvs.any fun kv => decide (kv.1 = k)) = true
  · have hm : k ∈ kvs.map (·.1) := by
      obtain ⟨p, m, e⟩ := List.any_eq_true.mp h
      exact List.mem_map.mpr ⟨p, m, of_decide_eq_true e⟩
    rw [if_pos h, if_pos hm, List.map_map]
    refine List.map_congr_left fun p _ => ?_
    show (if p.1 = k then (p.1, v) else p).1 = p.1
    split <;> rfl
  · have hm : k ∉ kvs.map (·.1) := fun m => by
      obtain ⟨p, m, e⟩ := List.mem_map.mp m
      exact h (List.any_eq_true.mpr ⟨p, m, decide_eq_true e⟩)
    rw [if_neg h, if_neg hm, List.map_append]
    rfl
theorem mem_put {kvs : List (Key × V)} {k : Key} {v : V} {p : Key × V} (h : p ∈ putK kvs k v) : p = (k, v) ∨ p ∈ kvs := by
  unfold putK at h
  split at h
  · obtain ⟨q, m, e⟩ := List.mem_map.mp h
    by_cases c : q.1 = k
    · rw [if_pos c] at e
      exact .inl (by rw [← e, c])
    · rw [if_neg c] at e
      exact .inr (by rw [← e]; exact m)
  · rcases List.mem_append.mp h with m | m
    · exact .inr m
    · exact .inl (List.mem_singleton.mp m)
/-- a table of the names l -/
def TI (G : V → Prop) (kt : List (Key × V)) (l : List Str) : Prop := kt.map (·.1) = dk l ∧ ∀ x ∈ l, ∃ v, valV kt (.inr x) = some v ∧ G v
theorem TI.nil (G : V → Prop) : TI G [] [] := ⟨rfl, fun x m => by cases m⟩
theorem TI.put {G : V → Prop} {kt : List (Key × V)} {l : List Str} {x : Str} {v : V} (h : TI G kt l) (g : G v) : TI G (putK kt (.inr x) v) (l ++ [x]) := by
  refine ⟨by rw [put_keys, dk_snoc, h.1], fun y m => ?_⟩
  rw [valV_put]
  by_cases c : (Sum.inr y : Key) = Sum.inr x
  · exact ⟨v, if_pos c, g⟩
  · rw [if_neg c]
    rcases List.mem_append.mp m with m | m
    · exact h.2 y m
    · exact absurd (congrArg Sum.inr (List.mem_singleton.mp m)) c
open Classical in
theorem dk_len (l : List Str) : (dk l).length ≤ l.length := by
  have go : ∀ (l : List Str) (acc : List Key), (l.foldl (fun acc x => if Sum.inr x ∈ acc then acc else acc ++ [Sum.inr x]) acc).length ≤ acc.length + l.length := by
    intro l
    induction l with
    | nil => intro acc; exact Nat.le_refl _
    | cons a r ih =>
      intro acc
      refine Nat.le_trans (ih _) ?_
      rw [List.length_cons]
      show (if Sum.inr a ∈ acc then acc else acc ++ [Sum.inr a]).length + r.length ≤ acc.length + (r.length + 1)
      split
      · omega
      · rw [List.length_append]
        show acc.length + 1 + _ ≤ _
        omega
  have := go l []
  simpa [dk] using this
theorem TI.len {G : V → Prop} {kt : List (Key × V)} {l : List Str} (h : TI G kt l) : kt.length ≤ l.length := by
  have e : (kt.map (·.1)).length = kt.length := List.length_map _
  rw [← e, h.1]
  exact dk_len l
/-- a copy of the table's rows of the names l -/
def CI (kt kp : List (Key × V)) (l : List Str) : Prop := kp.map (·.1) = dk l ∧ (∀ p ∈ kp, valV kt p.1 = some p.2 ∧ flatB p.2 = true) ∧ ∀ x ∈ l, valV kp (.inr x) = valV kt (.inr x)
theorem CI.nil (kt : List (Key × V)) : CI kt [] [] := ⟨rfl, fun p m => (by cases m), fun x m => (by cases m)⟩
theorem CI.put {kt kp : List (Key × V)} {l : List Str} {x : Str} {v : V} (h : CI kt kp l) (e : valV kt (.inr x) = some v) (f : flatB v = true) : CI kt (putK kp (.inr x) v) (l ++ [x]) := by
  refine ⟨by rw [put_keys, dk_snoc, h.1], fun p m => ?_, fun y m => ?_⟩
  · rcases mem_put m with rfl | m
    · exact ⟨e, f⟩
    · exact h.2.1 p m
  · rw [valV_put]
    by_cases c : (Sum.inr y : Key) = Sum.inr x
    · rw [if_pos c, c, e]
    · rw [if_neg c]
      rcases List.mem_append.mp m with m | m
      · exact h.2.2 y m
      · exact absurd (congrArg Sum.inr (List.mem_singleton.mp m)) c
theorem CI.len {kt kp : List (Key × V)} {l : List Str} (h : CI kt kp l) : kp.length ≤ l.length := by
  have e : (kp.map (·.1)).length = kp.length := List.length_map _
  rw [← e, h.1]
  exact dk_len l
def GN (v : V) : Prop := ∃ n, v = .int n ∧ Bd n
def GB (v : V) : Prop := ∃ b, v = .bl b
theorem copy_eq {K : PySem.W.Frag} {H : Hp} {G : V → Prop} {kt kp : List (Key × V)} {l : List Str} {t d : Addr} (h : TI G kt l) (g : CI kt kp l) (ht : H t = some (.dK kt)) (hd : H d = some (.dK kp)) : EqV K H 2 (.ref d) (.ref t) := by
  refine .inr (.inr (.inr ⟨d, t, kp, kt, rfl, rfl, hd, ht, ?_, fun p m => ⟨p.2, (g.2.1 p m).1, .inl ⟨rfl, (g.2.1 p m).2⟩⟩⟩))
  have e1 : (kp.map (·.1)).length = kp.length := List.length_map _
  have e2 : (kt.map (·.1)).length = kt.length := List.length_map _
  rw [← e1, ← e2, h.1, g.1]
def tbOf (kt : List (Key × V)) (x : Str) : Int := match valV kt (.inr x) with
  | some (.int n) => n
  | _ => 0
def onOf (ko : List (Key × V)) (x : Str) : Bool := match valV ko (.inr x) with
  | some (.bl b) => b
  | _ => false
theorem tb_of {kt : List (Key × V)} {l : List Str} (h : TI GN kt l) : ∀ x ∈ l, valV kt (.inr x) = some (.int (tbOf kt x)) ∧ Bd (tbOf kt x) := fun x m => by
  obtain ⟨v, e, n, rfl, b⟩ := h.2 x m
  have k : tbOf kt x = n := by
    unfold tbOf
    rw [e]
  rw [k]
  exact ⟨e, b⟩
theorem on_of {ko : List (Key × V)} {l : List Str} (h : TI GB ko l) : ∀ x ∈ l, valV ko (.inr x) = some (.bl (onOf ko x)) := fun x m => by
  obtain ⟨v, e, n, rfl⟩ := h.2 x m
  have k : onOf ko x = n := by
    unfold onOf
    rw [e]
  rw [k]
  exact e
theorem take_snoc {ns : List Str} {i : Nat} {x : Str} (h : ns[i]? = some x) : ns.take (i + 1) = ns.take i ++ [x] := by
  rw [List.take_add_one, h]
  rfl
theorem str_of_map {ns : List Str} {i : Nat} {y : V} (hi : (ns.map V.str)[i]? = some y) : ∃ z, ns[i]? = some z ∧ y = V.str z := by
  rw [List.getElem?_map] at hi
  cases e : ns[i]? with
  | none => rw [e] at hi; cases hi
  | some u => rw [e] at hi; exact ⟨u, rfl, (Option.some.inj hi).symm⟩
/-- all that the law has made -/
structure Mid (H : Hp) (p t o sa pl d1 d2 : Addr) (v : V) (e : Ex) (kt ko kp kq : List (Key × V)) (sn : List Int) : Prop where
  ev : Ev H v e
  ht : H t = some (.dK kt)
  ho : H o = some (.dK ko)
  hs : H sa = some (.tup (sn.map V.int))
  hp : H pl = some (.lst [.ref d1, .ref d2])
  h1 : H d1 = some (.dK kp)
  h2 : H d2 = some (.dK kq)
  nt : t ≠ p
  no : o ≠ p
  ns : sa ≠ p
  np : pl ≠ p
  n1 : d1 ≠ p
  n2 : d2 ≠ p
theorem Mid.but {H H' : Hp} {p t o sa pl d1 d2 : Addr} {v : V} {e : Ex} {kt ko kp kq : List (Key × V)} {sn : List Int} (m : Mid H p t o sa pl d1 d2 v e kt ko kp kq sn) (b : But p H H') (k : KeepT H H') : Mid H' p t o sa pl d1 d2 v e kt ko kp kq sn :=
  ⟨m.ev.keep k, b _ _ m.nt m.ht, b _ _ m.no m.ho, b _ _ m.ns m.hs, b _ _ m.np m.hp, b _ _ m.n1 m.h1, b _ _ m.n2 m.h2, m.nt, m.no, m.ns, m.np, m.n1, m.n2⟩
theorem Mid.same {H H' : Hp} {p t o sa pl d1 d2 : Addr} {v : V} {e : Ex} {kt ko kp kq : List (Key × V)} {sn : List Int} (m : Mid H p t o sa pl d1 d2 v e kt ko kp kq sn) (s : Same H H') : Mid H' p t o sa pl d1 d2 v e kt ko kp kq sn :=
  m.but (but_of s) (keepT_of s)
/-- (0,) * k, k up to 100000 -/
def rRepW (K : PySem.W.Frag) : R2 := fun x y H Q => ∃ l k, x = .ref l ∧ y = .int k ∧ SqT K H l [.int 0] ∧ 2 ≤ k ∧ k ≤ 100000 ∧ ∀ p, H p = none → Q (.ref p) (upd H p (.tup (List.replicate k.toNat (.int 0))))
theorem op_repW {X : Cx} : OpR X (binaryOp .Mult) (rRepW X.K) := by
  intro pins s σ H x y v u Q I rx ry hyp
  obtain ⟨l, k, rfl, rfl, hT, k1, k2, q⟩ := hyp
  cases rx
  obtain ⟨tk, rfl⟩ := ry
  obtain ⟨its, rv, ⟨⟨oc, od, oda, osl⟩, g1, g2, m, g3⟩, _⟩ := I.tuple hT
  simp only at g2 g3
  subst g2 g3
  obtain ⟨w0, rfl⟩ : ∃ w0, its = [w0] := by
    cases rv with
    | cons a b => cases b; exact ⟨_, rfl⟩
  have hz : sizeLine = 16777216 := sizeLine_eq
  have e0 := size_rep [w0] k.toNat
  have e1 : (List.replicate k.toNat [w0]).flatten.length = k.toNat := by simp
  have y0 : (decide (k < -(2 ^ 63)) || decide (k ≥ 2 ^ 63)) = false := by
    rw [Bool.or_eq_false_iff, decide_eq_false_iff_not, decide_eq_false_iff_not]
    omega
  have y1 : ([w0].toArray.isEmpty || k == 1) = false := by
    rw [Bool.or_eq_false_iff]
    exact ⟨rfl, beq_eq_false_iff_ne.mpr (by omega)⟩
  have y2 : (decide (k ≤ 0) || [w0].toArray.isEmpty) = false := by
    rw [Bool.or_eq_false_iff, decide_eq_false_iff_not]
    exact ⟨by omega, rfl⟩
  have y3 : ¬ (([w0].toArray.size : Nat) : Int) * k > (2 ^ 63 - 1) / 8 := by
    show ¬ (1 : Int) * k > (2 ^ 63 - 1) / 8
    omega
  have y4 : Builtin.Tuple.tupleTooMany ((([w0].toArray.size : Nat) : Int) * k) = false := by
    show decide ((1 : Int) * k > (sizeLine : Int)) = false
    rw [decide_eq_false_iff_not]
    omega
  have y5 : (List.foldl (fun x1 x2 => x1 ++ x2) #[] (List.replicate k.toNat [w0].toArray)).size ≤ sizeLine := by
    rw [e0, List.size_toArray, e1]
    omega
  refine wpAny_binaryOp_repeat_ref (T := "tuple") (U := "int") (by decide) ⟨_, g1, rfl⟩ (fun s2 => typeIs_int s2 k tk)
    noFill_tuple_mul F.fills_int_mul F.slot_int_rmul repeat_tuple F.slot_int_index.lookup ?_
  refine call_meets F.slot_int_rmul (typeIs_int s k tk) F.entry_int_rmul (F.args_int_rmul_2 _ _) (int_rmul_tuple k tk l [w0].toArray m od osl) ⟨g1, rfl, ⟨_, g1, rfl⟩, ?_⟩
  refine call_meets F.slot_tuple_mul ⟨_, g1, rfl⟩ F.entry_tuple_mul (F.args_tuple_mul_2 _ _) (tuple_mulW l [w0].toArray m od osl k tk y0 y1 y2 y3 y4 y5) ⟨g1, ?_⟩
  rw [e0]
  refine ⟨.ref s.heap.objs.size, _, I.laid (t' := s.toks) (o := .tup (List.replicate k.toNat (V.int 0))) (fun b ob z => Heap.get?_push_of_some _ z) (Nat.le_refl _) ?_, rfl, q _ (I.hok.fresh (Nat.le_refl _))⟩
  refine ⟨by rw [List.length_replicate]; omega, _, ?_, IsTup.new _ _⟩
  have rr := rv.rep k.toNat
  rw [List.flatten_replicate_singleton] at rr
  exact rr
theorem Pool.butd {p c d : Addr} {b : Int} {H H' : Hp} (h : Pool H p c b) (k : But d H H') (n1 : d ≠ p) (n2 : d ≠ c) : Pool H' p c b := by
  obtain ⟨ns, i, r, s, t, hp, hc, h0, n⟩ := h
  exact ⟨ns, i, r, s, t, k _ _ n1.symm hp, k _ _ n2.symm hc, h0, n⟩
theorem But.keepD {d : Addr} {kvs : List (Key × V)} {H H' : Hp} (b : But d H H') (h : H d = some (.dK kvs)) : KeepT H H' := fun c ys e => b c _ (fun z => by rw [z, h] at e; cases e) e
theorem tb_env {H : Hp} {ns ps : List Str} {t o : Addr} {kt ko : List (Key × V)} (ht : H t = some (.dK kt)) (ho : H o = some (.dK ko)) (h : TI GN kt ns) (g : TI GB ko ps) : Tb H ns ps t o (tbOf kt) (onOf ko) :=
  ⟨⟨kt, ht, tb_of h⟩, ko, ho, on_of g⟩
theorem cp_env {H : Hp} {ns ps : List Str} {t o : Addr} {kt ko kp kq : List (Key × V)} (ht : H t = some (.dK kp)) (ho : H o = some (.dK kq)) (h : TI GN kt ns) (g : TI GB ko ps) (i : CI kt kp ns) (j : CI ko kq ps) : Tb H ns ps t o (tbOf kt) (onOf ko) :=
  ⟨⟨kp, ht, fun x m => ⟨(i.2.2 x m).trans (tb_of h x m).1, (tb_of h x m).2⟩⟩, kq, ho, fun x m => (j.2.2 x m).trans (on_of g x m)⟩

/-! ### names that the law draws -/
def kwL : List Str := ["option", "on", "off", "var", "round", "end", "set", "if", "else", "when", "draw", "first", "second", "show", "both", "pay", "take", "pick", "mod", "player", "keep", "lot", "while", "answer", "view", "long"]
theorem kw_split : Txt.split (("option on off var round end set if else when draw first second show both pay take pick mod player keep lot" : Str) ++ (" while answer view long" : Str)) (" " : Str) = kwL := by decide +kernel
def LetC (c : Nat) : Prop := 97 ≤ c ∧ c ≤ 122
def NmC (c : Nat) : Prop := LetC c ∨ (48 ≤ c ∧ c ≤ 57)
def NmF (x : Str) : Prop := ∃ c r, x.cps.toList = c :: r ∧ LetC c ∧ (∀ d ∈ r, NmC d) ∧ r.length ≤ 11
/-- a name -/
def Nm (x : Str) : Prop := NmF x ∧ x ∉ kwL
theorem NmF.lt {x : Str} (h : NmF x) : ∀ c ∈ x.cps.toList, c < 128 := by
  obtain ⟨c, r, e, h1, h2, _⟩ := h
  intro d m
  rw [e] at m
  rcases List.mem_cons.mp m with rfl | m
  · have := h1.2
    omega
  · rcases h2 d m with h | h
    · have := h.2
      omega
    · omega
theorem NmF.ok {x : Str} (h : NmF x) : PyData.strOk x = true := by
  unfold PyData.strOk
  rw [Array.all_eq_true_iff_forall_mem]
  intro c m
  have := h.lt c (Array.mem_toList_iff.mpr m)
  simp
  omega
theorem NmF.len {x : Str} (h : NmF x) : x.length ≤ 12 := by
  obtain ⟨c, r, e, _, _, h3⟩ := h
  show x.cps.toList.length ≤ 12
  rw [e, List.length_cons]
  omega
theorem app_cps (a b : Str) : (a ++ b).cps.toList = a.cps.toList ++ b.cps.toList := by
  show (a.cps ++ b.cps).toList = _
  simp
def vS (k : Nat) : Str := ("v" : Str) ++ Str.ofString (toString ((k : Nat) : Int))
theorem vS_cps (k : Nat) : (vS k).cps.toList = 118 :: TL.numL k := by
  unfold vS
  have e : (Str.ofString (toString ((k : Nat) : Int))).cps.toList = TL.numL k := TL.tl_num k
  rw [app_cps, e]
  rfl
theorem vS_nm {k : Nat} (h : k < 20) : Nm (vS k) := by
  refine ⟨⟨118, TL.numL k, vS_cps k, ⟨by decide, by decide⟩, fun d m => .inr (TL.numL_digits k d m), ?_⟩, ?_⟩
  · have := TL.numL_len (n := k) (k := 2) (by decide) (by omega)
    omega
  · have : (List.range 20).all (fun k => decide (vS k ∉ kwL)) = true := by decide +kernel
    exact of_decide_eq_true (List.all_eq_true.mp this k (List.mem_range.mpr h))
theorem nodup_le {α : Type} [DecidableEq α] : ∀ {l ts : List α}, l.Nodup → (∀ x ∈ l, x ∈ ts) → l.length ≤ ts.length
  | [], _, _, _ => Nat.zero_le _
  | a :: r, ts, nd, h => by
    rw [List.nodup_cons] at nd
    have ih := nodup_le (l := r) (ts := ts.erase a) nd.2 fun x m => (List.mem_erase_of_ne (fun e => nd.1 (by rw [← e]; exact m))).mpr (h x (List.mem_cons_of_mem _ m))
    have ma := h a List.mem_cons_self
    rw [List.length_erase_of_mem ma] at ih
    have : 0 < ts.length := List.length_pos_of_mem ma
    rw [List.length_cons]
    omega
theorem vS_free {ts : List Str} (h : ts.length < 20) : ¬ ∀ k, k < 20 → vS k ∈ ts := fun z => by
  have nd : ((List.range 20).map vS).Nodup := by decide +kernel
  have := nodup_le nd fun x m => by
    obtain ⟨k, mk, rfl⟩ := List.mem_map.mp m
    exact z k (List.mem_range.mp mk)
  rw [List.length_map, List.length_range] at this
  omega
def ldN : Str := "abcdefghijklmnopqrstuvwxyz0123456789"
theorem ld_let {r : Int} (h0 : 0 ≤ r) (h1 : r < 26) : ∃ c, atI ldN.cps.toList r = some c ∧ LetC c := by
  have hl : ldN.cps.toList.length = 36 := by decide +kernel
  have hlt : r.toNat < ldN.cps.toList.length := by omega
  refine ⟨ldN.cps.toList[r.toNat], at_ofG (j := r.toNat) (by omega) (List.getElem?_eq_getElem hlt), ?_⟩
  have : (List.range 26).all (fun i => decide (97 ≤ ldN.cps.toList.getD i 0 ∧ ldN.cps.toList.getD i 0 ≤ 122)) = true := by decide +kernel
  have := of_decide_eq_true (List.all_eq_true.mp this r.toNat (List.mem_range.mpr (by omega)))
  rw [List.getD_eq_getElem?_getD, List.getElem?_eq_getElem hlt] at this
  exact this
theorem ld_nm {r : Int} (h0 : 0 ≤ r) (h1 : r < 36) : ∃ c, atI ldN.cps.toList r = some c ∧ NmC c := by
  have hl : ldN.cps.toList.length = 36 := by decide +kernel
  have hlt : r.toNat < ldN.cps.toList.length := by omega
  refine ⟨ldN.cps.toList[r.toNat], at_ofG (j := r.toNat) (by omega) (List.getElem?_eq_getElem hlt), ?_⟩
  have : (List.range 36).all (fun i => decide ((97 ≤ ldN.cps.toList.getD i 0 ∧ ldN.cps.toList.getD i 0 ≤ 122) ∨ (48 ≤ ldN.cps.toList.getD i 0 ∧ ldN.cps.toList.getD i 0 ≤ 57))) = true := by decide +kernel
  have := of_decide_eq_true (List.all_eq_true.mp this r.toNat (List.mem_range.mpr (by omega)))
  rw [List.getD_eq_getElem?_getD, List.getElem?_eq_getElem hlt] at this
  exact this
theorem inV_strs {x : Str} : ∀ {l : List Str}, inV (.str x) (l.map V.str) = decide (x ∈ l)
  | [] => by simp [inV]
  | y :: r => by
    have ih := inV_strs (x := x) (l := r)
    unfold inV at ih ⊢
    rw [List.map_cons, List.any_cons, ih]
    have e : eqV (V.str y) (V.str x) = decide (x = y) := by
      show (y == x) = _
      by_cases h : x = y
      · rw [decide_eq_true h, h]
        exact beq_self_eq_true y
      · rw [decide_eq_false h]
        exact beq_eq_false_iff_ne.mpr fun z => h z.symm
    rw [e]
    by_cases h1 : x = y <;> by_cases h2 : x ∈ r <;> simp [h1, h2]
/-- the last one of v0 to v19 that is free -/
def VW (ts : List Str) (x0 : Str) (i : Nat) (x : Str) : Prop := (Nm x ∧ x ∉ ts) ∨ (x = x0 ∧ ∀ k, k < i → vS k ∈ ts)
theorem VW.next {ts : List Str} {x0 x : Str} {i : Nat} (h : VW ts x0 i x) (m : vS i ∈ ts) : VW ts x0 (i + 1) x := by
  rcases h with h | ⟨e, h⟩
  · exact .inl h
  · refine .inr ⟨e, fun k z => ?_⟩
    by_cases c : k = i
    · rw [c]
      exact m
    · exact h k (by omega)
theorem VW.fin {ts : List Str} {x0 x : Str} (h : VW ts x0 20 x) (l : ts.length < 20) : Nm x ∧ x ∉ ts := by
  rcases h with h | ⟨_, h⟩
  · exact h
  · exact absurd h (vS_free l)
theorem vS_val (i : Nat) : ("v" : Str) ++ Str.ofString (toString (0 + (i : Int))) = vS i := by
  rw [Int.zero_add]
  rfl
theorem not_in {x : Str} {l : List Str} (c : (!inV (.str x) (l.map V.str)) = true) : x ∉ l := by
  rw [inV_strs] at c
  exact fun m => by
    rw [decide_eq_true m] at c
    cases c
theorem is_in {x : Str} {l : List Str} (c : ¬ (!inV (.str x) (l.map V.str)) = true) : x ∈ l := by
  rw [inV_strs] at c
  exact Decidable.byContradiction fun m => c (by rw [decide_eq_false m]; rfl)
theorem inv_t {x : Str} {l : List Str} (c : inV (.str x) (l.map V.str) = true) : x ∈ l := by
  rw [inV_strs] at c
  exact of_decide_eq_true c
theorem inv_f {x : Str} {l : List Str} (c : ¬ inV (.str x) (l.map V.str) = true) : x ∉ l := by
  rw [inV_strs] at c
  exact fun m => c (decide_eq_true m)

/-! ### tuples of the program's own run, or of its top -/
def TpK (K : PySem.W.Frag) (H : Hp) (a : Addr) (xs : List V) : Prop := H a = some (.tup xs) ∨ ((∃ o, K.lookup a = some o ∧ o.cls = .type "tuple") ∧ ∀ H', SqT K H' a xs)
theorem TpK.sq {K : PySem.W.Frag} {H : Hp} {a : Addr} {xs : List V} (h : TpK K H a xs) : SqT K H a xs := by
  rcases h with h | h
  · exact SqT.of h
  · exact h.2 H
theorem TpK.keep {K : PySem.W.Frag} {H H' : Hp} {a : Addr} {xs : List V} (k : KeepT H H') (h : TpK K H a xs) : TpK K H' a xs := by
  rcases h with h | h
  · exact .inl (k _ _ h)
  · exact .inr h
theorem TpK.ty {K : PySem.W.Frag} {H : Hp} {a : Addr} {xs : List V} (h : TpK K H a xs) : TyX K H (.ref a) (.type "tuple") := by
  rcases h with h | ⟨⟨o, e, c⟩, _⟩
  · exact .base (.tup h)
  · exact .kTuple e c
inductive DaK (K : PySem.W.Frag) (H : Hp) : V → PyData → Prop
  | non : DaK K H .non .none
  | bl (b : Bool) : DaK K H (.bl b) (.bool b)
  | int (i : Int) : DaK K H (.int i) (.int i)
  | str (x : Str) : DaK K H (.str x) (.str x)
  | tup {a : Addr} {xs : List V} {ds : List PyData} : TpK K H a xs → xs.length = ds.length → (∀ (i : Nat) v d, xs[i]? = some v → ds[i]? = some d → DaK K H v d) → DaK K H (.ref a) (.tuple ds)
  | lst {a : Addr} {xs : List V} {ds : List PyData} : H a = some (.lst xs) → xs.length = ds.length → (∀ (i : Nat) v d, xs[i]? = some v → ds[i]? = some d → DaK K H v d) → DaK K H (.ref a) (.list ds)
theorem Da.toK {K : PySem.W.Frag} {H : Hp} {v : V} {d : PyData} (h : Da H v d) : DaK K H v d := by
  induction h with
  | non => exact .non
  | bl b => exact .bl b
  | int i => exact .int i
  | str x => exact .str x
  | tup h l e ih => exact .tup (.inl h) l ih
  | lst h l e ih => exact .lst h l ih

inductive EvK (K : PySem.W.Frag) (H : Hp) : V → Ex → Prop
  | num {a : Addr} {n : Int} : TpK K H a [.str "number", .int n] → EvK K H (.ref a) (.num n)
  | var {a : Addr} {x : Str} : TpK K H a [.str "variable", .str x] → EvK K H (.ref a) (.var x)
  | long {a : Addr} : TpK K H a [.str "long"] → EvK K H (.ref a) .long
  | view {a : Addr} {v : V} {e : Ex} : TpK K H a [.str "view", v] → EvK K H v e → EvK K H (.ref a) (.view e)
  | pick {a : Addr} {x : Str} {v w : V} {e f : Ex} : TpK K H a [.str "pick", .str x, v, w] → EvK K H v e → EvK K H w f → EvK K H (.ref a) (.pick x e f)
  | op {a : Addr} {s : Str} {v w : V} {e f : Ex} : TpK K H a [.str s, v, w] → EvK K H v e → EvK K H w f → EvK K H (.ref a) (.op s e f)
theorem EvK.keep {K : PySem.W.Frag} {H H' : Hp} (k : KeepT H H') : ∀ {v : V} {e : Ex}, EvK K H v e → EvK K H' v e
  | _, _, .num h => .num (h.keep k)
  | _, _, .var h => .var (h.keep k)
  | _, _, .long h => .long (h.keep k)
  | _, _, .view h a => .view (h.keep k) (EvK.keep k a)
  | _, _, .pick h a b => .pick (h.keep k) (EvK.keep k a) (EvK.keep k b)
  | _, _, .op h a b => .op (h.keep k) (EvK.keep k a) (EvK.keep k b)
theorem Ev.toK {K : PySem.W.Frag} {H : Hp} : ∀ {v : V} {e : Ex}, Ev H v e → EvK K H v e
  | _, _, .num h => .num (.inl h)
  | _, _, .var h => .var (.inl h)
  | _, _, .long h => .long (.inl h)
  | _, _, .view h a => .view (.inl h) (Ev.toK a)
  | _, _, .pick h a b => .pick (.inl h) (Ev.toK a) (Ev.toK b)
  | _, _, .op h a b => .op (.inl h) (Ev.toK a) (Ev.toK b)
/-- an expression as data -/
def Ex.dat : Ex → PyData
  | .num n => .tuple [.str "number", .int n] | .var x => .tuple [.str "variable", .str x] | .long => .tuple [.str "long"] | .view e => .tuple [.str "view", e.dat]
  | .pick x a b => .tuple [.str "pick", .str x, a.dat, b.dat] | .op s a b => .tuple [.str s, a.dat, b.dat]
theorem EvK.dp {K : PySem.W.Frag} {H : Hp} : ∀ {v : V} {e : Ex}, EvK K H v e → Dp K H v e.dat
  | _, _, .num h => .tup h.sq (.cons (.str _) (.cons (.int _) .nil))
  | _, _, .var h => .tup h.sq (.cons (.str _) (.cons (.str _) .nil))
  | _, _, .long h => .tup h.sq (.cons (.str _) .nil)
  | _, _, .view h a => .tup h.sq (.cons (.str _) (.cons (EvK.dp a) .nil))
  | _, _, .pick h a b => .tup h.sq (.cons (.str _) (.cons (.str _) (.cons (EvK.dp a) (.cons (EvK.dp b) .nil))))
  | _, _, .op h a b => .tup h.sq (.cons (.str _) (.cons (EvK.dp a) (.cons (EvK.dp b) .nil)))
theorem DaK.mk {K : PySem.W.Frag} {H : Hp} {a : Addr} {xs : List V} {ds : List PyData} (h : TpK K H a xs) (p : Paired (DaK K H) xs ds) : DaK K H (.ref a) (.tuple ds) := by
  refine .tup h p.length fun i v d h1 h2 => ?_
  have go : ∀ {xs : List V} {ds : List PyData} (i : Nat) (v : V) (d : PyData), Paired (DaK K H) xs ds → xs[i]? = some v → ds[i]? = some d → DaK K H v d := by
    intro xs ds i v d p
    induction p generalizing i with
    | nil => intro h; simp at h
    | cons r t ih =>
      intro h1 h2
      cases i with
      | zero => cases h1; cases h2; exact r
      | succ i => exact ih i (by rw [List.getElem?_cons_succ] at h1; exact h1) (by rw [List.getElem?_cons_succ] at h2; exact h2)
  exact go i v d p h1 h2
theorem EvK.da {K : PySem.W.Frag} {H : Hp} : ∀ {v : V} {e : Ex}, EvK K H v e → DaK K H v e.dat
  | _, _, .num h => .mk h (.cons (.str _) (.cons (.int _) .nil))
  | _, _, .var h => .mk h (.cons (.str _) (.cons (.str _) .nil))
  | _, _, .long h => .mk h (.cons (.str _) .nil)
  | _, _, .view h a => .mk h (.cons (.str _) (.cons (EvK.da a) .nil))
  | _, _, .pick h a b => .mk h (.cons (.str _) (.cons (.str _) (.cons (EvK.da a) (.cons (EvK.da b) .nil))))
  | _, _, .op h a b => .mk h (.cons (.str _) (.cons (EvK.da a) (.cons (EvK.da b) .nil)))
theorem dat_depth : ∀ e : Ex, e.dat.depth = e.deep
  | .num _ => by simp [Ex.dat, PyData.depth, PyData.depthAll, Ex.deep]
  | .var _ => by simp [Ex.dat, PyData.depth, PyData.depthAll, Ex.deep]
  | .long => by simp [Ex.dat, PyData.depth, PyData.depthAll, Ex.deep]
  | .view e => by
    have := dat_depth e
    simp only [Ex.dat, PyData.depth, PyData.depthAll, Ex.deep, this]
    omega
  | .pick x a b => by
    have := dat_depth a
    have := dat_depth b
    simp only [Ex.dat, PyData.depth, PyData.depthAll, Ex.deep, *]
    omega
  | .op s a b => by
    have := dat_depth a
    have := dat_depth b
    simp only [Ex.dat, PyData.depth, PyData.depthAll, Ex.deep, *]
    omega
theorem dat_wide : ∀ e : Ex, wide e.dat = true
  | .num _ => by simp [Ex.dat, wide, wideAll]
  | .var _ => by simp [Ex.dat, wide, wideAll]
  | .long => by simp [Ex.dat, wide, wideAll]
  | .view e => by simp [Ex.dat, wide, wideAll, dat_wide e]
  | .pick x a b => by simp [Ex.dat, wide, wideAll, dat_wide a, dat_wide b]
  | .op s a b => by simp [Ex.dat, wide, wideAll, dat_wide a, dat_wide b]
theorem opL_ok {s : Str} (h : s ∈ opL) : PyData.strOk s = true := by
  have : opL.all PyData.strOk = true := by decide +kernel
  exact List.all_eq_true.mp this s h
theorem dat_lay {ns ps : List Str} (hn : ∀ x ∈ ns, PyData.strOk x = true) (hp : ∀ x ∈ ps, PyData.strOk x = true) : ∀ e : Ex, e.Wf ns ps → e.dat.canLay0 = true
  | .num _, _ => by
    have : PyData.strOk "number" = true := by decide +kernel
    simp [Ex.dat, PyData.canLay0, PyData.canLayAll0, this]
  | .var x, h => by
    have : PyData.strOk "variable" = true := by decide +kernel
    simp [Ex.dat, PyData.canLay0, PyData.canLayAll0, this, hn x h]
  | .long, _ => by
    have : PyData.strOk "long" = true := by decide +kernel
    simp [Ex.dat, PyData.canLay0, PyData.canLayAll0, this]
  | .view e, h => by
    have : PyData.strOk "view" = true := by decide +kernel
    simp [Ex.dat, PyData.canLay0, PyData.canLayAll0, this, dat_lay hn hp e h]
  | .pick x a b, h => by
    have : PyData.strOk "pick" = true := by decide +kernel
    simp [Ex.dat, PyData.canLay0, PyData.canLayAll0, this, hp x h.1, dat_lay hn hp a h.2.1, dat_lay hn hp b h.2.2]
  | .op s a b, h => by
    simp [Ex.dat, PyData.canLay0, PyData.canLayAll0, opL_ok h.1, dat_lay hn hp a h.2.1, dat_lay hn hp b h.2.2]
theorem dat_shaped {ns ps : List Str} (hn : ∀ x ∈ ns, PyData.strOk x = true) (hp : ∀ x ∈ ps, PyData.strOk x = true) {e : Ex} (h : e.Wf ns ps) (d : e.deep ≤ 64) : SeqAt.shaped e.dat = true := by
  unfold SeqAt.shaped
  rw [dat_lay hn hp e h, dat_depth]
  simp [d]
theorem str_beq {a b : Str} : (a == b) = true ↔ a = b := beq_iff_eq
theorem eqv_t (xs ys : List PyData) : PyData.eqv (.tuple xs) (.tuple ys) = PyData.eqvAll xs ys := by simp [PyData.eqv]
theorem eqv_c (x y : PyData) (xs ys : List PyData) : PyData.eqvAll (x :: xs) (y :: ys) = (PyData.eqv x y && PyData.eqvAll xs ys) := by simp [PyData.eqvAll]
theorem eqv_s (a b : Str) : PyData.eqv (.str a) (.str b) = (a == b) := by simp [PyData.eqv]
theorem eqv_i (a b : Int) : PyData.eqv (.int a) (.int b) = (a == b) := by simp [PyData.eqv]
theorem eqv_nn : PyData.eqvAll [] [] = true := by simp [PyData.eqvAll]
theorem eqv_nc (y : PyData) (ys : List PyData) : PyData.eqvAll [] (y :: ys) = false := by simp [PyData.eqvAll]
theorem eqv_cn (y : PyData) (ys : List PyData) : PyData.eqvAll (y :: ys) [] = false := by simp [PyData.eqvAll]
theorem dat_eqv : ∀ a b : Ex, PyData.eqv a.dat b.dat = true → a = b := by
  have v1 : ("variable" : Str) ≠ "number" := by decide +kernel
  have v2 : ("view" : Str) ≠ "number" := by decide +kernel
  have v3 : ("view" : Str) ≠ "variable" := by decide +kernel
  intro a
  induction a with
  | num n => intro b; cases b <;> simp only [Ex.dat, eqv_t, eqv_c, eqv_s, eqv_i, eqv_nn, eqv_nc, eqv_cn, Bool.and_eq_true, beq_iff_eq, v1.symm, v2.symm, false_and, and_false, Bool.false_eq_true, false_implies, and_true, true_and] <;> (intro h; rw [h])
  | var x => intro b; cases b <;> simp only [Ex.dat, eqv_t, eqv_c, eqv_s, eqv_i, eqv_nn, eqv_nc, eqv_cn, Bool.and_eq_true, beq_iff_eq, v1, v3.symm, false_and, and_false, Bool.false_eq_true, false_implies, and_true, true_and] <;> (intro h; rw [h])
  | long => intro b; cases b <;> simp only [Ex.dat, eqv_t, eqv_c, eqv_s, eqv_i, eqv_nn, eqv_nc, eqv_cn, Bool.and_eq_true, beq_iff_eq, false_and, and_false, Bool.false_eq_true, false_implies, and_true, true_and] <;> (first | (intro h; rfl) | (intro _; trivial))
  | view e ih =>
    intro b
    cases b with
    | view f =>
      intro h
      simp only [Ex.dat, eqv_t, eqv_c, eqv_s, eqv_nn, Bool.and_eq_true, and_true, true_and] at h
      rw [ih f h.2]
    | _ => simp only [Ex.dat, eqv_t, eqv_c, eqv_s, eqv_i, eqv_nn, eqv_nc, eqv_cn, Bool.and_eq_true, beq_iff_eq, v2, v3, false_and, and_false, Bool.false_eq_true, false_implies]
  | pick x a b iha ihb =>
    intro c
    cases c with
    | pick y c d =>
      intro h
      simp only [Ex.dat, eqv_t, eqv_c, eqv_s, eqv_nn, Bool.and_eq_true, beq_iff_eq, and_true, true_and] at h
      rw [iha c h.2.1, ihb d h.2.2, h.1]
    | _ => simp only [Ex.dat, eqv_t, eqv_c, eqv_s, eqv_i, eqv_nn, eqv_nc, eqv_cn, Bool.and_eq_true, beq_iff_eq, false_and, and_false, Bool.false_eq_true, false_implies]
  | op s a b iha ihb =>
    intro c
    cases c with
    | op y c d =>
      intro h
      simp only [Ex.dat, eqv_t, eqv_c, eqv_s, eqv_nn, Bool.and_eq_true, beq_iff_eq, and_true, true_and] at h
      rw [iha c h.2.1, ihb d h.2.2, h.1]
    | _ => simp only [Ex.dat, eqv_t, eqv_c, eqv_s, eqv_i, eqv_nn, eqv_nc, eqv_cn, Bool.and_eq_true, beq_iff_eq, false_and, and_false, Bool.false_eq_true, false_implies]
theorem dat_eq_iff {ns ps : List Str} (hn : ∀ x ∈ ns, PyData.strOk x = true) (hp : ∀ x ∈ ps, PyData.strOk x = true) {a b : Ex} (h : a.Wf ns ps) : PyData.eqv a.dat b.dat = true ↔ a = b :=
  ⟨dat_eqv a b, fun e => by rw [← e]; exact SeqAt.eqv_refl _ (dat_lay hn hp a h)⟩
theorem deep_pos (e : Ex) : 0 < e.deep := by cases e <;> simp [Ex.deep]
def Ex.tag : Ex → Str
  | .num _ => "number" | .var _ => "variable" | .long => "long" | .view _ => "view" | .pick _ _ _ => "pick" | .op s _ _ => s
theorem EvK.hd {K : PySem.W.Frag} {H : Hp} {v : V} {e : Ex} (h : EvK K H v e) : ∃ a xs, v = .ref a ∧ SqT K H a xs ∧ xs[0]? = some (.str e.tag) := by
  cases h with
  | num h => exact ⟨_, _, rfl, h.sq, rfl⟩
  | var h => exact ⟨_, _, rfl, h.sq, rfl⟩
  | long h => exact ⟨_, _, rfl, h.sq, rfl⟩
  | view h _ => exact ⟨_, _, rfl, h.sq, rfl⟩
  | pick h _ _ => exact ⟨_, _, rfl, h.sq, rfl⟩
  | op h _ _ => exact ⟨_, _, rfl, h.sq, rfl⟩
theorem EvK.nm {K : PySem.W.Frag} {H : Hp} {v : V} {n : Int} (h : EvK K H v (.num n)) : ∃ a, v = .ref a ∧ SqT K H a [.str "number", .int n] := by
  cases h with
  | num h => exact ⟨_, rfl, h.sq⟩
theorem tag_num {ns ps : List Str} {e : Ex} (h : e.Wf ns ps) (t : e.tag = "number") : ∃ n, e = .num n := by
  obtain ⟨n1, n2, n3, n4, _⟩ := num_ne
  cases e with
  | num n => exact ⟨n, rfl⟩
  | var x => exact absurd t n1
  | long => exact absurd t n2
  | view e => exact absurd t n3
  | pick x a b => exact absurd t n4
  | op s a b => exact absurd t (opL_ne h.1).1

/-! ### folding -/
abbrev exZ : Ex := .num 0
abbrev exO : Ex := .num 1
open Classical in
noncomputable def fpair (s : Str) (a b : Ex) : Ex :=
  if a.tag = "number" ∧ b.tag = "number" then .num (comb s (a.val (fun _ => 0) (fun _ => false) []) (b.val (fun _ => 0) (fun _ => false) []))
  else if a = b ∧ s ∈ (["-", "mod", "<", "="] : List Str) then (if s = "=" then exO else exZ)
  else if (a = exZ ∧ s ∈ (["-", "*", "/", "mod"] : List Str)) ∨ (b = exZ ∧ s ∈ (["*", "/", "mod", "<"] : List Str)) ∨ (b = exO ∧ s = "mod") then exZ
  else if (s = "+" ∧ a = exZ) ∨ (s = "*" ∧ a = exO) then b
  else if (s ∈ (["+", "-"] : List Str) ∧ b = exZ) ∨ (s ∈ (["*", "/"] : List Str) ∧ b = exO) then a
  else .op s a b
noncomputable def foldE (on : Str → Bool) : Ex → Ex
  | .num n => .num n | .var x => .var x | .long => .long | .view e => .view (foldE on e)
  | .pick x a b => if on x = true then foldE on a else foldE on b
  | .op s a b => fpair s (foldE on a) (foldE on b)
theorem op7 {s : Str} (h : s ∈ opL) {P : Str → Prop} (p1 : P "+") (p2 : P "-") (p3 : P "*") (p4 : P "/") (p5 : P "mod") (p6 : P "<") (p7 : P "=") : P s := by
  simp only [opL, List.mem_cons, List.not_mem_nil, or_false] at h
  rcases h with rfl | rfl | rfl | rfl | rfl | rfl | rfl <;> assumption
theorem sne : ("+" : Str) ≠ "-" ∧ ("+" : Str) ≠ "*" ∧ ("+" : Str) ≠ "/" ∧ ("+" : Str) ≠ "mod" ∧ ("+" : Str) ≠ "<" ∧ ("+" : Str) ≠ "=" ∧ ("-" : Str) ≠ "*" ∧ ("-" : Str) ≠ "/" ∧ ("-" : Str) ≠ "mod" ∧ ("-" : Str) ≠ "<" ∧ ("-" : Str) ≠ "=" ∧
    ("*" : Str) ≠ "/" ∧ ("*" : Str) ≠ "mod" ∧ ("*" : Str) ≠ "<" ∧ ("*" : Str) ≠ "=" ∧ ("/" : Str) ≠ "mod" ∧ ("/" : Str) ≠ "<" ∧ ("/" : Str) ≠ "=" ∧ ("mod" : Str) ≠ "<" ∧ ("mod" : Str) ≠ "=" ∧ ("<" : Str) ≠ "=" := by decide +kernel
/-- how the operators answer with equal parts, with 0 and with 1 -/
theorem comb_same {s : Str} (h : s ∈ (["-", "mod", "<", "="] : List Str)) {a : Int} (ha : Bd a) : comb s a a = if s = "=" then 1 else 0 := by
  obtain ⟨a0, a1⟩ := ha
  simp only [List.mem_cons, List.not_mem_nil, or_false] at h
  rcases h with rfl | rfl | rfl | rfl
  · show max (a - a) 0 = if ("-" : Str) = "=" then 1 else 0
    rw [if_neg (show ¬ ("-" : Str) = "=" from by decide +kernel)]
    omega
  · show (if 0 < a then a % a else 0) = if ("mod" : Str) = "=" then 1 else 0
    rw [if_neg (show ¬ ("mod" : Str) = "=" from by decide +kernel), Int.emod_self]
    split <;> rfl
  · show (if a < a then 1 else 0) = if ("<" : Str) = "=" then 1 else 0
    rw [if_neg (show ¬ ("<" : Str) = "=" from by decide +kernel), if_neg (by omega)]
  · show (if a = a then 1 else 0) = if ("=" : Str) = "=" then 1 else 0
    rw [if_pos rfl, if_pos rfl]
theorem comb_z1 {s : Str} (h : s ∈ (["-", "*", "/", "mod"] : List Str)) {b : Int} (hb : Bd b) : comb s 0 b = 0 := by
  obtain ⟨b0, b1⟩ := hb
  simp only [List.mem_cons, List.not_mem_nil, or_false] at h
  rcases h with rfl | rfl | rfl | rfl
  · show max (0 - b) 0 = 0
    omega
  · show 0 * b % 65536 = 0
    rw [Int.zero_mul]
    rfl
  · show (if 0 < b then 0 / b else 0) = 0
    rw [Int.zero_ediv]
    split <;> rfl
  · show (if 0 < b then 0 % b else 0) = 0
    rw [Int.zero_emod]
    split <;> rfl
theorem comb_z2 {s : Str} (h : s ∈ (["*", "/", "mod", "<"] : List Str)) {a : Int} (ha : Bd a) : comb s a 0 = 0 := by
  obtain ⟨a0, a1⟩ := ha
  simp only [List.mem_cons, List.not_mem_nil, or_false] at h
  rcases h with rfl | rfl | rfl | rfl
  · show a * 0 % 65536 = 0
    rw [Int.mul_zero]
    rfl
  · rfl
  · rfl
  · show (if a < 0 then 1 else 0) = 0
    rw [if_neg (by omega)]
theorem comb_mod1 (a : Int) : comb "mod" a 1 = 0 := by
  show (if (0 : Int) < 1 then a % 1 else 0) = 0
  rw [if_pos (by decide), Int.emod_one]
theorem comb_id1 {b : Int} (hb : Bd b) : comb "+" 0 b = b ∧ comb "*" 1 b = b := by
  obtain ⟨b0, b1⟩ := hb
  constructor
  · show (0 + b) % 65536 = b
    omega
  · show 1 * b % 65536 = b
    omega
theorem comb_id2 {a : Int} (ha : Bd a) : comb "+" a 0 = a ∧ comb "-" a 0 = a ∧ comb "*" a 1 = a ∧ comb "/" a 1 = a := by
  obtain ⟨a0, a1⟩ := ha
  refine ⟨?_, ?_, ?_, ?_⟩
  · show (a + 0) % 65536 = a
    omega
  · show max (a - 0) 0 = a
    omega
  · show a * 1 % 65536 = a
    omega
  · show (if (0 : Int) < 1 then a / 1 else 0) = a
    rw [if_pos (by decide), Int.ediv_one]
theorem mem2 {s a b : Str} (h : s ∈ ([a, b] : List Str)) : s = a ∨ s = b := by
  simpa using h
theorem fpair_val {ns ps : List Str} {tb : Str → Int} {on : Str → Bool} {sn : List Int} (ht : ∀ x ∈ ns, Bd (tb x)) (hs : ∀ n ∈ sn, Bd n) {s : Str} {a b : Ex} (ha : a.Wf ns ps) (hb : b.Wf ns ps) :
    (fpair s a b).val tb on sn = comb s (a.val tb on sn) (b.val tb on sn) := by
  have va := val_bd (on := on) ht hs a ha
  have vb := val_bd (on := on) ht hs b hb
  unfold fpair
  split
  · rename_i h
    obtain ⟨m, rfl⟩ := tag_num ha h.1
    obtain ⟨n, rfl⟩ := tag_num hb h.2
    rfl
  split
  · rename_i h
    obtain ⟨rfl, m⟩ := h
    rw [comb_same m va]
    split <;> rfl
  split
  · rename_i h
    rcases h with ⟨rfl, m⟩ | ⟨rfl, m⟩ | ⟨rfl, rfl⟩
    · exact (comb_z1 m vb).symm
    · exact (comb_z2 m va).symm
    · exact (comb_mod1 _).symm
  split
  · rename_i h
    rcases h with ⟨rfl, rfl⟩ | ⟨rfl, rfl⟩
    · exact (comb_id1 vb).1.symm
    · exact (comb_id1 vb).2.symm
  split
  · rename_i h
    rcases h with ⟨m, rfl⟩ | ⟨m, rfl⟩
    · rcases mem2 m with rfl | rfl
      · exact (comb_id2 va).1.symm
      · exact (comb_id2 va).2.1.symm
    · rcases mem2 m with rfl | rfl
      · exact (comb_id2 va).2.2.1.symm
      · exact (comb_id2 va).2.2.2.symm
  · rfl
theorem fpair_wf {ns ps : List Str} {s : Str} {a b : Ex} (hs : s ∈ opL) (ha : a.Wf ns ps) (hb : b.Wf ns ps) : (fpair s a b).Wf ns ps := by
  unfold fpair
  split
  · have va := val_bd (ns := ns) (ps := ps) (tb := fun _ => 0) (on := fun _ => false) (sn := []) (fun _ _ => ⟨by decide, by decide⟩) (fun _ m => by cases m) a ha
    have vb := val_bd (ns := ns) (ps := ps) (tb := fun _ => 0) (on := fun _ => false) (sn := []) (fun _ _ => ⟨by decide, by decide⟩) (fun _ m => by cases m) b hb
    exact comb_bd va vb
  split
  · split
    · exact ⟨by decide, by decide⟩
    · exact ⟨by decide, by decide⟩
  split
  · exact ⟨by decide, by decide⟩
  split
  · exact hb
  split
  · exact ha
  · exact ⟨hs, ha, hb⟩
theorem fpair_deep {s : Str} {a b : Ex} : (fpair s a b).deep ≤ max a.deep b.deep + 1 := by
  have d1 : ∀ n, (Ex.num n).deep = 1 := fun _ => rfl
  unfold fpair
  split
  · rw [d1]; omega
  split
  · split <;> rw [d1] <;> omega
  split
  · rw [d1]; omega
  split
  · omega
  split
  · omega
  · exact Nat.le_refl _
theorem fold_wf {ns ps : List Str} {on : Str → Bool} : ∀ e : Ex, e.Wf ns ps → (foldE on e).Wf ns ps
  | .num _, h => h
  | .var _, h => h
  | .long, h => h
  | .view e, h => fold_wf e h
  | .pick x a b, h => by
    show (if on x = true then foldE on a else foldE on b).Wf ns ps
    split
    · exact fold_wf a h.2.1
    · exact fold_wf b h.2.2
  | .op s a b, h => fpair_wf h.1 (fold_wf a h.2.1) (fold_wf b h.2.2)
theorem fold_deep {on : Str → Bool} : ∀ e : Ex, (foldE on e).deep ≤ e.deep
  | .num _ => Nat.le_refl _
  | .var _ => Nat.le_refl _
  | .long => Nat.le_refl _
  | .view e => Nat.succ_le_succ (fold_deep e)
  | .pick x a b => by
    have := fold_deep (on := on) a
    have := fold_deep (on := on) b
    show (if on x = true then foldE on a else foldE on b).deep ≤ max a.deep b.deep + 1
    split <;> omega
  | .op s a b => by
    have := fold_deep (on := on) a
    have := fold_deep (on := on) b
    have h := fpair_deep (s := s) (a := foldE on a) (b := foldE on b)
    show (fpair s (foldE on a) (foldE on b)).deep ≤ max a.deep b.deep + 1
    omega
theorem fold_val {ns ps : List Str} {tb : Str → Int} {on : Str → Bool} {sn : List Int} (ht : ∀ x ∈ ns, Bd (tb x)) (hs : ∀ n ∈ sn, Bd n) : ∀ e : Ex, e.Wf ns ps → (foldE on e).val tb on sn = e.val tb on sn
  | .num _, _ => rfl
  | .var _, _ => rfl
  | .long, _ => rfl
  | .view e, h => by
    show sn.getD ((foldE on e).val tb on sn).toNat 0 = sn.getD (e.val tb on sn).toNat 0
    rw [fold_val ht hs e h]
  | .pick x a b, h => by
    show (if on x = true then foldE on a else foldE on b).val tb on sn = if on x = true then a.val tb on sn else b.val tb on sn
    split
    · exact fold_val ht hs a h.2.1
    · exact fold_val ht hs b h.2.2
  | .op s a b, h => by
    show (fpair s (foldE on a) (foldE on b)).val tb on sn = comb s (a.val tb on sn) (b.val tb on sn)
    rw [fpair_val ht hs (fold_wf a h.2.1) (fold_wf b h.2.2), fold_val ht hs a h.2.1, fold_val ht hs b h.2.2]
/-- what is folded -/
inductive NF : Ex → Prop
  | num (n : Int) : NF (.num n)
  | var (x : Str) : NF (.var x)
  | long : NF .long
  | view {e : Ex} : NF e → NF (.view e)
  | op {s : Str} {a b : Ex} : NF a → NF b → fpair s a b = .op s a b → NF (.op s a b)
theorem fpair_nf {s : Str} {a b : Ex} (ha : NF a) (hb : NF b) : NF (fpair s a b) := by
  have e : fpair s a b = fpair s a b := rfl
  revert e
  generalize h : fpair s a b = r
  intro _
  have h0 := h
  unfold fpair at h
  split at h
  · rw [← h]; exact .num _
  split at h
  · split at h <;> (rw [← h]; exact .num _)
  split at h
  · rw [← h]; exact .num _
  split at h
  · rw [← h]; exact hb
  split at h
  · rw [← h]; exact ha
  · rw [← h] at h0 ⊢
    exact .op ha hb h0
theorem fold_nf {on : Str → Bool} : ∀ e : Ex, NF (foldE on e)
  | .num n => .num n
  | .var x => .var x
  | .long => .long
  | .view e => .view (fold_nf e)
  | .pick x a b => by
    show NF (if on x = true then foldE on a else foldE on b)
    split
    · exact fold_nf a
    · exact fold_nf b
  | .op s a b => fpair_nf (fold_nf a) (fold_nf b)
theorem nf_fold {on : Str → Bool} {e : Ex} (h : NF e) : foldE on e = e := by
  induction h with
  | num n => rfl
  | var x => rfl
  | long => rfl
  | view _ ih => show Ex.view (foldE on _) = _; rw [ih]
  | op _ _ f iha ihb => show fpair _ (foldE on _) (foldE on _) = _; rw [iha, ihb, f]
theorem fp0 {s : Str} {m n : Int} : fpair s (.num m) (.num n) = .num (comb s m n) := by
  unfold fpair
  rw [if_pos ⟨rfl, rfl⟩]
  rfl
section
variable {s : Str} {a b : Ex} (h0 : ¬ (a.tag = "number" ∧ b.tag = "number"))
include h0
theorem fp1 (h1 : a = b ∧ s ∈ (["-", "mod", "<", "="] : List Str)) : fpair s a b = if s = "=" then exO else exZ := by
  unfold fpair
  rw [if_neg h0, if_pos h1]
variable (h1 : ¬ (a = b ∧ s ∈ (["-", "mod", "<", "="] : List Str)))
include h1
theorem fp2 (h2 : (a = exZ ∧ s ∈ (["-", "*", "/", "mod"] : List Str)) ∨ (b = exZ ∧ s ∈ (["*", "/", "mod", "<"] : List Str)) ∨ (b = exO ∧ s = "mod")) : fpair s a b = exZ := by
  unfold fpair
  rw [if_neg h0, if_neg h1, if_pos h2]
variable (h2 : ¬ ((a = exZ ∧ s ∈ (["-", "*", "/", "mod"] : List Str)) ∨ (b = exZ ∧ s ∈ (["*", "/", "mod", "<"] : List Str)) ∨ (b = exO ∧ s = "mod")))
include h2
theorem fp3 (h3 : (s = "+" ∧ a = exZ) ∨ (s = "*" ∧ a = exO)) : fpair s a b = b := by
  unfold fpair
  rw [if_neg h0, if_neg h1, if_neg h2, if_pos h3]
variable (h3 : ¬ ((s = "+" ∧ a = exZ) ∨ (s = "*" ∧ a = exO)))
include h3
theorem fp4 (h4 : (s ∈ (["+", "-"] : List Str) ∧ b = exZ) ∨ (s ∈ (["*", "/"] : List Str) ∧ b = exO)) : fpair s a b = a := by
  unfold fpair
  rw [if_neg h0, if_neg h1, if_neg h2, if_neg h3, if_pos h4]
theorem fp5 (h4 : ¬ ((s ∈ (["+", "-"] : List Str) ∧ b = exZ) ∨ (s ∈ (["*", "/"] : List Str) ∧ b = exO))) : fpair s a b = .op s a b := by
  unfold fpair
  rw [if_neg h0, if_neg h1, if_neg h2, if_neg h3, if_neg h4]
end
theorem sqL_but {K : PySem.W.Frag} {H H1 H' : Hp} {a p : Addr} {xs : List V} (h : SqL K H a xs) (np : H p = none) (s : Same H H1) (b : But p H1 H') : SqL K H' a xs := by
  rcases h with (h | ⟨o, h⟩) | h
  · exact .inl (.inl (b _ _ (ne_of_none h np) (s _ _ h)))
  · exact .inl (.inr ⟨o, b _ _ (ne_of_none h np) (s _ _ h)⟩)
  · exact .inr h
theorem But.free {p d : Addr} {H H' : Hp} (b : But p H H') (n : d ≠ p) (f : H' d = none) : H d = none := by
  cases e : H d with
  | none => rfl
  | some x =>
    rw [b _ _ n e] at f
    cases f
theorem But.at {p d : Addr} {H H' : Hp} {o : HO} (b : But p H H') (f : H d = none) : But p H (upd H' d o) := fun c x n e => by
  rw [upd_ne (ne_of_none e f)]
  exact b c x n e
def Oks (l : List Str) : Prop := ∀ x ∈ l, PyData.strOk x = true
def isZ (s : Str) (a b : Ex) : Prop := (a = exZ ∧ s ∈ (["-", "*", "/", "mod"] : List Str)) ∨ (b = exZ ∧ s ∈ (["*", "/", "mod", "<"] : List Str)) ∨ (b = exO ∧ s = "mod")
theorem eqc {ns ps : List Str} {a b : Ex} (hn : Oks ns) (hp : Oks ps) (h : a.Wf ns ps) (c : PyData.eqv a.dat b.dat = true) : a = b := dat_eqv a b c
theorem nec {ns ps : List Str} {a b : Ex} (hn : Oks ns) (hp : Oks ps) (h : a.Wf ns ps) (c : ¬ PyData.eqv a.dat b.dat = true) : a ≠ b := fun e => c ((dat_eq_iff hn hp h).mpr e)
theorem wfZ {ns ps : List Str} : exZ.Wf ns ps ∧ exO.Wf ns ps := ⟨⟨by decide, by decide⟩, ⟨by decide, by decide⟩⟩
theorem shZ : SeqAt.shaped exZ.dat = true ∧ SeqAt.shaped exO.dat = true :=
  ⟨dat_shaped (ns := []) (ps := []) (fun _ m => by cases m) (fun _ m => by cases m) ⟨by decide, by decide⟩ (by decide), dat_shaped (ns := []) (ps := []) (fun _ m => by cases m) (fun _ m => by cases m) ⟨by decide, by decide⟩ (by decide)⟩
theorem all_op {p : Str → Bool} (e : opL.all p = true) {s : Str} (h : s ∈ opL) : p s = true := List.all_eq_true.mp e s h
theorem k1 {s : Str} (h : s ∈ opL) : (s ≠ "+" ∧ s ≠ "*" ∧ s ≠ "/") ↔ s ∈ (["-", "mod", "<", "="] : List Str) := of_decide_eq_true (all_op (p := fun s => decide ((s ≠ "+" ∧ s ≠ "*" ∧ s ≠ "/") ↔ s ∈ (["-", "mod", "<", "="] : List Str))) (by decide +kernel) h)
theorem k2 {s : Str} (h : s ∈ opL) : (s ≠ "+" ∧ s ≠ "<" ∧ s ≠ "=") ↔ s ∈ (["-", "*", "/", "mod"] : List Str) := of_decide_eq_true (all_op (p := fun s => decide ((s ≠ "+" ∧ s ≠ "<" ∧ s ≠ "=") ↔ s ∈ (["-", "*", "/", "mod"] : List Str))) (by decide +kernel) h)
theorem k3 {s : Str} (h : s ∈ opL) : (s ≠ "+" ∧ s ≠ "-" ∧ s ≠ "=") ↔ s ∈ (["*", "/", "mod", "<"] : List Str) := of_decide_eq_true (all_op (p := fun s => decide ((s ≠ "+" ∧ s ≠ "-" ∧ s ≠ "=") ↔ s ∈ (["*", "/", "mod", "<"] : List Str))) (by decide +kernel) h)
theorem k4 {s a b : Str} : s ∈ ([a, b] : List Str) ↔ s = a ∨ s = b := by simp

/-! ### statements -/
inductive St where
  | set (x : Str) (e : Ex)
  | ite (e : Ex) (t f : List St)
  | whn (o : Str) (t f : List St)
  | draw (x : Str) (n : Int)
  | move (p : Int) (x : Str) (n k : Int)
  | show (a : Int) (e : Ex)
  | pay (s : Str) (e : Ex)
mutual
def St.dat : St → PyData
  | .set x e => .tuple [.str "set", .str x, e.dat]
  | .ite e t f => .tuple [.str "if", e.dat, .tuple (datL t), .tuple (datL f)]
  | .whn o t f => .tuple [.str "when", .str o, .tuple (datL t), .tuple (datL f)]
  | .draw x n => .tuple [.str "draw", .str x, .int n]
  | .move p x n k => .tuple [.str "move", .int p, .str x, .int n, .int k]
  | .show a e => .tuple [.str "show", .int a, e.dat]
  | .pay s e => .tuple [.str s, e.dat]
def datL : List St → List PyData
  | [] => []
  | s :: r => s.dat :: datL r
end
theorem datL_map : ∀ ss : List St, datL ss = ss.map St.dat
  | [] => rfl
  | s :: r => by
    show s.dat :: datL r = s.dat :: r.map St.dat
    rw [datL_map r]
theorem datL_len (ss : List St) : (datL ss).length = ss.length := by rw [datL_map, List.length_map]
def St.tag : St → Str
  | .set _ _ => "set" | .ite _ _ _ => "if" | .whn _ _ _ => "when" | .draw _ _ => "draw" | .move _ _ _ _ => "move" | .show _ _ => "show" | .pay s _ => s
mutual
/-- bounds: names, depths of expressions -/
def St.Wf (ns ps : List Str) : St → Prop
  | .set x e => x ∈ ns ∧ e.Wf ns ps ∧ e.deep ≤ 13
  | .ite e t f => (e.Wf ns ps ∧ e.deep ≤ 13) ∧ WfL ns ps t ∧ WfL ns ps f
  | .whn o t f => o ∈ ps ∧ WfL ns ps t ∧ WfL ns ps f
  | .draw x _ => x ∈ ns
  | .move _ x _ _ => x ∈ ns
  | .show _ e => e.Wf ns ps ∧ e.deep ≤ 13
  | .pay s e => (s = "pay" ∨ s = "take") ∧ e.Wf ns ps ∧ e.deep ≤ 13
def WfL (ns ps : List Str) : List St → Prop
  | [] => True
  | s :: r => s.Wf ns ps ∧ WfL ns ps r
end
theorem wfL_app {ns ps : List Str} : ∀ {a b : List St}, WfL ns ps a → WfL ns ps b → WfL ns ps (a ++ b)
  | [], _, _, h => h
  | _ :: _, _, h, g => ⟨h.1, wfL_app h.2 g⟩
theorem wfL_get {ns ps : List Str} : ∀ {a : List St} {i : Nat} {s : St}, WfL ns ps a → a[i]? = some s → s.Wf ns ps
  | [], _, _, _, h => by simp at h
  | _ :: _, 0, _, h, e => by cases e; exact h.1
  | _ :: _, i + 1, _, h, e => wfL_get (i := i) h.2 (by rw [List.getElem?_cons_succ] at e; exact e)
mutual
/-- how deep blocks stand in one another -/
def St.lv : St → Nat
  | .ite _ t f => max (lvL t) (lvL f) + 1
  | .whn _ t f => max (lvL t) (lvL f) + 1
  | .set _ _ => 0 | .draw _ _ => 0 | .move _ _ _ _ => 0 | .show _ _ => 0 | .pay _ _ => 0
def lvL : List St → Nat
  | [] => 0
  | s :: r => max s.lv (lvL r)
end
theorem lvL_app : ∀ (a b : List St), lvL (a ++ b) = max (lvL a) (lvL b)
  | [], b => by show lvL b = max 0 (lvL b); omega
  | s :: r, b => by
    show max s.lv (lvL (r ++ b)) = max (max s.lv (lvL r)) (lvL b)
    rw [lvL_app r b]
    omega
theorem lvL_get : ∀ {a : List St} {i : Nat} {s : St}, a[i]? = some s → s.lv ≤ lvL a
  | [], _, _, h => by simp at h
  | s :: r, 0, _, e => by cases e; show s.lv ≤ max s.lv (lvL r); omega
  | s :: r, i + 1, _, e => by
    have := lvL_get (a := r) (i := i) (by rw [List.getElem?_cons_succ] at e; exact e)
    show _ ≤ max s.lv (lvL r)
    omega
mutual
/-- how many statements -/
def St.sz : St → Nat
  | .ite _ t f => 1 + szL t + szL f
  | .whn _ t f => 1 + szL t + szL f
  | .set _ _ => 1 | .draw _ _ => 1 | .move _ _ _ _ => 1 | .show _ _ => 1 | .pay _ _ => 1
def szL : List St → Nat
  | [] => 0
  | s :: r => s.sz + szL r
end
theorem szL_app : ∀ (a b : List St), szL (a ++ b) = szL a + szL b
  | [], b => by show szL b = 0 + szL b; omega
  | s :: r, b => by
    show s.sz + szL (r ++ b) = s.sz + szL r + szL b
    rw [szL_app r b]
    omega
theorem sz_pos (s : St) : 1 ≤ s.sz := by cases s <;> simp only [St.sz] <;> omega
theorem len_sz : ∀ a : List St, a.length ≤ szL a
  | [] => Nat.le_refl _
  | s :: r => by
    have h1 := sz_pos s
    have h2 := len_sz r
    show r.length + 1 ≤ s.sz + szL r
    omega
theorem szL_get : ∀ {a : List St} {i : Nat} {s : St}, a[i]? = some s → s.sz ≤ szL a
  | [], _, _, h => by simp at h
  | s :: r, 0, _, e => by cases e; show s.sz ≤ s.sz + szL r; omega
  | s :: r, i + 1, _, e => by
    have := szL_get (a := r) (i := i) (by rw [List.getElem?_cons_succ] at e; exact e)
    show _ ≤ s.sz + szL r
    omega
mutual
inductive Sv (K : PySem.W.Frag) (H : Hp) : V → St → Prop
  | set {a : Addr} {x : Str} {v : V} {e : Ex} : TpK K H a [.str "set", .str x, v] → EvK K H v e → Sv K H (.ref a) (.set x e)
  | ite {a b c : Addr} {v : V} {e : Ex} {vs ws : List V} {t f : List St} : TpK K H a [.str "if", v, .ref b, .ref c] → EvK K H v e → TpK K H b vs → Bv K H vs t → TpK K H c ws → Bv K H ws f → Sv K H (.ref a) (.ite e t f)
  | whn {a b c : Addr} {o : Str} {vs ws : List V} {t f : List St} : TpK K H a [.str "when", .str o, .ref b, .ref c] → TpK K H b vs → Bv K H vs t → TpK K H c ws → Bv K H ws f → Sv K H (.ref a) (.whn o t f)
  | draw {a : Addr} {x : Str} {n : Int} : TpK K H a [.str "draw", .str x, .int n] → Sv K H (.ref a) (.draw x n)
  | move {a : Addr} {p n k : Int} {x : Str} : TpK K H a [.str "move", .int p, .str x, .int n, .int k] → Sv K H (.ref a) (.move p x n k)
  | show {a : Addr} {m : Int} {v : V} {e : Ex} : TpK K H a [.str "show", .int m, v] → EvK K H v e → Sv K H (.ref a) (.show m e)
  | pay {a : Addr} {s : Str} {v : V} {e : Ex} : TpK K H a [.str s, v] → EvK K H v e → Sv K H (.ref a) (.pay s e)
inductive Bv (K : PySem.W.Frag) (H : Hp) : List V → List St → Prop
  | nil : Bv K H [] []
  | cons {v : V} {vs : List V} {s : St} {ss : List St} : Sv K H v s → Bv K H vs ss → Bv K H (v :: vs) (s :: ss)
end
section
variable {K : PySem.W.Frag} {H H' : Hp}
mutual
theorem Sv.keep (k : KeepT H H') : ∀ {v : V} {s : St}, Sv K H v s → Sv K H' v s
  | _, _, .set h e => .set (h.keep k) (e.keep k)
  | _, _, .ite h e b t c f => .ite (h.keep k) (e.keep k) (b.keep k) (Bv.keep k t) (c.keep k) (Bv.keep k f)
  | _, _, .whn h b t c f => .whn (h.keep k) (b.keep k) (Bv.keep k t) (c.keep k) (Bv.keep k f)
  | _, _, .draw h => .draw (h.keep k)
  | _, _, .move h => .move (h.keep k)
  | _, _, .show h e => .show (h.keep k) (e.keep k)
  | _, _, .pay h e => .pay (h.keep k) (e.keep k)
theorem Bv.keep (k : KeepT H H') : ∀ {vs : List V} {ss : List St}, Bv K H vs ss → Bv K H' vs ss
  | _, _, .nil => .nil
  | _, _, .cons h t => .cons (Sv.keep k h) (Bv.keep k t)
end
theorem Bv.get : ∀ {vs : List V} {ss : List St} {i : Nat} {v : V}, Bv K H vs ss → vs[i]? = some v → ∃ s, ss[i]? = some s ∧ Sv K H v s
  | _, _, _, _, .nil, e => by simp at e
  | _, _, 0, _, .cons h _, e => by cases e; exact ⟨_, rfl, h⟩
  | _, _, i + 1, _, .cons _ t, e => by
    rw [List.getElem?_cons_succ] at e ⊢
    exact Bv.get t e
theorem Bv.len : ∀ {vs : List V} {ss : List St}, Bv K H vs ss → vs.length = ss.length
  | _, _, .nil => rfl
  | _, _, .cons _ t => by rw [List.length_cons, List.length_cons, Bv.len t]
theorem Bv.app : ∀ {vs ws : List V} {ss ts : List St}, Bv K H vs ss → Bv K H ws ts → Bv K H (vs ++ ws) (ss ++ ts)
  | _, _, _, _, .nil, b => b
  | _, _, _, _, .cons h t, b => .cons h (Bv.app t b)
theorem Bv.one {v : V} {s : St} (h : Sv K H v s) : Bv K H [v] [s] := .cons h .nil
theorem Sv.hd {v : V} {s : St} (h : Sv K H v s) : ∃ a xs, v = .ref a ∧ SqT K H a xs ∧ xs[0]? = some (.str s.tag) := by
  cases h with
  | set h _ => exact ⟨_, _, rfl, h.sq, rfl⟩
  | ite h _ _ _ _ _ => exact ⟨_, _, rfl, h.sq, rfl⟩
  | whn h _ _ _ _ => exact ⟨_, _, rfl, h.sq, rfl⟩
  | draw h => exact ⟨_, _, rfl, h.sq, rfl⟩
  | move h => exact ⟨_, _, rfl, h.sq, rfl⟩
  | «show» h _ => exact ⟨_, _, rfl, h.sq, rfl⟩
  | pay h _ => exact ⟨_, _, rfl, h.sq, rfl⟩
mutual
theorem Sv.dp : ∀ {v : V} {s : St}, Sv K H v s → Dp K H v s.dat
  | _, _, .set h e => .tup h.sq (.cons (.str _) (.cons (.str _) (.cons e.dp .nil)))
  | _, _, .ite h e b t c f => .tup h.sq (.cons (.str _) (.cons e.dp (.cons (.tup b.sq (Bv.dp t)) (.cons (.tup c.sq (Bv.dp f)) .nil))))
  | _, _, .whn h b t c f => .tup h.sq (.cons (.str _) (.cons (.str _) (.cons (.tup b.sq (Bv.dp t)) (.cons (.tup c.sq (Bv.dp f)) .nil))))
  | _, _, .draw h => .tup h.sq (.cons (.str _) (.cons (.str _) (.cons (.int _) .nil)))
  | _, _, .move h => .tup h.sq (.cons (.str _) (.cons (.int _) (.cons (.str _) (.cons (.int _) (.cons (.int _) .nil)))))
  | _, _, .show h e => .tup h.sq (.cons (.str _) (.cons (.int _) (.cons e.dp .nil)))
  | _, _, .pay h e => .tup h.sq (.cons (.str _) (.cons e.dp .nil))
theorem Bv.dp : ∀ {vs : List V} {ss : List St}, Bv K H vs ss → DpAll K H vs (datL ss)
  | _, _, .nil => .nil
  | _, _, .cons h t => .cons (Sv.dp h) (Bv.dp t)
end
mutual
theorem Sv.da : ∀ {v : V} {s : St}, Sv K H v s → DaK K H v s.dat
  | _, _, .set h e => .mk h (.cons (.str _) (.cons (.str _) (.cons e.da .nil)))
  | _, _, .ite h e b t c f => .mk h (.cons (.str _) (.cons e.da (.cons (.mk b (Bv.da t)) (.cons (.mk c (Bv.da f)) .nil))))
  | _, _, .whn h b t c f => .mk h (.cons (.str _) (.cons (.str _) (.cons (.mk b (Bv.da t)) (.cons (.mk c (Bv.da f)) .nil))))
  | _, _, .draw h => .mk h (.cons (.str _) (.cons (.str _) (.cons (.int _) .nil)))
  | _, _, .move h => .mk h (.cons (.str _) (.cons (.int _) (.cons (.str _) (.cons (.int _) (.cons (.int _) .nil)))))
  | _, _, .show h e => .mk h (.cons (.str _) (.cons (.int _) (.cons e.da .nil)))
  | _, _, .pay h e => .mk h (.cons (.str _) (.cons e.da .nil))
theorem Bv.da : ∀ {vs : List V} {ss : List St}, Bv K H vs ss → Paired (DaK K H) vs (datL ss)
  | _, _, .nil => .nil
  | _, _, .cons h t => .cons (Sv.da h) (Bv.da t)
end
end
theorem stags_ok : PyData.strOk "set" = true ∧ PyData.strOk "if" = true ∧ PyData.strOk "when" = true ∧ PyData.strOk "draw" = true ∧ PyData.strOk "move" = true ∧ PyData.strOk "show" = true ∧ PyData.strOk "pay" = true ∧ PyData.strOk "take" = true := by decide +kernel
mutual
theorem sdat_lay {ns ps : List Str} (hn : ∀ x ∈ ns, PyData.strOk x = true) (hp : ∀ x ∈ ps, PyData.strOk x = true) : ∀ s : St, s.Wf ns ps → s.dat.canLay0 = true
  | .set x e, h => by
    obtain ⟨k1, k2, k3, k4, k5, k6, k7, k8⟩ := stags_ok
    simp [St.dat, PyData.canLay0, PyData.canLayAll0, k1, hn x h.1, dat_lay hn hp e h.2.1]
  | .ite e t f, h => by
    obtain ⟨k1, k2, k3, k4, k5, k6, k7, k8⟩ := stags_ok
    simp [St.dat, PyData.canLay0, PyData.canLayAll0, k2, dat_lay hn hp e h.1.1, ldat_lay hn hp t h.2.1, ldat_lay hn hp f h.2.2]
  | .whn o t f, h => by
    obtain ⟨k1, k2, k3, k4, k5, k6, k7, k8⟩ := stags_ok
    simp [St.dat, PyData.canLay0, PyData.canLayAll0, k3, hp o h.1, ldat_lay hn hp t h.2.1, ldat_lay hn hp f h.2.2]
  | .draw x n, h => by
    obtain ⟨k1, k2, k3, k4, k5, k6, k7, k8⟩ := stags_ok
    have hx : x ∈ ns := h
    simp [St.dat, PyData.canLay0, PyData.canLayAll0, k4, hn x hx]
  | .move p x n k, h => by
    obtain ⟨k1, k2, k3, k4, k5, k6, k7, k8⟩ := stags_ok
    have hx : x ∈ ns := h
    simp [St.dat, PyData.canLay0, PyData.canLayAll0, k5, hn x hx]
  | .show a e, h => by
    obtain ⟨k1, k2, k3, k4, k5, k6, k7, k8⟩ := stags_ok
    simp [St.dat, PyData.canLay0, PyData.canLayAll0, k6, dat_lay hn hp e h.1]
  | .pay s e, h => by
    obtain ⟨k1, k2, k3, k4, k5, k6, k7, k8⟩ := stags_ok
    have ks : PyData.strOk s = true := by
      rcases h.1 with e | e
      · rw [e]; exact k7
      · rw [e]; exact k8
    simp [St.dat, PyData.canLay0, PyData.canLayAll0, ks, dat_lay hn hp e h.2.1]
theorem ldat_lay {ns ps : List Str} (hn : ∀ x ∈ ns, PyData.strOk x = true) (hp : ∀ x ∈ ps, PyData.strOk x = true) : ∀ ss : List St, WfL ns ps ss → PyData.canLayAll0 (datL ss) = true
  | [], _ => by simp [datL, PyData.canLayAll0]
  | s :: r, h => by simp [datL, PyData.canLayAll0, sdat_lay hn hp s h.1, ldat_lay hn hp r h.2]
end
mutual
theorem sdat_depth {ns ps : List Str} : ∀ s : St, s.Wf ns ps → s.dat.depth ≤ 2 * s.lv + 14
  | .set x e, h => by
    have := h.2.2
    simp only [St.dat, PyData.depth, PyData.depthAll, dat_depth, St.lv]
    omega
  | .ite e t f, h => by
    have := h.1.2
    have := ldat_depth t h.2.1
    have := ldat_depth f h.2.2
    simp only [St.dat, PyData.depth, PyData.depthAll, dat_depth, St.lv]
    omega
  | .whn o t f, h => by
    have := ldat_depth t h.2.1
    have := ldat_depth f h.2.2
    simp only [St.dat, PyData.depth, PyData.depthAll, St.lv]
    omega
  | .draw x n, _ => by simp only [St.dat, PyData.depth, PyData.depthAll, St.lv]; omega
  | .move p x n k, _ => by simp only [St.dat, PyData.depth, PyData.depthAll, St.lv]; omega
  | .show a e, h => by
    have := h.2
    simp only [St.dat, PyData.depth, PyData.depthAll, dat_depth, St.lv]
    omega
  | .pay s e, h => by
    have := h.2.2
    simp only [St.dat, PyData.depth, PyData.depthAll, dat_depth, St.lv]
    omega
theorem ldat_depth {ns ps : List Str} : ∀ ss : List St, WfL ns ps ss → PyData.depthAll (datL ss) ≤ 2 * lvL ss + 14
  | [], _ => by simp [datL, PyData.depthAll]
  | s :: r, h => by
    have := sdat_depth s h.1
    have := ldat_depth r h.2
    simp only [datL, PyData.depthAll, lvL]
    omega
end
mutual
theorem sdat_wide : ∀ s : St, s.sz ≤ 1000000 → wide s.dat = true
  | .set x e, _ => by simp [St.dat, wide, wideAll, dat_wide]
  | .ite e t f, h => by
    have h : 1 + szL t + szL f ≤ 1000000 := h
    have h1 := len_sz t
    have h2 := len_sz f
    have l1 : decide ((datL t).length ≤ 1000000) = true := decide_eq_true (by rw [datL_len]; omega)
    have l2 : decide ((datL f).length ≤ 1000000) = true := decide_eq_true (by rw [datL_len]; omega)
    simp only [St.dat, wide, wideAll, dat_wide, ldat_wide t (by omega), ldat_wide f (by omega), l1, l2]
    rfl
  | .whn o t f, h => by
    have h : 1 + szL t + szL f ≤ 1000000 := h
    have h1 := len_sz t
    have h2 := len_sz f
    have l1 : decide ((datL t).length ≤ 1000000) = true := decide_eq_true (by rw [datL_len]; omega)
    have l2 : decide ((datL f).length ≤ 1000000) = true := decide_eq_true (by rw [datL_len]; omega)
    simp only [St.dat, wide, wideAll, ldat_wide t (by omega), ldat_wide f (by omega), l1, l2]
    rfl
  | .draw x n, _ => by simp [St.dat, wide, wideAll]
  | .move p x n k, _ => by simp [St.dat, wide, wideAll]
  | .show a e, _ => by simp [St.dat, wide, wideAll, dat_wide]
  | .pay s e, _ => by simp [St.dat, wide, wideAll, dat_wide]
theorem ldat_wide : ∀ ss : List St, szL ss ≤ 1000000 → wideAll (datL ss) = true
  | [], _ => by simp [datL, wideAll]
  | s :: r, h => by
    have h : s.sz + szL r ≤ 1000000 := h
    simp only [datL, wideAll, sdat_wide s (by omega), ldat_wide r (by omega)]
    rfl
end
theorem stag_ne : ("set" : Str) ≠ "if" ∧ ("set" : Str) ≠ "when" ∧ ("draw" : Str) ≠ "if" ∧ ("draw" : Str) ≠ "when" ∧ ("draw" : Str) ≠ "set" ∧ ("draw" : Str) ≠ "show" ∧ ("move" : Str) ≠ "if" ∧ ("move" : Str) ≠ "when" ∧ ("move" : Str) ≠ "set" ∧ ("move" : Str) ≠ "show" ∧
    ("show" : Str) ≠ "if" ∧ ("show" : Str) ≠ "when" ∧ ("show" : Str) ≠ "set" ∧ ("pay" : Str) ≠ "if" ∧ ("pay" : Str) ≠ "when" ∧ ("pay" : Str) ≠ "set" ∧ ("pay" : Str) ≠ "show" ∧ ("take" : Str) ≠ "if" ∧ ("take" : Str) ≠ "when" ∧ ("take" : Str) ≠ "set" ∧ ("take" : Str) ≠ "show" ∧
    ("when" : Str) ≠ "if" ∧ ("draw" : Str) ≠ "pay" ∧ ("draw" : Str) ≠ "take" ∧ ("move" : Str) ≠ "pay" ∧ ("move" : Str) ≠ "take" ∧ ("draw" : Str) ≠ "move" ∧ ("pay" : Str) ≠ "take" ∧ ("set" : Str) ≠ "move" ∧ ("set" : Str) ≠ "draw" ∧ ("show" : Str) ≠ "move" ∧ ("show" : Str) ≠ "draw" ∧
    ("if" : Str) ≠ "draw" ∧ ("if" : Str) ≠ "move" ∧ ("when" : Str) ≠ "draw" ∧ ("when" : Str) ≠ "move" ∧ ("pay" : Str) ≠ "draw" ∧ ("pay" : Str) ≠ "move" ∧ ("take" : Str) ≠ "draw" ∧ ("take" : Str) ≠ "move" := by decide +kernel
mutual
/-- equal data are equal statements -/
theorem sdat_eqv {ns ps : List Str} : ∀ a b : St, a.Wf ns ps → b.Wf ns ps → PyData.eqv a.dat b.dat = true → a = b
  | .set x e, b, ha, hb, h => by
    obtain ⟨m1, m2, m3, m4, m5, m6, m7, m8, m9, m10, m11, m12, m13, m14, m15, m16, m17, m18, m19, m20, m21, m22, m23, m24, m25, m26, m27, m28, m29, m30, m31, m32, m33, m34, m35, m36, m37, m38, m39, m40⟩ := stag_ne
    cases b with
    | set y f =>
      simp only [St.dat, eqv_t, eqv_c, eqv_s, eqv_nn, Bool.and_eq_true, beq_iff_eq, and_true, true_and] at h
      rw [h.1, dat_eqv e f h.2]
    | draw y n => simp only [St.dat, eqv_t, eqv_c, eqv_s, Bool.and_eq_true, beq_iff_eq, m30, false_and] at h
    | «show» y f => simp only [St.dat, eqv_t, eqv_c, eqv_s, Bool.and_eq_true, beq_iff_eq, m13.symm, false_and] at h
    | _ => simp only [St.dat, eqv_t, eqv_c, eqv_s, eqv_nc, eqv_cn, Bool.and_eq_true, and_false, Bool.false_eq_true] at h
  | .ite e t f, b, ha, hb, h => by
    obtain ⟨m1, m2, m3, m4, m5, m6, m7, m8, m9, m10, m11, m12, m13, m14, m15, m16, m17, m18, m19, m20, m21, m22, m23, m24, m25, m26, m27, m28, m29, m30, m31, m32, m33, m34, m35, m36, m37, m38, m39, m40⟩ := stag_ne
    cases b with
    | ite y u v =>
      simp only [St.dat, eqv_t, eqv_c, eqv_s, eqv_nn, Bool.and_eq_true, beq_iff_eq, and_true, true_and] at h
      rw [dat_eqv e y h.1, ldat_eqv t u ha.2.1 hb.2.1 h.2.1, ldat_eqv f v ha.2.2 hb.2.2 h.2.2]
    | whn y u v => simp only [St.dat, eqv_t, eqv_c, eqv_s, Bool.and_eq_true, beq_iff_eq, m22.symm, false_and] at h
    | _ => simp only [St.dat, eqv_t, eqv_c, eqv_s, eqv_nc, eqv_cn, Bool.and_eq_true, and_false, Bool.false_eq_true] at h
  | .whn e t f, b, ha, hb, h => by
    obtain ⟨m1, m2, m3, m4, m5, m6, m7, m8, m9, m10, m11, m12, m13, m14, m15, m16, m17, m18, m19, m20, m21, m22, m23, m24, m25, m26, m27, m28, m29, m30, m31, m32, m33, m34, m35, m36, m37, m38, m39, m40⟩ := stag_ne
    cases b with
    | whn y u v =>
      simp only [St.dat, eqv_t, eqv_c, eqv_s, eqv_nn, Bool.and_eq_true, beq_iff_eq, and_true, true_and] at h
      rw [h.1, ldat_eqv t u ha.2.1 hb.2.1 h.2.1, ldat_eqv f v ha.2.2 hb.2.2 h.2.2]
    | ite y u v => simp only [St.dat, eqv_t, eqv_c, eqv_s, Bool.and_eq_true, beq_iff_eq, m22, false_and] at h
    | _ => simp only [St.dat, eqv_t, eqv_c, eqv_s, eqv_nc, eqv_cn, Bool.and_eq_true, and_false, Bool.false_eq_true] at h
  | .draw x n, b, ha, hb, h => by
    obtain ⟨m1, m2, m3, m4, m5, m6, m7, m8, m9, m10, m11, m12, m13, m14, m15, m16, m17, m18, m19, m20, m21, m22, m23, m24, m25, m26, m27, m28, m29, m30, m31, m32, m33, m34, m35, m36, m37, m38, m39, m40⟩ := stag_ne
    cases b with
    | draw y m =>
      simp only [St.dat, eqv_t, eqv_c, eqv_s, eqv_i, eqv_nn, Bool.and_eq_true, beq_iff_eq, and_true, true_and] at h
      rw [h.1, h.2]
    | set y f => simp only [St.dat, eqv_t, eqv_c, eqv_s, Bool.and_eq_true, beq_iff_eq, m5, false_and] at h
    | «show» y f => simp only [St.dat, eqv_t, eqv_c, eqv_s, Bool.and_eq_true, beq_iff_eq, m6, false_and] at h
    | _ => simp only [St.dat, eqv_t, eqv_c, eqv_s, eqv_nc, eqv_cn, Bool.and_eq_true, and_false, Bool.false_eq_true] at h
  | .move p x n k, b, ha, hb, h => by
    cases b with
    | move q y m l =>
      simp only [St.dat, eqv_t, eqv_c, eqv_s, eqv_i, eqv_nn, Bool.and_eq_true, beq_iff_eq, and_true, true_and] at h
      rw [h.1, h.2.1, h.2.2.1, h.2.2.2]
    | _ => simp only [St.dat, eqv_t, eqv_c, eqv_s, eqv_nc, eqv_cn, Bool.and_eq_true, and_false, Bool.false_eq_true] at h
  | .show p x, b, ha, hb, h => by
    obtain ⟨m1, m2, m3, m4, m5, m6, m7, m8, m9, m10, m11, m12, m13, m14, m15, m16, m17, m18, m19, m20, m21, m22, m23, m24, m25, m26, m27, m28, m29, m30, m31, m32, m33, m34, m35, m36, m37, m38, m39, m40⟩ := stag_ne
    cases b with
    | «show» q y =>
      simp only [St.dat, eqv_t, eqv_c, eqv_s, eqv_i, eqv_nn, Bool.and_eq_true, beq_iff_eq, and_true, true_and] at h
      rw [h.1, dat_eqv x y h.2]
    | set y f => simp only [St.dat, eqv_t, eqv_c, eqv_s, Bool.and_eq_true, beq_iff_eq, m13, false_and] at h
    | draw y f => simp only [St.dat, eqv_t, eqv_c, eqv_s, Bool.and_eq_true, beq_iff_eq, m32, false_and] at h
    | _ => simp only [St.dat, eqv_t, eqv_c, eqv_s, eqv_nc, eqv_cn, Bool.and_eq_true, and_false, Bool.false_eq_true] at h
  | .pay s e, b, ha, hb, h => by
    cases b with
    | pay q y =>
      simp only [St.dat, eqv_t, eqv_c, eqv_s, eqv_nn, Bool.and_eq_true, beq_iff_eq, and_true, true_and] at h
      rw [h.1, dat_eqv e y h.2]
    | _ => simp only [St.dat, eqv_t, eqv_c, eqv_s, eqv_nc, eqv_cn, Bool.and_eq_true, and_false, Bool.false_eq_true] at h
theorem ldat_eqv {ns ps : List Str} : ∀ a b : List St, WfL ns ps a → WfL ns ps b → PyData.eqvAll (datL a) (datL b) = true → a = b
  | [], [], _, _, _ => rfl
  | [], _ :: _, _, _, h => by simp only [datL, eqv_nc, Bool.false_eq_true] at h
  | _ :: _, [], _, _, h => by simp only [datL, eqv_cn, Bool.false_eq_true] at h
  | a :: r, b :: q, ha, hb, h => by
    simp only [datL, eqv_c, Bool.and_eq_true] at h
    rw [sdat_eqv a b ha.1 hb.1 h.1, ldat_eqv r q ha.2 hb.2 h.2]
end


section
open PySem.AutoSeq1 PySem.MeetsSeq PySem.MeetsSeq2 PySem.MeetsSeq3 PySem.SeqAt
/-- list.extend by a tuple of any make -/
theorem ext_list_tup (l : Addr) (items : Array Value) (n : Nat) (b : Addr) (items2 : Array Value) (n2 : Nat) (od : Option Addr) (osl : Array (Option Value)) (hs0 : ¬(!items.isEmpty && Builtin.List.listTooLong (items.size + items2.size)) = true) (hs1 : items.size ≤ sizeLine) (hs2 : items.size + items2.size ≤ sizeLine + 1) :
    Meets (Builtin.«list.extend» ⟨[.ref l, .ref b], []⟩) (fun _ R s => s.heap.get? l = some { cls := .type "list", dict := none, data := .seq items n, slots := #[] } ∧ s.heap.get? b = some { cls := .type "tuple", dict := od, data := .seq items2 n2, slots := osl } ∧ R (.ok (.ret Value.none)) { s with heap := s.heap.update l (Obj.mapSeq fun x => x ++ items2), toks := s.toks }) :=
  .of_wp fun prog w A R s h => by
    obtain ⟨hp, g, d, tk, os⟩ := s; obtain ⟨hl, hb, h⟩ := h; have f1 := PySem.AutoSeq1.idx_int; have f2 := PySem.AutoSeq1.sub_tuple_tuple; have f3 := PySem.AutoSeq1.sub_list_list; have f4 := PySem.AutoSeq1.sub_tuple_list; have f5 := PySem.AutoSeq1.sub_list_tuple;
    have hz' : (items ++ items2).size ≤ sizeLine + 1 := by rw [Array.size_append]; exact hs2
    wp_walk using (wpAny_updateSeq hl rfl (hz := hs1) (_hz' := hz')), wpAny_loadPart' hl, wpAny_loadPart' hb; exact ⟨_, rfl, h⟩
end
section
variable {X : Cx}
def rExtT (K : PySem.W.Frag) : V → List V → Hp → VK → Prop := fun x vs H Q => ∃ l b xs zs, x = .ref l ∧ vs = [.ref b] ∧ H l = some (.lst xs) ∧ SqT K H b zs ∧ xs.length + zs.length ≤ sizeLine ∧ Q .non (upd H l (.lst (xs ++ zs)))
theorem mt_extendT : MtM X "list.extend" (rExtT X.K) := by
  intro pins s σ H x vs v us Q I rx rv h
  obtain ⟨l, b, xs, zs, rfl, rfl, hH, hB, hz, q⟩ := h
  cases rx
  obtain ⟨u, rfl, ru⟩ := rv.one
  cases ru
  obtain ⟨z, its, n, r, hl, e⟩ := I.lstM hH
  obtain ⟨its2, r2, ⟨⟨oc, od, oda, osl⟩, g1, g2, n2, g3⟩, hl2⟩ := I.tuple hB
  simp only at g2 g3
  subst g2 g3
  have e2 := r2.length
  have e1 := r.length
  have hsz : its.toArray.size + its2.toArray.size ≤ sizeLine := by rw [List.size_toArray, List.size_toArray]; omega
  have hlong : ¬ (!its.toArray.isEmpty && Builtin.List.listTooLong (its.toArray.size + its2.toArray.size)) = true := by
    rw [notLongL hsz, Bool.and_false]
    exact Bool.false_ne_true
  refine call_meets F.slot_list_extend ⟨_, e, rfl⟩ F.entry_list_extend (F.args_list_extend_2 _ _)
    (ext_list_tup l its.toArray n b its2.toArray n2 od osl hlong (by rw [List.size_toArray]; omega) (by omega)) ⟨e, g1, ?_⟩
  refine ⟨.non, _, I.lset (its' := its ++ its2) hH e (by simp) (r.append r2) ?_, rfl, q⟩
  rw [List.length_append]
  omega
end


/-! ### folding blocks -/
open Classical in
noncomputable def fif (e : Ex) (t f : List St) : List St := if e = exZ then f else if e.tag = "number" ∨ t = f then t else [.ite e t f]
open Classical in
mutual
noncomputable def foldS (on : Str → Bool) : St → List St
  | .set x e => if foldE on e = .var x then [] else [.set x (foldE on e)]
  | .ite e t f => fif (foldE on e) (foldB on t) (foldB on f)
  | .whn o t f => if on o = true then foldB on t else foldB on f
  | .draw x n => [.draw x n]
  | .move p x n k => [.move p x n k]
  | .show a e => [.show a (foldE on e)]
  | .pay s e => if foldE on e = exZ then [] else [.pay s (foldE on e)]
noncomputable def foldB (on : Str → Bool) : List St → List St
  | [] => []
  | s :: r => foldS on s ++ foldB on r
end
theorem foldB_app {on : Str → Bool} : ∀ a b : List St, foldB on (a ++ b) = foldB on a ++ foldB on b
  | [], b => by
    show foldB on b = foldB on [] ++ foldB on b
    rw [foldB]
    rfl
  | s :: r, b => by
    show foldB on (s :: (r ++ b)) = foldB on (s :: r) ++ foldB on b
    rw [foldB, foldB, foldB_app r b, List.append_assoc]
theorem foldB_one {on : Str → Bool} (s : St) : foldB on [s] = foldS on s := by
  rw [foldB, foldB, List.append_nil]
theorem foldB_take {on : Str → Bool} {ss : List St} {i : Nat} {s : St} (h : ss[i]? = some s) : foldB on (ss.take (i + 1)) = foldB on (ss.take i) ++ foldS on s := by
  rw [List.take_add_one, h, foldB_app]
  show _ ++ foldB on [s] = _
  rw [foldB_one]
mutual
theorem foldS_ok {ns ps : List Str} {on : Str → Bool} : ∀ s : St, s.Wf ns ps → WfL ns ps (foldS on s) ∧ lvL (foldS on s) ≤ s.lv ∧ szL (foldS on s) ≤ s.sz
  | .set x e, h => by
    have d := fold_deep (on := on) e
    rw [foldS]
    split
    · exact ⟨trivial, Nat.le_refl _, Nat.zero_le _⟩
    · exact ⟨⟨⟨h.1, fold_wf e h.2.1, Nat.le_trans d h.2.2⟩, trivial⟩, Nat.le_refl _, Nat.le_refl _⟩
  | .ite e t f, h => by
    have d := fold_deep (on := on) e
    obtain ⟨a1, a2, a3⟩ := foldB_ok (on := on) t h.2.1
    obtain ⟨b1, b2, b3⟩ := foldB_ok (on := on) f h.2.2
    rw [foldS]
    unfold fif
    have e1 : (St.ite e t f).lv = max (lvL t) (lvL f) + 1 := rfl
    have e2 : (St.ite e t f).sz = 1 + szL t + szL f := rfl
    rw [e1, e2]
    split
    · exact ⟨b1, by omega, by omega⟩
    split
    · exact ⟨a1, by omega, by omega⟩
    · refine ⟨⟨⟨⟨fold_wf e h.1.1, Nat.le_trans d h.1.2⟩, a1, b1⟩, trivial⟩, ?_, ?_⟩
      · show max (max (lvL (foldB on t)) (lvL (foldB on f)) + 1) 0 ≤ _
        omega
      · show 1 + szL (foldB on t) + szL (foldB on f) + 0 ≤ _
        omega
  | .whn o t f, h => by
    obtain ⟨a1, a2, a3⟩ := foldB_ok (on := on) t h.2.1
    obtain ⟨b1, b2, b3⟩ := foldB_ok (on := on) f h.2.2
    rw [foldS]
    have e1 : (St.whn o t f).lv = max (lvL t) (lvL f) + 1 := rfl
    have e2 : (St.whn o t f).sz = 1 + szL t + szL f := rfl
    rw [e1, e2]
    split
    · exact ⟨a1, by omega, by omega⟩
    · exact ⟨b1, by omega, by omega⟩
  | .draw x n, h => by
    rw [foldS]
    exact ⟨⟨h, trivial⟩, Nat.le_refl _, Nat.le_refl _⟩
  | .move p x n k, h => by
    rw [foldS]
    exact ⟨⟨h, trivial⟩, Nat.le_refl _, Nat.le_refl _⟩
  | .show a e, h => by
    have d := fold_deep (on := on) e
    rw [foldS]
    exact ⟨⟨⟨fold_wf e h.1, Nat.le_trans d h.2⟩, trivial⟩, Nat.le_refl _, Nat.le_refl _⟩
  | .pay s e, h => by
    have d := fold_deep (on := on) e
    rw [foldS]
    split
    · exact ⟨trivial, Nat.le_refl _, Nat.zero_le _⟩
    · exact ⟨⟨⟨h.1, fold_wf e h.2.1, Nat.le_trans d h.2.2⟩, trivial⟩, Nat.le_refl _, Nat.le_refl _⟩
theorem foldB_ok {ns ps : List Str} {on : Str → Bool} : ∀ ss : List St, WfL ns ps ss → WfL ns ps (foldB on ss) ∧ lvL (foldB on ss) ≤ lvL ss ∧ szL (foldB on ss) ≤ szL ss
  | [], _ => by
    rw [foldB]
    exact ⟨trivial, Nat.le_refl _, Nat.le_refl _⟩
  | s :: r, h => by
    obtain ⟨a1, a2, a3⟩ := foldS_ok (on := on) s h.1
    obtain ⟨b1, b2, b3⟩ := foldB_ok (on := on) r h.2
    rw [foldB, lvL_app, szL_app]
    refine ⟨wfL_app a1 b1, ?_, ?_⟩
    · show _ ≤ max s.lv (lvL r)
      omega
    · show _ ≤ s.sz + szL r
      omega
end
/-- each statement of it folds to itself -/
def NB (on : Str → Bool) (ss : List St) : Prop := ∀ s ∈ ss, foldS on s = [s]
theorem NB.fold {on : Str → Bool} : ∀ {ss : List St}, NB on ss → foldB on ss = ss
  | [], _ => by rw [foldB]
  | s :: r, h => by
    rw [foldB, h s List.mem_cons_self, NB.fold fun x m => h x (List.mem_cons_of_mem _ m)]
    rfl
theorem NB.nil {on : Str → Bool} : NB on [] := fun _ m => by cases m
theorem NB.app {on : Str → Bool} {a b : List St} (h : NB on a) (g : NB on b) : NB on (a ++ b) := fun s m => (List.mem_append.mp m).elim (h s) (g s)
theorem NB.one {on : Str → Bool} {s : St} (h : foldS on s = [s]) : NB on [s] := fun x m => by rw [List.mem_singleton.mp m]; exact h
mutual
theorem foldS_nb {on : Str → Bool} : ∀ s : St, NB on (foldS on s)
  | .set x e => by
    rw [foldS]
    split
    · exact .nil
    · rename_i h
      refine .one ?_
      rw [foldS, nf_fold (fold_nf e), if_neg h]
  | .ite e t f => by
    have a := foldB_nb (on := on) t
    have b := foldB_nb (on := on) f
    rw [foldS]
    have g : fif (foldE on e) (foldB on t) (foldB on f) = fif (foldE on e) (foldB on t) (foldB on f) := rfl
    unfold fif
    split
    · exact b
    split
    · exact a
    · rename_i h1 h2
      refine .one ?_
      rw [foldS, nf_fold (fold_nf e), a.fold, b.fold]
      unfold fif
      rw [if_neg h1, if_neg h2]
  | .whn o t f => by
    rw [foldS]
    split
    · exact foldB_nb t
    · exact foldB_nb f
  | .draw x n => by
    rw [foldS]
    exact .one (by rw [foldS])
  | .move p x n k => by
    rw [foldS]
    exact .one (by rw [foldS])
  | .show a e => by
    rw [foldS]
    exact .one (by rw [foldS, nf_fold (fold_nf e)])
  | .pay s e => by
    rw [foldS]
    split
    · exact .nil
    · rename_i h
      exact .one (by rw [foldS, nf_fold (fold_nf e), if_neg h])
theorem foldB_nb {on : Str → Bool} : ∀ ss : List St, NB on (foldB on ss)
  | [] => by
    rw [foldB]
    exact .nil
  | s :: r => by
    rw [foldB]
    exact (foldS_nb s).app (foldB_nb r)
end
def Bk (K : PySem.W.Frag) (H : Hp) (v : V) (ss : List St) : Prop := ∃ b vs, v = .ref b ∧ TpK K H b vs ∧ Bv K H vs ss
theorem Bk.keep {K : PySem.W.Frag} {H H' : Hp} {v : V} {ss : List St} (k : KeepT H H') (h : Bk K H v ss) : Bk K H' v ss := by
  obtain ⟨b, vs, e, t, w⟩ := h
  exact ⟨b, vs, e, t.keep k, w.keep k⟩
theorem Bk.mk {K : PySem.W.Frag} {H : Hp} {b : Addr} {vs : List V} {ss : List St} (h : H b = some (.tup vs)) (w : Bv K H vs ss) : Bk K H (.ref b) ss := ⟨b, vs, rfl, .inl h, w⟩
theorem Bk.sq {K : PySem.W.Frag} {H : Hp} {v : V} {ss : List St} (h : Bk K H v ss) : ∃ b vs, v = .ref b ∧ SqT K H b vs ∧ Bv K H vs ss := by
  obtain ⟨b, vs, e, t, w⟩ := h
  exact ⟨b, vs, e, t.sq, w⟩
theorem Bk.dp {K : PySem.W.Frag} {H : Hp} {v : V} {ss : List St} (h : Bk K H v ss) : Dp K H v (.tuple (datL ss)) := by
  obtain ⟨b, vs, rfl, t, w⟩ := h
  exact .tup t.sq w.dp
theorem Bk.da {K : PySem.W.Frag} {H : Hp} {v : V} {ss : List St} (h : Bk K H v ss) : DaK K H v (.tuple (datL ss)) := by
  obtain ⟨b, vs, rfl, t, w⟩ := h
  exact .mk t w.da
theorem bk_shaped {ns ps : List Str} (hn : Oks ns) (hp : Oks ps) {ss : List St} (h : WfL ns ps ss) (l : lvL ss ≤ 20) : SeqAt.shaped (.tuple (datL ss)) = true := by
  have d := ldat_depth ss h
  unfold SeqAt.shaped
  have e : (PyData.tuple (datL ss)).depth = PyData.depthAll (datL ss) + 1 := by
    simp only [PyData.depth]
  rw [PyData.canLay0, ldat_lay hn hp ss h, e, Bool.true_and]
  exact decide_eq_true (by omega)
theorem bk_eq {ns ps : List Str} (hn : Oks ns) (hp : Oks ps) {a b : List St} (h : WfL ns ps a) (g : WfL ns ps b) : PyData.eqv (.tuple (datL a)) (.tuple (datL b)) = true ↔ a = b := by
  rw [eqv_t]
  refine ⟨ldat_eqv a b h g, fun e => ?_⟩
  rw [← e, ← eqv_t]
  exact SeqAt.eqv_refl _ (by rw [PyData.canLay0]; exact ldat_lay hn hp a h)
theorem same_at {H H' : Hp} {S : Addr} {o : HO} (s : Same H H') (f : H S = none) : Same H (upd H' S o) := fun b x e => by
  rw [upd_ne (ne_of_none e f)]
  exact s b x e
/-- all but two objects stay -/
def B2 (p d : Addr) (H H' : Hp) : Prop := ∀ b o, b ≠ p → b ≠ d → H b = some o → H' b = some o
theorem B2.refl (p d : Addr) (H : Hp) : B2 p d H H := fun _ _ _ _ h => h
theorem B2.trans {p d : Addr} {H H1 H2 : Hp} (a : B2 p d H H1) (b : B2 p d H1 H2) : B2 p d H H2 := fun c o n m h => b c o n m (a c o n m h)
theorem But.two {p d : Addr} {H H' : Hp} (b : But p H H') : B2 p d H H' := fun c o n _ h => b c o n h
theorem b2_of {p d : Addr} {H H' : Hp} (s : Same H H') : B2 p d H H' := fun b o _ _ h => s b o h
theorem b2_upd {p d : Addr} {H : Hp} {o : HO} : B2 p d H (upd H d o) := fun b x _ n e => by rw [upd_ne n]; exact e
theorem B2.at {p d q : Addr} {H H' : Hp} {o : HO} (b : B2 p d H H') (f : H q = none) : B2 p d H (upd H' q o) := fun c x n m e => by
  rw [upd_ne (ne_of_none e f)]
  exact b c x n m e
/-- the state's two numbers -/
def Stt (H : Hp) (d : Addr) : Prop := ∃ x y : Int, H d = some (.lst [.int x, .int y])
theorem B2.keepT {p c d : Addr} {b : Int} {H H' : Hp} (k : B2 p d H H') (P : Pool H p c b) (S : Stt H d) : KeepT H H' := fun q xs e => by
  obtain ⟨_, _, _, _, _, hp, _⟩ := P
  obtain ⟨_, _, hs⟩ := S
  exact k q _ (fun z => by rw [z, hp] at e; cases e) (fun z => by rw [z, hs] at e; cases e) e
theorem Stt.but {p d : Addr} {H H' : Hp} (S : Stt H d) (b : But p H H') (n : d ≠ p) : Stt H' d := by
  obtain ⟨x, y, h⟩ := S
  exact ⟨x, y, b _ _ n h⟩
theorem Stt.same {d : Addr} {H H' : Hp} (S : Stt H d) (s : Same H H') : Stt H' d := by
  obtain ⟨x, y, h⟩ := S
  exact ⟨x, y, s _ _ h⟩
theorem Stt.upd {d q : Addr} {H : Hp} {o : HO} (S : Stt H d) (n : q ≠ d) : Stt (upd H q o) d := by
  obtain ⟨x, y, h⟩ := S
  exact ⟨x, y, by rw [upd_ne n.symm]; exact h⟩
theorem Stt.ne {d q : Addr} {H : Hp} (S : Stt H d) (f : H q = none) : q ≠ d := by
  obtain ⟨x, y, h⟩ := S
  exact fun z => by rw [z, h] at f; cases f
def szC : Nat → Nat
  | 0 => 1
  | n + 1 => 1 + 10 * szC n
theorem keepT_at {H H' : Hp} {S : Addr} {xs ys : List V} (k : KeepT H H') (e : H' S = some (.lst xs)) : KeepT H (upd H' S (.lst ys)) := k.trans (keepT_lst e)

structure Txt (K : PySem.W.Frag) (mg : Str → Option Value) where
  a_combine : Addr
  d_combine : FuncData
  F_combine : Fun K "combine" "combine" s_combine a_combine d_combine
  b_combine : Binds K d_combine ["sign", "left", "right"] []
  m_combine : mg "combine" = some (.ref a_combine)
  a_is_zero : Addr
  d_is_zero : FuncData
  F_is_zero : Fun K "_is_zero" "_is_zero" s_is_zero a_is_zero d_is_zero
  b_is_zero : Binds K d_is_zero ["sign", "left", "right"] []
  m_is_zero : mg "_is_zero" = some (.ref a_is_zero)
  a_fold_operator : Addr
  d_fold_operator : FuncData
  F_fold_operator : Fun K "_fold_operator" "_fold_operator" s_fold_operator a_fold_operator d_fold_operator
  b_fold_operator : Binds K d_fold_operator ["sign", "left", "right"] []
  m_fold_operator : mg "_fold_operator" = some (.ref a_fold_operator)
  a_fold_expression : Addr
  d_fold_expression : FuncData
  F_fold_expression : Fun K "fold_expression" "fold_expression" s_fold_expression a_fold_expression d_fold_expression
  b_fold_expression : Binds K d_fold_expression ["expression", "on"] []
  m_fold_expression : mg "fold_expression" = some (.ref a_fold_expression)
  a_fold_if : Addr
  d_fold_if : FuncData
  F_fold_if : Fun K "_fold_if" "_fold_if" s_fold_if a_fold_if d_fold_if
  b_fold_if : Binds K d_fold_if ["statement", "on"] []
  m_fold_if : mg "_fold_if" = some (.ref a_fold_if)
  a_fold_statement : Addr
  d_fold_statement : FuncData
  F_fold_statement : Fun K "_fold_statement" "_fold_statement" s_fold_statement a_fold_statement d_fold_statement
  b_fold_statement : Binds K d_fold_statement ["statement", "on"] []
  m_fold_statement : mg "_fold_statement" = some (.ref a_fold_statement)
  a_fold_block : Addr
  d_fold_block : FuncData
  F_fold_block : Fun K "fold_block" "fold_block" s_fold_block a_fold_block d_fold_block
  b_fold_block : Binds K d_fold_block ["block", "on"] []
  m_fold_block : mg "fold_block" = some (.ref a_fold_block)
  a_law_pool : Addr
  d_law_pool : FuncData
  F_law_pool : Fun K "_law_pool" "_law_pool" s_law_pool a_law_pool d_law_pool
  b_law_pool : Binds K d_law_pool ["script", "budget"] []
  m_law_pool : mg "_law_pool" = some (.ref a_law_pool)
  a_law_draw : Addr
  d_law_draw : FuncData
  F_law_draw : Fun K "_law_draw" "_law_draw" s_law_draw a_law_draw d_law_draw
  b_law_draw : Binds K d_law_draw ["pool", "size"] []
  m_law_draw : mg "_law_draw" = some (.ref a_law_draw)
  a_law_spend : Addr
  d_law_spend : FuncData
  F_law_spend : Fun K "_law_spend" "_law_spend" s_law_spend a_law_spend d_law_spend
  b_law_spend : Binds K d_law_spend ["pool"] []
  m_law_spend : mg "_law_spend" = some (.ref a_law_spend)
  a_law_few : Addr
  d_law_few : FuncData
  F_law_few : Fun K "_law_few" "_law_few" s_law_few a_law_few d_law_few
  b_law_few : Binds K d_law_few ["pool", "most"] []
  m_law_few : mg "_law_few" = some (.ref a_law_few)
  a_law_number : Addr
  d_law_number : FuncData
  F_law_number : Fun K "_law_number" "_law_number" s_law_number a_law_number d_law_number
  b_law_number : Binds K d_law_number ["pool"] []
  m_law_number : mg "_law_number" = some (.ref a_law_number)
  a_law_same : Addr
  d_law_same : FuncData
  F_law_same : Fun K "_law_same" "_law_same" s_law_same a_law_same d_law_same
  b_law_same : Binds K d_law_same ["actual", "due"] []
  m_law_same : mg "_law_same" = some (.ref a_law_same)
  a_law_keys : Addr
  d_law_keys : FuncData
  F_law_keys : Fun K "_law_keys" "_law_keys" s_law_keys a_law_keys d_law_keys
  b_law_keys : Binds K d_law_keys [] []
  m_law_keys : mg "_law_keys" = some (.ref a_law_keys)
  a_law_name : Addr
  d_law_name : FuncData
  F_law_name : Fun K "_law_name" "_law_name" s_law_name a_law_name d_law_name
  b_law_name : Binds K d_law_name ["pool", "taken"] []
  m_law_name : mg "_law_name" = some (.ref a_law_name)
  a_law_names : Addr
  d_law_names : FuncData
  F_law_names : Fun K "_law_names" "_law_names" s_law_names a_law_names d_law_names
  b_law_names : Binds K d_law_names ["pool", "most"] []
  m_law_names : mg "_law_names" = some (.ref a_law_names)
  a_law_expression : Addr
  d_law_expression : FuncData
  F_law_expression : Fun K "_law_expression" "_law_expression" s_law_expression a_law_expression d_law_expression
  b_law_expression : Binds K d_law_expression ["pool", "names", "picks", "deep"] []
  m_law_expression : mg "_law_expression" = some (.ref a_law_expression)
  a_law_combine : Addr
  d_law_combine : FuncData
  F_law_combine : Fun K "_law_combine" "_law_combine" s_law_combine a_law_combine d_law_combine
  b_law_combine : Binds K d_law_combine ["sign", "a", "b"] []
  m_law_combine : mg "_law_combine" = some (.ref a_law_combine)
  a_law_fold_pair : Addr
  d_law_fold_pair : FuncData
  F_law_fold_pair : Fun K "_law_fold_pair" "_law_fold_pair" s_law_fold_pair a_law_fold_pair d_law_fold_pair
  b_law_fold_pair : Binds K d_law_fold_pair ["sign", "a", "b"] []
  m_law_fold_pair : mg "_law_fold_pair" = some (.ref a_law_fold_pair)
  a_law_fold : Addr
  d_law_fold : FuncData
  F_law_fold : Fun K "_law_fold" "_law_fold" s_law_fold a_law_fold d_law_fold
  b_law_fold : Binds K d_law_fold ["due", "on"] []
  m_law_fold : mg "_law_fold" = some (.ref a_law_fold)
  a_law_statement : Addr
  d_law_statement : FuncData
  F_law_statement : Fun K "_law_statement" "_law_statement" s_law_statement a_law_statement d_law_statement
  b_law_statement : Binds K d_law_statement ["pool", "names", "picks", "deep", "state"] []
  m_law_statement : mg "_law_statement" = some (.ref a_law_statement)
  a_law_block : Addr
  d_law_block : FuncData
  F_law_block : Fun K "_law_block" "_law_block" s_law_block a_law_block d_law_block
  b_law_block : Binds K d_law_block ["pool", "names", "picks", "deep", "state"] []
  m_law_block : mg "_law_block" = some (.ref a_law_block)
  a_law_fold_block : Addr
  d_law_fold_block : FuncData
  F_law_fold_block : Fun K "_law_fold_block" "_law_fold_block" s_law_fold_block a_law_fold_block d_law_fold_block
  b_law_fold_block : Binds K d_law_fold_block ["block", "on"] []
  m_law_fold_block : mg "_law_fold_block" = some (.ref a_law_fold_block)
  a_law_fold_statement : Addr
  d_law_fold_statement : FuncData
  F_law_fold_statement : Fun K "_law_fold_statement" "_law_fold_statement" s_law_fold_statement a_law_fold_statement d_law_fold_statement
  b_law_fold_statement : Binds K d_law_fold_statement ["due", "on"] []
  m_law_fold_statement : mg "_law_fold_statement" = some (.ref a_law_fold_statement)
  a_law : Addr
  d_law : FuncData
  F_law : Fun K "law" "law" s_law a_law d_law
  b_law : Binds K d_law ["script"] []
  m_law : mg "law" = some (.ref a_law)
  v_MODULUS : Value
  g_MODULUS : mg "MODULUS" = some v_MODULUS
  r_MODULUS : RelV (.int 65536) v_MODULUS
  A_ONE : Addr
  g_ONE : mg "ONE" = some (.ref A_ONE)
  q_ONE : ∀ H, SqT K H A_ONE [.str "number", .int 1]
  qd_ONE : ∃ o, K.lookup A_ONE = some o ∧ o.cls = .type "tuple" ∧ o.dict = none
  A_ZERO : Addr
  g_ZERO : mg "ZERO" = some (.ref A_ZERO)
  q_ZERO : ∀ H, SqT K H A_ZERO [.str "number", .int 0]
  qd_ZERO : ∃ o, K.lookup A_ZERO = some o ∧ o.cls = .type "tuple" ∧ o.dict = none
  z_bool : mg "bool" = none
  z_int : mg "int" = none
  z_isinstance : mg "isinstance" = none
  z_len : mg "len" = none
  z_list : mg "list" = none
  z_max : mg "max" = none
  z_min : mg "min" = none
  z_range : mg "range" = none
  z_str : mg "str" = none
  z_tuple : mg "tuple" = none
section
variable {P : Program} {w : World} {K : PySem.W.Frag} {mg : Str → Option Value} {base : Heap}
/-! ### combine -/
def sp_combine (T : Txt K mg) : Sp := fun vs H Q _ => ∃ (s : Str) (a b : Int), vs = [.str s, .int a, .int b] ∧ s ∈ opL ∧ Bd a ∧ Bd b ∧ Q (.int (comb s a b)) H

theorem ok_combine (T : Txt K mg) : FnOk P w K mg base CX0 1 T.a_combine T.d_combine ["sign", "left", "right"] (sp_combine T) := by
  refine T.F_combine.ok sc_combine (fun vs H Q E h => ?_) (fun cdv A outer s H vs Q E hr h => ?_)
  · obtain ⟨z, a, b, rfl, _⟩ := h
    rfl
  obtain ⟨z, a, b, rfl, hz, ⟨a0, a1⟩, ⟨b0, b1⟩, q⟩ := h
  refine ⟨_, (pss_cons (ps_if (pt_cmpR op_eq (pv 0) pe_str (nomark _)) (pss_one (ps_ret (pe_op op_mod (pe_op op_add (pv 1) (pv 2)) (pe_glob (by rfl) T.g_MODULUS T.r_MODULUS)))) pss_nil)
      (pss_cons (ps_if (pt_cmpR op_eq (pv 0) pe_str (nomark _)) (pss_one (ps_ret (pe_callB (call_max2 rfl) (by rfl) T.z_max (by first | exact PySem.boot_max | decide +kernel) (pa_cons (pe_op op_sub (pv 1) (pv 2)) (pa_cons pe_int pa_nil))))) pss_nil)
      (pss_cons (ps_if (pt_cmpR op_eq (pv 0) pe_str (nomark _)) (pss_one (ps_ret (pe_op op_mod (pe_op op_mul (pv 1) (pv 2)) (pe_glob (by rfl) T.g_MODULUS T.r_MODULUS)))) pss_nil)
      (pss_cons (ps_if (pt_cmpR op_eq (pv 0) pe_str (nomark _)) (pss_one (ps_ret (pe_ifExp (pt_cmpR op_gt (pv 2) pe_int (nomark _)) (pe_op op_fdiv (pv 1) (pv 2)) pe_int))) pss_nil)
      (pss_cons (ps_if (pt_cmpR op_eq (pv 0) pe_str (nomark _)) (pss_one (ps_ret (pe_ifExp (pt_cmpR op_gt (pv 2) pe_int (nomark _)) (pe_op op_mod (pv 1) (pv 2)) pe_int))) pss_nil)
      (pss_cons (ps_if (pt_cmpR op_eq (pv 0) pe_str (nomark _)) (pss_one (ps_ret (pe_ifExp (pt_cmpR op_lt (pv 1) (pv 2) (nomark _)) pe_int pe_int))) pss_nil)
      (pss_one (ps_ret (pe_ifExp (pt_cmpR op_eq (pv 1) (pv 2) (nomark _)) pe_int pe_int))))))))), ?_⟩
  refine ⟨_, rfl, rfl, _, rfl, ite2 (fun c => ?_) (fun n1 => ?_)⟩
  · have e := str_eq c
    have k : comb z a b = (a + b) % 65536 := if_pos e
    rw [k] at q
    exact ⟨_, rfl, _, rfl, _, _, rfl, rfl, _, _, rfl, rfl, by show (0 : Int) < 65536; decide, q⟩
  have m1 : z ≠ "+" := fun e => n1 (decide_eq_true (congrArg V.str e))
  refine ⟨_, rfl, rfl, _, rfl, ite2 (fun c => ?_) (fun n2 => ?_)⟩
  · have e := str_eq c
    have k : comb z a b = max (a - b) 0 := (if_neg m1).trans (if_pos e)
    rw [k] at q
    refine ⟨_, rfl, _, rfl, _, _, rfl, rfl, _, _, rfl, ?_⟩
    have k2 : max (a - b) 0 = if (a - b) < 0 then 0 else a - b := by omega
    rw [k2] at q
    exact q
  have m2 : z ≠ "-" := fun e => n2 (decide_eq_true (congrArg V.str e))
  refine ⟨_, rfl, rfl, _, rfl, ite2 (fun c => ?_) (fun n3 => ?_)⟩
  · have e := str_eq c
    have k : comb z a b = a * b % 65536 := ((if_neg m1).trans (if_neg m2)).trans (if_pos e)
    rw [k] at q
    exact ⟨_, rfl, _, rfl, _, _, rfl, rfl, .inl ⟨by omega, by omega⟩, _, _, rfl, rfl, by show (0 : Int) < 65536; decide, q⟩
  have m3 : z ≠ "*" := fun e => n3 (decide_eq_true (congrArg V.str e))
  refine ⟨_, rfl, rfl, _, rfl, ite2 (fun c => ?_) (fun n4 => ?_)⟩
  · have e := str_eq c
    have k : comb z a b = if 0 < b then a / b else 0 := (((if_neg m1).trans (if_neg m2)).trans (if_neg m3)).trans (if_pos e)
    rw [k] at q
    refine ⟨_, rfl, _, _, rfl, rfl, _, rfl, ite2 (fun y => ?_) (fun y => ?_)⟩
    · rw [if_pos (of_decide_eq_true y)] at q
      exact ⟨_, rfl, _, rfl, _, _, rfl, rfl, ⟨of_decide_eq_true y, by omega⟩, q⟩
    · rw [if_neg (fun t => y (decide_eq_true t))] at q
      exact q
  have m4 : z ≠ "/" := fun e => n4 (decide_eq_true (congrArg V.str e))
  refine ⟨_, rfl, rfl, _, rfl, ite2 (fun c => ?_) (fun n5 => ?_)⟩
  · have e := str_eq c
    have k : comb z a b = if 0 < b then a % b else 0 := ((((if_neg m1).trans (if_neg m2)).trans (if_neg m3)).trans (if_neg m4)).trans (if_pos e)
    rw [k] at q
    refine ⟨_, rfl, _, _, rfl, rfl, _, rfl, ite2 (fun y => ?_) (fun y => ?_)⟩
    · rw [if_pos (of_decide_eq_true y)] at q
      exact ⟨_, rfl, _, rfl, _, _, rfl, rfl, of_decide_eq_true y, q⟩
    · rw [if_neg (fun t => y (decide_eq_true t))] at q
      exact q
  have m5 : z ≠ "mod" := fun e => n5 (decide_eq_true (congrArg V.str e))
  refine ⟨_, rfl, rfl, _, rfl, ite2 (fun c => ?_) (fun n6 => ?_)⟩
  · have e := str_eq c
    have k : comb z a b = if a < b then 1 else 0 := (((((if_neg m1).trans (if_neg m2)).trans (if_neg m3)).trans (if_neg m4)).trans (if_neg m5)).trans (if_pos e)
    rw [k] at q
    refine ⟨_, rfl, _, rfl, _, _, rfl, rfl, _, rfl, ite2 (fun y => ?_) (fun y => ?_)⟩
    · rw [if_pos (of_decide_eq_true y)] at q
      exact q
    · rw [if_neg (fun t => y (decide_eq_true t))] at q
      exact q
  have m6 : z ≠ "<" := fun e => n6 (decide_eq_true (congrArg V.str e))
  have k : comb z a b = if a = b then 1 else 0 := (((((if_neg m1).trans (if_neg m2)).trans (if_neg m3)).trans (if_neg m4)).trans (if_neg m5)).trans (if_neg m6)
  rw [k] at q
  refine ⟨_, rfl, _, rfl, rfl, _, rfl, ite2 (fun y => ?_) (fun y => ?_)⟩
  · rw [if_pos (V.int.inj (of_decide_eq_true y))] at q
    exact q
  · rw [if_neg (fun t => y (decide_eq_true (congrArg V.int t)))] at q
    exact q
/-! ### _is_zero -/
theorem zK {K : PySem.W.Frag} {mg : Str → Option Value} (T : Txt K mg) (H : Hp) : EvK K H (.ref T.A_ZERO) exZ ∧ EvK K H (.ref T.A_ONE) exO := by
  obtain ⟨o, h1, h2, _⟩ := T.qd_ZERO
  obtain ⟨u, g1, g2, _⟩ := T.qd_ONE
  exact ⟨.num (.inr ⟨⟨o, h1, h2⟩, T.q_ZERO⟩), .num (.inr ⟨⟨u, g1, g2⟩, T.q_ONE⟩)⟩
def sp_is_zero (T : Txt K mg) : Sp := fun vs H Q _ => ∃ (s : Str) (v w : V) (a b : Ex) (ns ps : List Str), vs = [.str s, v, w] ∧ EvK K H v a ∧ EvK K H w b ∧ a.Wf ns ps ∧ b.Wf ns ps ∧ Oks ns ∧ Oks ps ∧ a.deep ≤ 30 ∧ b.deep ≤ 30 ∧
  ∀ (k : Bool) (H' : Hp), Same H H' → (k = true ↔ isZ s a b) → Q (.bl k) H'

theorem ok_is_zero (T : Txt K mg) : FnOk P w K mg base CX0 1 T.a_is_zero T.d_is_zero ["sign", "left", "right"] (sp_is_zero T) := by
  refine T.F_is_zero.ok sc_is_zero (fun vs H Q E h => ?_) (fun cdv A outer s H vs Q E hr h => ?_)
  · obtain ⟨z, v, w, a, b, ns, ps, rfl, _⟩ := h
    rfl
  obtain ⟨z, v, w, a, b, ns, ps, rfl, hv, hw, wa, wb, on, op, da, db, q⟩ := h
  refine ⟨_, (C8.pss_cut (ps_if (PW.pt (pw_and (pt_cmpR (op_eqD (eq_room hr)) (pv 1) (pe_glob (v := .ref T.A_ZERO) (by rfl) T.g_ZERO rfl) (nomark _)) (pw_and1 (pt_cmpR op_in_seq (pv 0) (pe_tup (pa_cons pe_str (pa_cons pe_str (pa_cons pe_str (pa_cons pe_str pa_nil))))) (by with_unfolding_all rfl))))) (pss_one (ps_ret pe_bl)) pss_nil)
      (C8.pss_cut (ps_if (PW.pt (pw_and (pt_cmpR (op_eqD (eq_room hr)) (pv 2) (pe_glob (v := .ref T.A_ZERO) (by rfl) T.g_ZERO rfl) (nomark _)) (pw_and1 (pt_cmpR op_in_seq (pv 0) (pe_tup (pa_cons pe_str (pa_cons pe_str (pa_cons pe_str (pa_cons pe_str pa_nil))))) (by with_unfolding_all rfl))))) (pss_one (ps_ret pe_bl)) pss_nil)
      (pss_one (ps_ret (pe_and (pe_cmpR (op_eqD (eq_room hr)) (pv 2) (pe_glob (v := .ref T.A_ONE) (by rfl) T.g_ONE rfl) (nomark _)) (pe_one (pe_cmpR op_eq (pv 0) pe_str (nomark _)))))))), ?_⟩
  have sa := dat_shaped on op wa (by omega)
  have sb := dat_shaped on op wb (by omega)
  refine ⟨fun σ' H' => σ' = [some (.str z), some v, some w] ∧ Same H H' ∧ ¬ (a = exZ ∧ z ∈ (["-", "*", "/", "mod"] : List Str)), ?_, ?_⟩
  · refine ⟨_, rfl, a.dat, exZ.dat, hv.dp, (zK T _).1.dp, sa, shZ.1, _, rfl, ite2 (fun c1 => ?_) (fun c1 => ⟨rfl, Same.refl _, fun z => nec on op wa c1 z.1⟩)⟩
    have e1 := eqc on op wa c1
    refine ⟨_, rfl, by show 4 ≤ sizeLine; decide, fun U fU => ⟨U, _, rfl, .inr (SqT.of upd_same), rfl, rfl, _, rfl, ite2 (fun c2 => ?_) (fun c2 => ?_)⟩⟩
    · exact q true _ (same_upd fU) ⟨fun _ => .inl ⟨e1, inv_t (l := ["-", "*", "/", "mod"]) c2⟩, fun _ => rfl⟩
    · exact ⟨rfl, same_upd fU, fun z => inv_f (l := ["-", "*", "/", "mod"]) c2 z.2⟩
  rintro σ1 H1 ⟨rfl, s1, n1⟩
  have k1 := keepT_of s1
  refine ⟨fun σ' H' => σ' = [some (.str z), some v, some w] ∧ Same H H' ∧ ¬ (b = exZ ∧ z ∈ (["*", "/", "mod", "<"] : List Str)), ?_, ?_⟩
  · refine ⟨_, rfl, b.dat, exZ.dat, (hw.keep k1).dp, (zK T _).1.dp, sb, shZ.1, _, rfl, ite2 (fun c1 => ?_) (fun c1 => ⟨rfl, s1, fun z => nec on op wb c1 z.1⟩)⟩
    have e1 := eqc on op wb c1
    refine ⟨_, rfl, by show 4 ≤ sizeLine; decide, fun U fU => ⟨U, _, rfl, .inr (SqT.of upd_same), rfl, rfl, _, rfl, ite2 (fun c2 => ?_) (fun c2 => ?_)⟩⟩
    · exact q true _ (s1.trans (same_upd fU)) ⟨fun _ => .inr (.inl ⟨e1, inv_t (l := ["*", "/", "mod", "<"]) c2⟩), fun _ => rfl⟩
    · exact ⟨rfl, s1.trans (same_upd fU), fun z => inv_f (l := ["*", "/", "mod", "<"]) c2 z.2⟩
  rintro σ2 H2 ⟨rfl, s2, n2⟩
  refine ⟨_, rfl, b.dat, exO.dat, (hw.keep (keepT_of s2)).dp, (zK T _).2.dp, sb, shZ.2, _, rfl, ?_⟩
  by_cases c1 : PyData.eqv b.dat exO.dat = true
  · rw [c1]
    have e1 := eqc on op wb c1
    refine iteT ⟨_, rfl, rfl, q _ _ s2 ⟨fun c => .inr (.inr ⟨e1, str_eq c⟩), fun h => ?_⟩⟩
    rcases h with h | h | h
    · exact absurd h n1
    · exact absurd h n2
    · exact decide_eq_true (congrArg V.str h.2)
  · have c1' : PyData.eqv b.dat exO.dat = false := by simpa using c1
    rw [c1']
    refine iteF (q _ _ s2 ⟨fun c => (by cases c), fun h => ?_⟩)
    rcases h with h | h | h
    · exact absurd h n1
    · exact absurd h n2
    · exact absurd h.1 (nec on op wb c1)
/-! ### _fold_operator -/
def sp_fold_operator (T : Txt K mg) : Sp := fun vs H Q _ => ∃ (s : Str) (v w : V) (a b : Ex) (ns ps : List Str), vs = [.str s, v, w] ∧ s ∈ opL ∧ EvK K H v a ∧ EvK K H w b ∧ a.Wf ns ps ∧ b.Wf ns ps ∧ Oks ns ∧ Oks ps ∧ a.deep ≤ 30 ∧ b.deep ≤ 30 ∧
  ∀ (u : V) (H' : Hp), Same H H' → EvK K H' u (fpair s a b) → Q u H'

theorem ok_fold_operator (T : Txt K mg) : FnOk P w K mg base CX0 2 T.a_fold_operator T.d_fold_operator ["sign", "left", "right"] (sp_fold_operator T) := by
  refine T.F_fold_operator.ok sc_fold_operator (fun vs H Q E h => ?_) (fun cdv A outer s H vs Q E hr h => ?_)
  · obtain ⟨z, v, w, a, b, ns, ps, rfl, _⟩ := h
    rfl
  obtain ⟨z, v, w, a, b, ns, ps, rfl, hz, hv, hw, wa, wb, on, op, da, db, q⟩ := h
  refine ⟨_, (C8.pss_cut (ps_if (PW.pt (pw_and (pt_cmpR op_eq (pe_ix ix_tup (pv 1) pe_int (fun _ _ => rfl)) pe_str (nomark _)) (pw_and1 (pt_cmpR op_eq (pe_ix ix_tup (pv 2) pe_int (fun _ _ => rfl)) pe_str (nomark _))))) (pss_one (ps_ret (pe_tup (pa_cons pe_str (pa_cons (pe_call (ok_combine T) (hr.mono (by decide)) (by rfl) T.m_combine T.F_combine.kp T.b_combine .nil pass0 (pa_cons (pv 0) (pa_cons (pe_ix ix_tup (pv 1) pe_int (fun _ _ => rfl)) (pa_cons (pe_ix ix_tup (pv 2) pe_int (fun _ _ => rfl)) pa_nil)))) pa_nil))))) pss_nil)
      (C8.pss_cut (ps_if (PW.pt (pw_and (pt_cmpR (op_eqD (eq_room hr)) (pv 1) (pv 2) (nomark _)) (pw_and1 (pt_cmpR op_in_seq (pv 0) (pe_tup (pa_cons pe_str (pa_cons pe_str (pa_cons pe_str (pa_cons pe_str pa_nil))))) (by with_unfolding_all rfl))))) (pss_one (ps_ret (pe_ifExp (pt_cmpR op_eq (pv 0) pe_str (nomark _)) (pe_glob (v := .ref T.A_ONE) (by rfl) T.g_ONE rfl) (pe_glob (v := .ref T.A_ZERO) (by rfl) T.g_ZERO rfl)))) pss_nil)
      (C8.pss_cut (ps_if (pt_truth (pe_call (ok_is_zero T) (hr.mono (by decide)) (by rfl) T.m_is_zero T.F_is_zero.kp T.b_is_zero .nil pass0 (pa_cons (pv 0) (pa_cons (pv 1) (pa_cons (pv 2) pa_nil)))) (fun _ => rfl)) (pss_one (ps_ret (pe_glob (v := .ref T.A_ZERO) (by rfl) T.g_ZERO rfl))) pss_nil)
      (C8.pss_cut (ps_if (PW.pt (pw_or (PW.pt (pw_and (pt_cmpR op_eq (pv 0) pe_str (nomark _)) (pw_and1 (pt_cmpR (op_eqD (eq_room hr)) (pv 1) (pe_glob (v := .ref T.A_ZERO) (by rfl) T.g_ZERO rfl) (nomark _))))) (pw_or1 (PW.pt (pw_and (pt_cmpR op_eq (pv 0) pe_str (nomark _)) (pw_and1 (pt_cmpR (op_eqD (eq_room hr)) (pv 1) (pe_glob (v := .ref T.A_ONE) (by rfl) T.g_ONE rfl) (nomark _)))))))) (pss_one (ps_ret (pv 2))) pss_nil)
      (C8.pss_cut (ps_if (PW.pt (pw_or (PW.pt (pw_and (pt_cmpR op_in_seq (pv 0) (pe_tup (pa_cons pe_str (pa_cons pe_str pa_nil))) (by with_unfolding_all rfl)) (pw_and1 (pt_cmpR (op_eqD (eq_room hr)) (pv 2) (pe_glob (v := .ref T.A_ZERO) (by rfl) T.g_ZERO rfl) (nomark _))))) (pw_or1 (PW.pt (pw_and (pt_cmpR op_in_seq (pv 0) (pe_tup (pa_cons pe_str (pa_cons pe_str pa_nil))) (by with_unfolding_all rfl)) (pw_and1 (pt_cmpR (op_eqD (eq_room hr)) (pv 2) (pe_glob (v := .ref T.A_ONE) (by rfl) T.g_ONE rfl) (nomark _)))))))) (pss_one (ps_ret (pv 1))) pss_nil)
      (pss_one (ps_ret (pe_tup (pa_cons (pv 0) (pa_cons (pv 1) (pa_cons (pv 2) pa_nil))))))))))), ?_⟩
  have sa := dat_shaped on op wa (by omega)
  have sb := dat_shaped on op wb (by omega)
  refine ⟨fun σ' H' => σ' = [some (.str z), some v, some w] ∧ H' = H ∧ ¬ (a.tag = "number" ∧ b.tag = "number"), ?_, ?_⟩
  · obtain ⟨va, xs1, ev, q1, i1⟩ := hv.hd
    obtain ⟨vb, xs2, ew, q2, i2⟩ := hw.hd
    subst ev ew
    refine ⟨_, rfl, va, xs1, 0, .str a.tag, rfl, rfl, q1, atI_nat (j := 0) i1, rfl, _, rfl, ite2 (fun c1 => ?_) (fun c1 => ⟨rfl, rfl, fun h => c1 (decide_eq_true (congrArg V.str h.1))⟩)⟩
    refine ⟨_, rfl, vb, xs2, 0, .str b.tag, rfl, rfl, q2, atI_nat (j := 0) i2, rfl, _, rfl, ite2 (fun c2 => ?_) (fun c2 => ⟨rfl, rfl, fun h => c2 (decide_eq_true (congrArg V.str h.2))⟩)⟩
    obtain ⟨m, rfl⟩ := tag_num wa (str_eq c1)
    obtain ⟨n, rfl⟩ := tag_num wb (str_eq c2)
    obtain ⟨_, e1, g1⟩ := hv.nm
    cases e1
    obtain ⟨_, e2, g2⟩ := hw.nm
    cases e2
    refine ⟨_, rfl, _, rfl, va, _, 1, .int m, rfl, rfl, g1, atI_nat (j := 1) rfl, _, rfl, vb, _, 1, .int n, rfl, rfl, g2, atI_nat (j := 1) rfl, z, m, n, rfl, hz, wa, wb, by show 2 ≤ sizeLine; decide, fun t ft => ?_⟩
    refine q _ _ (same_upd ft) ?_
    rw [fp0]
    exact .num (.inl upd_same)
  rintro σ1 H1 ⟨rfl, rfl, n0⟩
  refine ⟨fun σ' H' => σ' = [some (.str z), some v, some w] ∧ Same H1 H' ∧ ¬ (a = b ∧ z ∈ (["-", "mod", "<", "="] : List Str)), ?_, ?_⟩
  · refine ⟨_, rfl, _, rfl, a.dat, b.dat, hv.dp, hw.dp, sa, sb, _, rfl, ite2 (fun c1 => ?_) (fun c1 => ⟨rfl, Same.refl _, fun z => nec on op wa c1 z.1⟩)⟩
    have e1 := eqc on op wa c1
    refine ⟨_, rfl, by show 4 ≤ sizeLine; decide, fun U fU => ⟨U, _, rfl, .inr (SqT.of upd_same), rfl, rfl, _, rfl, ite2 (fun c2 => ?_) (fun c2 => ?_)⟩⟩
    · have m2 := inv_t (l := ["-", "mod", "<", "="]) c2
      have f := fp1 n0 ⟨e1, m2⟩
      refine ⟨_, rfl, rfl, _, rfl, ite2 (fun c3 => ?_) (fun c3 => ?_)⟩
      · rw [if_pos (str_eq c3)] at f
        refine q _ _ (same_upd fU) ?_
        rw [f]
        exact (zK T _).2
      · rw [if_neg (fun e => c3 (decide_eq_true (congrArg V.str e)))] at f
        refine q _ _ (same_upd fU) ?_
        rw [f]
        exact (zK T _).1
    · exact ⟨rfl, same_upd fU, fun z => inv_f (l := ["-", "mod", "<", "="]) c2 z.2⟩
  rintro σ2 H2 ⟨rfl, s2, n1⟩
  have hv2 := hv.keep (keepT_of s2)
  have hw2 := hw.keep (keepT_of s2)
  refine ⟨fun σ' H' => σ' = [some (.str z), some v, some w] ∧ Same H1 H' ∧ ¬ isZ z a b, ?_, ?_⟩
  · refine ⟨_, rfl, _, rfl, _, rfl, z, v, w, a, b, ns, ps, rfl, hv2, hw2, wa, wb, on, op, da, db, fun k H3 s3 hk => ⟨_, rfl, ite2 (fun c => ?_) (fun c => ⟨rfl, s2.trans s3, fun i => c (hk.mpr i)⟩)⟩⟩
    refine q _ _ (s2.trans s3) ?_
    rw [fp2 n0 n1 (hk.mp c)]
    exact (zK T _).1
  rintro σ3 H3 ⟨rfl, s3, n2⟩
  have hv3 := hv.keep (keepT_of s3)
  have hw3 := hw.keep (keepT_of s3)
  refine ⟨fun σ' H' => σ' = [some (.str z), some v, some w] ∧ H' = H3 ∧ ¬ ((z = "+" ∧ a = exZ) ∨ (z = "*" ∧ a = exO)), ?_, ?_⟩
  · have out : ((z = "+" ∧ a = exZ) ∨ (z = "*" ∧ a = exO)) → Q w H3 := fun h => q _ _ s3 (by rw [fp3 n0 n1 n2 h]; exact hw3)
    refine ⟨_, rfl, rfl, _, rfl, ite2 (fun c1 => ⟨_, rfl, a.dat, exZ.dat, hv3.dp, (zK T _).1.dp, sa, shZ.1, _, rfl, ite2 (fun c2 => ⟨_, rfl, out (.inl ⟨str_eq c1, eqc on op wa c2⟩)⟩) (fun c2 => ?_)⟩) (fun c1 => ?_)⟩
    · exact ⟨_, rfl, rfl, _, rfl, ite2 (fun c3 => ⟨_, rfl, a.dat, exO.dat, hv3.dp, (zK T _).2.dp, sa, shZ.2, _, rfl, ite2 (fun c4 => ⟨_, rfl, out (.inr ⟨str_eq c3, eqc on op wa c4⟩)⟩) (fun c4 => ⟨rfl, rfl, fun h => h.elim (fun h => nec on op wa c2 h.2) (fun h => nec on op wa c4 h.2)⟩)⟩) (fun c3 => ⟨rfl, rfl, fun h => h.elim (fun h => nec on op wa c2 h.2) (fun h => c3 (decide_eq_true (congrArg V.str h.1)))⟩)⟩
    · exact ⟨_, rfl, rfl, _, rfl, ite2 (fun c3 => ⟨_, rfl, a.dat, exO.dat, hv3.dp, (zK T _).2.dp, sa, shZ.2, _, rfl, ite2 (fun c4 => ⟨_, rfl, out (.inr ⟨str_eq c3, eqc on op wa c4⟩)⟩) (fun c4 => ⟨rfl, rfl, fun h => h.elim (fun h => c1 (decide_eq_true (congrArg V.str h.1))) (fun h => nec on op wa c4 h.2)⟩)⟩) (fun c3 => ⟨rfl, rfl, fun h => h.elim (fun h => c1 (decide_eq_true (congrArg V.str h.1))) (fun h => c3 (decide_eq_true (congrArg V.str h.1)))⟩)⟩
  rintro σ4 H4 ⟨rfl, rfl, n3⟩
  refine ⟨fun σ' H' => σ' = [some (.str z), some v, some w] ∧ Same H1 H' ∧ ¬ ((z ∈ (["+", "-"] : List Str) ∧ b = exZ) ∨ (z ∈ (["*", "/"] : List Str) ∧ b = exO)), ?_, ?_⟩
  · refine ⟨_, rfl, by show 2 ≤ sizeLine; decide, fun U fU => ?_⟩
    have sU := s3.trans (same_upd (o := .tup [V.str "+", .str "-"]) fU)
    have hvU := hv.keep (keepT_of sU)
    have hwU := hw.keep (keepT_of sU)
    refine ⟨U, _, rfl, .inr (SqT.of upd_same), rfl, rfl, _, rfl, ite2 (fun c1 => ⟨_, rfl, b.dat, exZ.dat, hwU.dp, (zK T _).1.dp, sb, shZ.1, _, rfl, ite2 (fun c2 => ?_) (fun c2 => ?_)⟩) (fun c1 => ?_)⟩
    · refine ⟨_, rfl, q _ _ sU ?_⟩
      rw [fp4 n0 n1 n2 n3 (.inl ⟨inv_t (l := ["+", "-"]) c1, eqc on op wb c2⟩)]
      exact hvU
    · refine ⟨_, rfl, by show 2 ≤ sizeLine; decide, fun U2 f2 => ⟨U2, _, rfl, .inr (SqT.of upd_same), rfl, rfl, _, rfl, ite2 (fun c3 => ?_) (fun c3 => ⟨rfl, sU.trans (same_upd f2), fun h => h.elim (fun h => nec on op wb c2 h.2) (fun h => inv_f (l := ["*", "/"]) c3 h.1)⟩)⟩⟩
      refine ⟨_, rfl, b.dat, exO.dat, (hwU.keep (keepT_of (same_upd f2))).dp, (zK T _).2.dp, sb, shZ.2, _, rfl, ite2 (fun c4 => ?_) (fun c4 => ⟨rfl, sU.trans (same_upd f2), fun h => h.elim (fun h => nec on op wb c2 h.2) (fun h => nec on op wb c4 h.2)⟩)⟩
      refine ⟨_, rfl, q _ _ (sU.trans (same_upd f2)) ?_⟩
      rw [fp4 n0 n1 n2 n3 (.inr ⟨inv_t (l := ["*", "/"]) c3, eqc on op wb c4⟩)]
      exact hvU.keep (keepT_of (same_upd f2))
    · refine ⟨_, rfl, by show 2 ≤ sizeLine; decide, fun U2 f2 => ⟨U2, _, rfl, .inr (SqT.of upd_same), rfl, rfl, _, rfl, ite2 (fun c3 => ?_) (fun c3 => ⟨rfl, sU.trans (same_upd f2), fun h => h.elim (fun h => inv_f (l := ["+", "-"]) c1 h.1) (fun h => inv_f (l := ["*", "/"]) c3 h.1)⟩)⟩⟩
      refine ⟨_, rfl, b.dat, exO.dat, (hwU.keep (keepT_of (same_upd f2))).dp, (zK T _).2.dp, sb, shZ.2, _, rfl, ite2 (fun c4 => ?_) (fun c4 => ⟨rfl, sU.trans (same_upd f2), fun h => h.elim (fun h => inv_f (l := ["+", "-"]) c1 h.1) (fun h => nec on op wb c4 h.2)⟩)⟩
      refine ⟨_, rfl, q _ _ (sU.trans (same_upd f2)) ?_⟩
      rw [fp4 n0 n1 n2 n3 (.inr ⟨inv_t (l := ["*", "/"]) c3, eqc on op wb c4⟩)]
      exact hvU.keep (keepT_of (same_upd f2))
  rintro σ5 H5 ⟨rfl, s5, n4⟩
  refine ⟨_, rfl, _, rfl, _, rfl, by show 3 ≤ sizeLine; decide, fun t ft => ?_⟩
  have sf := same_upd (o := .tup [V.str z, v, w]) ft
  refine q _ _ (s5.trans sf) ?_
  rw [fp5 n0 n1 n2 n3 n4]
  exact .op (.inl upd_same) (hv.keep (keepT_of (s5.trans sf))) (hw.keep (keepT_of (s5.trans sf)))
/-! ### fold_expression -/
def sp_fold_expression (T : Txt K mg) (n : Nat) : Sp := fun vs H Q _ => ∃ (v : V) (o : Addr) (e : Ex) (ns ps : List Str) (on : Str → Bool) (ko : List (Key × V)), vs = [v, .ref o] ∧ EvK K H v e ∧ e.deep ≤ n ∧ n ≤ 13 ∧ e.Wf ns ps ∧ Oks ns ∧ Oks ps ∧ H o = some (.dK ko) ∧ (∀ x ∈ ps, valV ko (.inr x) = some (.bl (on x))) ∧
  ∀ (u : V) (H' : Hp), Same H H' → EvK K H' u (foldE on e) → Q u H'
theorem no_fold_expression (T : Txt K mg) : ∀ vs H Q E, ¬ sp_fold_expression T 0 vs H Q E := fun vs H Q E ⟨_, _, e, _, _, _, _, _, _, h, _⟩ => absurd (deep_pos e) (by omega)

theorem step_fold_expression (T : Txt K mg) {n : Nat} (G : FnOk P w K mg base CX0 (2 + n) T.a_fold_expression T.d_fold_expression ["expression", "on"] (sp_fold_expression T n)) : FnOk P w K mg base CX0 (2 + n + 1) T.a_fold_expression T.d_fold_expression ["expression", "on"] (sp_fold_expression T (n + 1)) := by
  refine T.F_fold_expression.ok sc_fold_expression (fun vs H Q E h => ?_) (fun cdv A outer s H vs Q E hr h => ?_)
  · obtain ⟨v, o, e, ns, ps, on, ko, rfl, _⟩ := h
    rfl
  obtain ⟨v, o, e, ns, ps, on, ko, rfl, hv, hd, h13, hw, oks, okp, ho, hov, q⟩ := h
  refine ⟨_, (pss_cons (ps_set (i := 2) sc_fold_expression.nd rfl (by first | exact Or.inl rfl | exact Or.inr rfl) (pe_ix ix_tup (pv 0) pe_int (fun _ _ => rfl)))
      (pss_cons (ps_if (pt_cmpR op_in_seq (pv 2) (pe_tup (pa_cons pe_str (pa_cons pe_str (pa_cons pe_str pa_nil)))) (by with_unfolding_all rfl)) (pss_one (ps_ret (pv 0))) pss_nil)
      (pss_cons (ps_if (pt_cmpR op_eq (pv 2) pe_str (nomark _)) (pss_one (ps_ret (pe_call G hr (by rfl) T.m_fold_expression T.F_fold_expression.kp T.b_fold_expression .nil pass0 (pa_cons (pe_ifExp (pt_truth (pe_dget (d_room hr) (pv 1) (pe_ix ix_tup (pv 0) pe_int (fun _ _ => rfl)) (fun _ _ => rfl)) (fun _ => rfl)) (pe_ix ix_tup (pv 0) pe_int (fun _ _ => rfl)) (pe_ix ix_tup (pv 0) pe_int (fun _ _ => rfl))) (pa_cons (pv 1) pa_nil))))) pss_nil)
      (pss_cons (ps_if (pt_cmpR op_eq (pv 2) pe_str (nomark _)) (pss_one (ps_ret (pe_tup (pa_cons pe_str (pa_cons (pe_call G hr (by rfl) T.m_fold_expression T.F_fold_expression.kp T.b_fold_expression .nil pass0 (pa_cons (pe_ix ix_tup (pv 0) pe_int (fun _ _ => rfl)) (pa_cons (pv 1) pa_nil))) pa_nil))))) pss_nil)
      (pss_one (ps_ret (pe_call (ok_fold_operator T) (hr.mono (by omega)) (by rfl) T.m_fold_operator T.F_fold_operator.kp T.b_fold_operator .nil pass0 (pa_cons (pv 2) (pa_cons (pe_call G hr (by rfl) T.m_fold_expression T.F_fold_expression.kp T.b_fold_expression .nil pass0 (pa_cons (pe_ix ix_tup (pv 0) pe_int (fun _ _ => rfl)) (pa_cons (pv 1) pa_nil))) (pa_cons (pe_call G hr (by rfl) T.m_fold_expression T.F_fold_expression.kp T.b_fold_expression .nil pass0 (pa_cons (pe_ix ix_tup (pv 0) pe_int (fun _ _ => rfl)) (pa_cons (pv 1) pa_nil))) pa_nil)))))))))), ?_⟩
  obtain ⟨n1, n2, n3, n4, n5, n6, n7, n8, n9, n10⟩ := num_ne
  obtain ⟨a, xs, ea, qa, ia⟩ := hv.hd
  subst ea
  refine ⟨_, rfl, a, xs, 0, .str e.tag, rfl, rfl, qa, atI_nat (j := 0) ia, ?_⟩
  refine ⟨_, rfl, by show 3 ≤ sizeLine; decide, fun U fU => ⟨U, _, rfl, .inr (SqT.of upd_same), rfl, rfl, _, rfl, ?_⟩⟩
  have sU := same_upd (o := .tup [V.str "number", .str "variable", .str "long"]) fU
  have hvU := hv.keep (keepT_of sU)
  have hoU := sU _ _ ho
  revert sU hvU hoU
  generalize upd H U (.tup [V.str "number", .str "variable", .str "long"]) = HU
  intro sU hvU hoU
  clear hv qa ia
  cases hvU with
  | @num a m ha => exact ite2 (fun _ => ⟨_, rfl, q _ _ sU (.num ha)⟩) (fun c => absurd (show inV (V.str "number") [V.str "number", .str "variable", .str "long"] = true by decide +kernel) c)
  | @var a x ha => exact ite2 (fun _ => ⟨_, rfl, q _ _ sU (.var ha)⟩) (fun c => absurd (show inV (V.str "variable") [V.str "number", .str "variable", .str "long"] = true by decide +kernel) c)
  | @long a ha => exact ite2 (fun _ => ⟨_, rfl, q _ _ sU (.long ha)⟩) (fun c => absurd (show inV (V.str "long") [V.str "number", .str "variable", .str "long"] = true by decide +kernel) c)
  | @view a v e ha hv =>
    have hd' : e.deep ≤ n := by
      have : e.deep + 1 ≤ n + 1 := hd
      omega
    refine ite2 (fun c => absurd c (show ¬ inV (V.str "view") [V.str "number", .str "variable", .str "long"] = true by decide +kernel)) (fun _ => ?_)
    refine ⟨_, rfl, rfl, _, rfl, iteN n10.symm ?_⟩
    refine ⟨_, rfl, rfl, _, rfl, iteS ?_⟩
    refine ⟨_, rfl, a, _, 1, v, rfl, rfl, ha.sq, atI_nat (j := 1) rfl, _, rfl, v, o, e, ns, ps, on, ko, rfl, hv, hd', by omega, hw, oks, okp, hoU, hov, fun u H1 s1 hu => ⟨by show 2 ≤ sizeLine; decide, fun t ft => ?_⟩⟩
    exact q _ _ ((sU.trans s1).trans (same_upd ft)) (.view (.inl upd_same) (hu.keep (keepT_of (same_upd ft))))
  | @pick a x v w e f ha hv hv2 =>
    have hd' : max e.deep f.deep + 1 ≤ n + 1 := hd
    refine ite2 (fun c => absurd c (show ¬ inV (V.str "pick") [V.str "number", .str "variable", .str "long"] = true by decide +kernel)) (fun _ => ?_)
    refine ⟨_, rfl, rfl, _, rfl, iteS ?_⟩
    have q' : ∀ (u : V) (H' : Hp), Same H H' → EvK K H' u (if on x = true then foldE on e else foldE on f) → Q u H' := q
    refine ⟨_, rfl, _, rfl, a, _, 1, .str x, rfl, rfl, ha.sq, atI_nat (j := 1) rfl, o, _, rfl, dget_of hoU (hov x hw.1), _, rfl, ite2 (fun c => ?_) (fun c => ?_)⟩
    · rw [if_pos c] at q'
      exact ⟨_, rfl, a, _, 2, v, rfl, rfl, ha.sq, atI_nat (j := 2) rfl, _, rfl, v, o, e, ns, ps, on, ko, rfl, hv, by omega, by omega, hw.2.1, oks, okp, hoU, hov, fun u H1 s1 hu => q' u H1 (sU.trans s1) hu⟩
    · rw [if_neg c] at q'
      exact ⟨_, rfl, a, _, 3, w, rfl, rfl, ha.sq, atI_nat (j := 3) rfl, _, rfl, w, o, f, ns, ps, on, ko, rfl, hv2, by omega, by omega, hw.2.2, oks, okp, hoU, hov, fun u H1 s1 hu => q' u H1 (sU.trans s1) hu⟩
  | @op a z v w e f ha hv hv2 =>
    have hd' : max e.deep f.deep + 1 ≤ n + 1 := hd
    obtain ⟨m1, m2, m3, m4, m5⟩ := opL_ne hw.1
    have hin : ¬ inV (V.str z) [V.str "number", .str "variable", .str "long"] = true := fun c => by
      have := inv_t (l := ["number", "variable", "long"]) c
      simp only [List.mem_cons, List.not_mem_nil, or_false] at this
      rcases this with h | h | h
      · exact m1 h
      · exact m2 h
      · exact m3 h
    refine ite2 (fun c => absurd c hin) (fun _ => ?_)
    refine ⟨_, rfl, rfl, _, rfl, iteN m5 ?_⟩
    refine ⟨_, rfl, rfl, _, rfl, iteN m4 ?_⟩
    refine ⟨_, rfl, _, rfl, a, _, 1, v, rfl, rfl, ha.sq, atI_nat (j := 1) rfl, _, rfl, v, o, e, ns, ps, on, ko, rfl, hv, by omega, by omega, hw.2.1, oks, okp, hoU, hov, fun u H1 s1 hu => ?_⟩
    have ha1 := ha.keep (keepT_of s1)
    refine ⟨_, rfl, a, _, 2, w, rfl, rfl, ha1.sq, atI_nat (j := 2) rfl, _, rfl, w, o, f, ns, ps, on, ko, rfl, hv2.keep (keepT_of s1), by omega, by omega, hw.2.2, oks, okp, s1 _ _ hoU, hov, fun u2 H2 s2 hu2 => ?_⟩
    have de := fold_deep (on := on) e
    have df := fold_deep (on := on) f
    exact ⟨z, u, u2, _, _, ns, ps, rfl, hw.1, hu.keep (keepT_of s2), hu2, fold_wf e hw.2.1, fold_wf f hw.2.2, oks, okp, by omega, by omega, fun r H3 s3 hr3 => q r H3 (((sU.trans s1).trans s2).trans s3) hr3⟩
theorem ok_fold_expression (T : Txt K mg) : ∀ n, FnOk P w K mg base CX0 (2 + n) T.a_fold_expression T.d_fold_expression ["expression", "on"] (sp_fold_expression T n)
  | 0 => ⟨fun vs H Q E h => absurd h (no_fold_expression T vs H Q E), fun A outer s H args us vs Q E _ _ _ _ h => absurd h (no_fold_expression T vs H Q E)⟩
  | n + 1 => step_fold_expression T (ok_fold_expression T n)
/-! ### _fold_if -/
def sp_fold_block (T : Txt K mg) (n : Nat) : Sp := fun vs H Q _ => ∃ (v : V) (o : Addr) (ss : List St) (ns ps : List Str) (on : Str → Bool) (ko : List (Key × V)), vs = [v, .ref o] ∧ Bk K H v ss ∧ lvL ss < n ∧ n ≤ 8 ∧ szL ss ≤ 1000000 ∧ WfL ns ps ss ∧ Oks ns ∧ Oks ps ∧ H o = some (.dK ko) ∧ (∀ x ∈ ps, valV ko (.inr x) = some (.bl (on x))) ∧
  ∀ (u : V) (H' : Hp), Same H H' → Bk K H' u (foldB on ss) → Q u H'
theorem no_fold_block (T : Txt K mg) : ∀ vs H Q E, ¬ sp_fold_block T 0 vs H Q E := fun vs H Q E ⟨_, _, e, _, _, _, _, _, _, h, _⟩ => absurd h (Nat.not_lt_zero _)

def sp_fold_if (T : Txt K mg) (n : Nat) : Sp := fun vs H Q _ => ∃ (v : V) (o : Addr) (e : Ex) (t f : List St) (ns ps : List Str) (on : Str → Bool) (ko : List (Key × V)), vs = [v, .ref o] ∧ Sv K H v (.ite e t f) ∧ (St.ite e t f).lv ≤ n ∧ n ≤ 8 ∧ (St.ite e t f).sz ≤ 1000000 ∧ (St.ite e t f).Wf ns ps ∧ Oks ns ∧ Oks ps ∧ H o = some (.dK ko) ∧ (∀ x ∈ ps, valV ko (.inr x) = some (.bl (on x))) ∧
  ∀ (u : V) (H' : Hp), Same H H' → Bk K H' u (foldS on (.ite e t f)) → Q u H'

theorem ok_fold_if (T : Txt K mg) {n : Nat} (G : FnOk P w K mg base CX0 (15 + 3 * n) T.a_fold_block T.d_fold_block ["block", "on"] (sp_fold_block T n)) : FnOk P w K mg base CX0 (15 + 3 * n + 1) T.a_fold_if T.d_fold_if ["statement", "on"] (sp_fold_if T n) := by
  refine T.F_fold_if.ok sc_fold_if (fun vs H Q E h => ?_) (fun cdv A outer s H vs Q E hr h => ?_)
  · obtain ⟨v, o, e, t, f, ns, ps, on, ko, rfl, _⟩ := h
    rfl
  obtain ⟨v, o, e, t, f, ns, ps, on, ko, rfl, hv, hl, h8, hz, hw, oks, okp, ho, hov, q⟩ := h
  refine ⟨_, (pss_cons (ps_set (i := 2) sc_fold_if.nd rfl (by first | exact Or.inl rfl | exact Or.inr rfl) (pe_call (ok_fold_expression T 13) (hr.mono (by omega)) (by rfl) T.m_fold_expression T.F_fold_expression.kp T.b_fold_expression .nil pass0 (pa_cons (pe_ix ix_tup (pv 0) pe_int (fun _ _ => rfl)) (pa_cons (pv 1) pa_nil))))
      (pss_cons (ps_set (i := 3) sc_fold_if.nd rfl (by first | exact Or.inl rfl | exact Or.inr rfl) (pe_call G (hr.mono (by omega)) (by rfl) T.m_fold_block T.F_fold_block.kp T.b_fold_block .nil pass0 (pa_cons (pe_ix ix_tup (pv 0) pe_int (fun _ _ => rfl)) (pa_cons (pv 1) pa_nil))))
      (pss_cons (ps_set (i := 4) sc_fold_if.nd rfl (by first | exact Or.inl rfl | exact Or.inr rfl) (pe_call G (hr.mono (by omega)) (by rfl) T.m_fold_block T.F_fold_block.kp T.b_fold_block .nil pass0 (pa_cons (pe_ix ix_tup (pv 0) pe_int (fun _ _ => rfl)) (pa_cons (pv 1) pa_nil))))
      (pss_cons (ps_if (pt_cmpR (op_eqD (eq_room hr)) (pv 2) (pe_glob (v := .ref T.A_ZERO) (by rfl) T.g_ZERO rfl) (nomark _)) (pss_one (ps_ret (pv 4))) pss_nil)
      (pss_cons (ps_if (PW.pt (pw_or (pt_cmpR op_eq (pe_ix ix_tup (pv 2) pe_int (fun _ _ => rfl)) pe_str (nomark _)) (pw_or1 (pt_cmpR (op_eqD (eq_room hr)) (pv 3) (pv 4) (nomark _))))) (pss_one (ps_ret (pv 3))) pss_nil)
      (pss_one (ps_ret (pe_tup (pa_cons (pe_tup (pa_cons pe_str (pa_cons (pv 2) (pa_cons (pv 3) (pa_cons (pv 4) pa_nil))))) pa_nil))))))))), ?_⟩
  have hl : max (lvL t) (lvL f) + 1 ≤ n := hl
  have hz : 1 + szL t + szL f ≤ 1000000 := hz
  cases hv with
  | @ite a b c v e vs ws t f ha he hb hB hc hC =>
  refine ⟨_, rfl, a, _, 1, v, rfl, rfl, ha.sq, atI_nat (j := 1) rfl, _, rfl, v, o, e, ns, ps, on, ko, rfl, he, hw.1.2, by decide, hw.1.1, oks, okp, ho, hov, fun u1 H1 s1 g1 => ?_⟩
  have k1 := keepT_of s1
  refine ⟨_, rfl, a, _, 2, .ref b, rfl, rfl, (ha.keep k1).sq, atI_nat (j := 2) rfl, _, rfl, .ref b, o, t, ns, ps, on, ko, rfl, ⟨b, vs, rfl, hb.keep k1, hB.keep k1⟩, by omega, h8, by omega, hw.2.1, oks, okp, s1 _ _ ho, hov, fun u2 H2 s2 g2 => ?_⟩
  have k2 := k1.trans (keepT_of s2)
  refine ⟨_, rfl, a, _, 3, .ref c, rfl, rfl, (ha.keep k2).sq, atI_nat (j := 3) rfl, _, rfl, .ref c, o, f, ns, ps, on, ko, rfl, ⟨c, ws, rfl, hc.keep k2, hC.keep k2⟩, by omega, h8, by omega, hw.2.2, oks, okp, s2 _ _ (s1 _ _ ho), hov, fun u3 H3 s3 g3 => ?_⟩
  replace g1 := g1.keep (keepT_of (s2.trans s3))
  replace g2 := g2.keep (keepT_of s3)
  have sA := (s1.trans s2).trans s3
  have fw := fold_wf (on := on) e hw.1.1
  have fd := fold_deep (on := on) e
  obtain ⟨tw, tl, tz⟩ := foldB_ok (on := on) t hw.2.1
  obtain ⟨fw2, fl, fz⟩ := foldB_ok (on := on) f hw.2.2
  have q : ∀ (u : V) (H' : Hp), Same H H' → Bk K H' u (fif (foldE on e) (foldB on t) (foldB on f)) → Q u H' := fun u H' s g => q u H' s (by rw [foldS]; exact g)
  have sh := dat_shaped oks okp fw (by have := hw.1.2; omega)
  refine ⟨_, rfl, (foldE on e).dat, exZ.dat, g1.dp, (zK T _).1.dp, sh, shZ.1, _, rfl, ite2 (fun c1 => ?_) (fun c1 => ?_)⟩
  · refine ⟨_, rfl, q _ _ sA ?_⟩
    unfold fif
    rw [if_pos (eqc oks okp fw c1)]
    exact g3
  have n1 := nec oks okp fw c1
  obtain ⟨a1, xs1, e1, q1, i1⟩ := g1.hd
  subst e1
  refine ⟨_, rfl, a1, xs1, 0, .str (foldE on e).tag, rfl, rfl, q1, atI_nat (j := 0) i1, rfl, _, rfl, ite2 (fun c2 => ?_) (fun c2 => ?_)⟩
  · refine ⟨_, rfl, q _ _ sA ?_⟩
    unfold fif
    rw [if_neg n1, if_pos (.inl (str_eq c2))]
    exact g2
  have n2 : (foldE on e).tag ≠ "number" := fun z => c2 (decide_eq_true (congrArg V.str z))
  refine ⟨_, rfl, _, rfl, .tuple (datL (foldB on t)), .tuple (datL (foldB on f)), g2.dp, g3.dp, bk_shaped oks okp tw (by omega), bk_shaped oks okp fw2 (by omega), _, rfl, ite2 (fun c3 => ?_) (fun c3 => ?_)⟩
  · refine ⟨_, rfl, q _ _ sA ?_⟩
    unfold fif
    rw [if_neg n1, if_pos (.inr ((bk_eq oks okp tw fw2).mp c3))]
    exact g2
  have n3 : foldB on t ≠ foldB on f := fun z => c3 ((bk_eq oks okp tw fw2).mpr z)
  obtain ⟨b2, vs2, e2, t2, w2⟩ := g2
  obtain ⟨b3, vs3, e3, t3, w3⟩ := g3
  subst e2 e3
  refine ⟨_, rfl, _, rfl, _, rfl, by show 4 ≤ sizeLine; decide, fun p fp => ⟨by show 1 ≤ sizeLine; decide, fun r fr => ?_⟩⟩
  have x1 := same_upd (o := .tup [V.str "if", .ref a1, .ref b2, .ref b3]) fp
  have x2 := same_upd (o := .tup [V.ref p]) fr
  have kx := keepT_of (x1.trans x2)
  refine q _ _ ((sA.trans x1).trans x2) ?_
  unfold fif
  rw [if_neg n1, if_neg (fun z => z.elim n2 n3)]
  exact .mk upd_same (.one (.ite (.inl (x2 _ _ upd_same)) (g1.keep kx) (t2.keep kx) (w2.keep kx) (t3.keep kx) (w3.keep kx)))
/-! ### _fold_statement -/
def sp_fold_statement (T : Txt K mg) (n : Nat) : Sp := fun vs H Q _ => ∃ (v : V) (o : Addr) (z : St) (ns ps : List Str) (on : Str → Bool) (ko : List (Key × V)), vs = [v, .ref o] ∧ Sv K H v z ∧ z.lv ≤ n ∧ n < 8 ∧ z.sz ≤ 1000000 ∧ z.Wf ns ps ∧ Oks ns ∧ Oks ps ∧ H o = some (.dK ko) ∧ (∀ x ∈ ps, valV ko (.inr x) = some (.bl (on x))) ∧
  ∀ (u : V) (H' : Hp), Same H H' → Bk K H' u (foldS on z) → Q u H'

theorem ok_fold_statement (T : Txt K mg) {n : Nat} (G : FnOk P w K mg base CX0 (15 + 3 * n) T.a_fold_block T.d_fold_block ["block", "on"] (sp_fold_block T n)) : FnOk P w K mg base CX0 (15 + 3 * n + 2) T.a_fold_statement T.d_fold_statement ["statement", "on"] (sp_fold_statement T n) := by
  refine T.F_fold_statement.ok sc_fold_statement (fun vs H Q E h => ?_) (fun cdv A outer s H vs Q E hr h => ?_)
  · obtain ⟨v, o, z, ns, ps, on, ko, rfl, _⟩ := h
    rfl
  obtain ⟨v, o, z, ns, ps, on, ko, rfl, hv, hl, h8, hz, hw, oks, okp, ho, hov, q⟩ := h
  refine ⟨_, (pss_cons (ps_set (i := 2) sc_fold_statement.nd rfl (by first | exact Or.inl rfl | exact Or.inr rfl) (pe_ix ix_tup (pv 0) pe_int (fun _ _ => rfl)))
      (pss_cons (ps_if (pt_cmpR op_eq (pv 2) pe_str (nomark _)) (pss_one (ps_ret (pe_call (ok_fold_if T G) (hr.mono (by omega)) (by rfl) T.m_fold_if T.F_fold_if.kp T.b_fold_if .nil pass0 (pa_cons (pv 0) (pa_cons (pv 1) pa_nil))))) pss_nil)
      (pss_cons (ps_if (pt_cmpR op_eq (pv 2) pe_str (nomark _)) (pss_one (ps_ret (pe_call G (hr.mono (by omega)) (by rfl) T.m_fold_block T.F_fold_block.kp T.b_fold_block .nil pass0 (pa_cons (pe_ifExp (pt_truth (pe_dget (d_room hr) (pv 1) (pe_ix ix_tup (pv 0) pe_int (fun _ _ => rfl)) (fun _ _ => rfl)) (fun _ => rfl)) (pe_ix ix_tup (pv 0) pe_int (fun _ _ => rfl)) (pe_ix ix_tup (pv 0) pe_int (fun _ _ => rfl))) (pa_cons (pv 1) pa_nil))))) pss_nil)
      (pss_cons (ps_if (pt_cmpR op_eq (pv 2) pe_str (nomark _)) (pss_cons (ps_set (i := 3) sc_fold_statement.nd rfl (by first | exact Or.inl rfl | exact Or.inr rfl) (pe_call (ok_fold_expression T 13) (hr.mono (by omega)) (by rfl) T.m_fold_expression T.F_fold_expression.kp T.b_fold_expression .nil pass0 (pa_cons (pe_ix ix_tup (pv 0) pe_int (fun _ _ => rfl)) (pa_cons (pv 1) pa_nil))))
      (pss_one (ps_ret (pe_ifExp (pt_cmpR (op_eqD (eq_room hr)) (pv 3) (pe_tup (pa_cons pe_str (pa_cons (pe_ix ix_tup (pv 0) pe_int (fun _ _ => rfl)) pa_nil))) (nomark _)) (pe_tup pa_nil) (pe_tup (pa_cons (pe_tup (pa_cons pe_str (pa_cons (pe_ix ix_tup (pv 0) pe_int (fun _ _ => rfl)) (pa_cons (pv 3) pa_nil)))) pa_nil)))))) pss_nil)
      (pss_cons (ps_if (pt_cmpR op_eq (pv 2) pe_str (nomark _)) (pss_one (ps_ret (pe_tup (pa_cons (pe_tup (pa_cons pe_str (pa_cons (pe_ix ix_tup (pv 0) pe_int (fun _ _ => rfl)) (pa_cons (pe_call (ok_fold_expression T 13) (hr.mono (by omega)) (by rfl) T.m_fold_expression T.F_fold_expression.kp T.b_fold_expression .nil pass0 (pa_cons (pe_ix ix_tup (pv 0) pe_int (fun _ _ => rfl)) (pa_cons (pv 1) pa_nil))) pa_nil)))) pa_nil)))) pss_nil)
      (pss_cons (ps_if (pt_cmpR op_in_seq (pv 2) (pe_tup (pa_cons pe_str (pa_cons pe_str pa_nil))) (by with_unfolding_all rfl)) (pss_cons (ps_set (i := 3) sc_fold_statement.nd rfl (by first | exact Or.inl rfl | exact Or.inr rfl) (pe_call (ok_fold_expression T 13) (hr.mono (by omega)) (by rfl) T.m_fold_expression T.F_fold_expression.kp T.b_fold_expression .nil pass0 (pa_cons (pe_ix ix_tup (pv 0) pe_int (fun _ _ => rfl)) (pa_cons (pv 1) pa_nil))))
      (pss_one (ps_ret (pe_ifExp (pt_cmpR (op_eqD (eq_room hr)) (pv 3) (pe_glob (v := .ref T.A_ZERO) (by rfl) T.g_ZERO rfl) (nomark _)) (pe_tup pa_nil) (pe_tup (pa_cons (pe_tup (pa_cons (pv 2) (pa_cons (pv 3) pa_nil))) pa_nil)))))) pss_nil)
      (pss_one (ps_ret (pe_tup (pa_cons (pv 0) pa_nil)))))))))), ?_⟩
  obtain ⟨m1, m2, m3, m4, m5, m6, m7, m8, m9, m10, m11, m12, m13, m14, m15, m16, m17, m18, m19, m20, m21, m22, m23, m24, m25, m26, m27, m28, m29, m30, m31, m32, m33, m34, m35, m36, m37, m38, m39, m40⟩ := stag_ne
  have hv0 := hv
  cases hv with
  | @ite a b c v e vs ws t f ha he hb hB hc hC =>
    refine ⟨_, rfl, a, _, 0, .str "if", rfl, rfl, ha.sq, atI_nat (j := 0) rfl, ?_⟩
    refine ⟨_, rfl, rfl, _, rfl, iteS ?_⟩
    exact ⟨_, rfl, _, rfl, .ref a, o, e, t, f, ns, ps, on, ko, rfl, hv0, hl, by omega, hz, hw, oks, okp, ho, hov, q⟩
  | @whn a b c x vs ws t f ha hb hB hc hC =>
    have hl' : max (lvL t) (lvL f) + 1 ≤ n := hl
    have hz' : 1 + szL t + szL f ≤ 1000000 := hz
    rw [foldS] at q
    refine ⟨_, rfl, a, _, 0, .str "when", rfl, rfl, ha.sq, atI_nat (j := 0) rfl, ?_⟩
    refine ⟨_, rfl, rfl, _, rfl, iteN m22 ?_⟩
    refine ⟨_, rfl, rfl, _, rfl, iteS ?_⟩
    refine ⟨_, rfl, _, rfl, a, _, 1, .str x, rfl, rfl, ha.sq, atI_nat (j := 1) rfl, o, _, rfl, dget_of ho (hov x hw.1), _, rfl, ite2 (fun c => ?_) (fun c => ?_)⟩
    · rw [if_pos c] at q
      exact ⟨_, rfl, a, _, 2, _, rfl, rfl, ha.sq, atI_nat (j := 2) rfl, _, rfl, _, o, t, ns, ps, on, ko, rfl, ⟨b, vs, rfl, hb, hB⟩, by omega, by omega, by omega, hw.2.1, oks, okp, ho, hov, q⟩
    · rw [if_neg c] at q
      exact ⟨_, rfl, a, _, 3, _, rfl, rfl, ha.sq, atI_nat (j := 3) rfl, _, rfl, _, o, f, ns, ps, on, ko, rfl, ⟨_, ws, rfl, hc, hC⟩, by omega, by omega, by omega, hw.2.2, oks, okp, ho, hov, q⟩
  | @set a x v e ha he =>
    rw [foldS] at q
    refine ⟨_, rfl, a, _, 0, .str "set", rfl, rfl, ha.sq, atI_nat (j := 0) rfl, ?_⟩
    refine ⟨_, rfl, rfl, _, rfl, iteN m1 ?_⟩
    refine ⟨_, rfl, rfl, _, rfl, iteN m2 ?_⟩
    refine ⟨_, rfl, rfl, _, rfl, iteS ?_⟩
    refine ⟨_, rfl, a, _, 2, v, rfl, rfl, ha.sq, atI_nat (j := 2) rfl, _, rfl, v, o, e, ns, ps, on, ko, rfl, he, hw.2.2, by decide, hw.2.1, oks, okp, ho, hov, fun u1 H1 s1 g1 => ?_⟩
    have fw := fold_wf (on := on) e hw.2.1
    have fd := fold_deep (on := on) e
    have xw : (Ex.var x).Wf ns ps := hw.1
    have sh := dat_shaped oks okp fw (by have := hw.2.2; omega)
    have sx := dat_shaped oks okp xw (show 1 ≤ 64 by decide)
    have ha1 := ha.keep (keepT_of s1)
    refine ⟨_, rfl, _, rfl, a, _, 1, .str x, rfl, rfl, ha1.sq, atI_nat (j := 1) rfl, by show 2 ≤ sizeLine; decide, fun p fp => ?_⟩
    have x1 := same_upd (o := .tup [V.str "variable", .str x]) fp
    have hx : EvK K (upd H1 p (.tup [V.str "variable", .str x])) (.ref p) (.var x) := .var (.inl upd_same)
    refine ⟨(foldE on e).dat, (Ex.var x).dat, (g1.keep (keepT_of x1)).dp, hx.dp, sh, sx, _, rfl, ite2 (fun c1 => ?_) (fun c1 => ?_)⟩
    · rw [if_pos (eqc oks okp fw c1)] at q
      refine ⟨by show 0 ≤ sizeLine; decide, fun r fr => ?_⟩
      exact q _ _ ((s1.trans x1).trans (same_upd fr)) (.mk upd_same .nil)
    · rw [if_neg (nec oks okp fw c1)] at q
      refine ⟨_, rfl, a, _, 1, .str x, rfl, rfl, (ha1.keep (keepT_of x1)).sq, atI_nat (j := 1) rfl, _, rfl, by show 3 ≤ sizeLine; decide, fun r fr => ⟨by show 1 ≤ sizeLine; decide, fun w fw2 => ?_⟩⟩
      have x2 := same_upd (o := .tup [V.str "set", .str x, u1]) fr
      have x3 := same_upd (o := .tup [V.ref r]) fw2
      exact q _ _ (((s1.trans x1).trans x2).trans x3) (.mk upd_same (.one (.set (.inl (x3 _ _ upd_same)) (g1.keep (keepT_of ((x1.trans x2).trans x3))))))
  | @«show» a m v e ha he =>
    rw [foldS] at q
    refine ⟨_, rfl, a, _, 0, .str "show", rfl, rfl, ha.sq, atI_nat (j := 0) rfl, ?_⟩
    refine ⟨_, rfl, rfl, _, rfl, iteN m11 ?_⟩
    refine ⟨_, rfl, rfl, _, rfl, iteN m12 ?_⟩
    refine ⟨_, rfl, rfl, _, rfl, iteN m13 ?_⟩
    refine ⟨_, rfl, rfl, _, rfl, iteS ?_⟩
    refine ⟨_, rfl, a, _, 1, .int m, rfl, rfl, ha.sq, atI_nat (j := 1) rfl, _, rfl, a, _, 2, v, rfl, rfl, ha.sq, atI_nat (j := 2) rfl, _, rfl, v, o, e, ns, ps, on, ko, rfl, he, hw.2, by decide, hw.1, oks, okp, ho, hov, fun u1 H1 s1 g1 => ⟨by show 3 ≤ sizeLine; decide, fun r fr => ⟨by show 1 ≤ sizeLine; decide, fun w fw2 => ?_⟩⟩⟩
    have x2 := same_upd (o := .tup [V.str "show", .int m, u1]) fr
    have x3 := same_upd (o := .tup [V.ref r]) fw2
    exact q _ _ ((s1.trans x2).trans x3) (.mk upd_same (.one (.show (.inl (x3 _ _ upd_same)) (g1.keep (keepT_of (x2.trans x3))))))
  | @pay a s v e ha he =>
    rw [foldS] at q
    have d : s ≠ "if" ∧ s ≠ "when" ∧ s ≠ "set" ∧ s ≠ "show" ∧ inV (V.str s) [V.str "pay", V.str "take"] = true := by
      rcases hw.1 with rfl | rfl
      · exact ⟨m14, m15, m16, m17, by decide +kernel⟩
      · exact ⟨m18, m19, m20, m21, by decide +kernel⟩
    obtain ⟨d1, d2, d3, d4, d5⟩ := d
    refine ⟨_, rfl, a, _, 0, .str s, rfl, rfl, ha.sq, atI_nat (j := 0) rfl, ?_⟩
    refine ⟨_, rfl, rfl, _, rfl, iteN d1 ?_⟩
    refine ⟨_, rfl, rfl, _, rfl, iteN d2 ?_⟩
    refine ⟨_, rfl, rfl, _, rfl, iteN d3 ?_⟩
    refine ⟨_, rfl, rfl, _, rfl, iteN d4 ?_⟩
    refine ⟨_, rfl, by show 2 ≤ sizeLine; decide, fun U fU => ⟨U, _, rfl, .inr (SqT.of upd_same), rfl, rfl, _, rfl, ite2 (fun _ => ?_) (fun c => absurd d5 c)⟩⟩
    have sU := same_upd (o := .tup [V.str "pay", V.str "take"]) fU
    refine ⟨_, rfl, a, _, 1, v, rfl, rfl, (ha.keep (keepT_of sU)).sq, atI_nat (j := 1) rfl, _, rfl, v, o, e, ns, ps, on, ko, rfl, he.keep (keepT_of sU), hw.2.2, by decide, hw.2.1, oks, okp, sU _ _ ho, hov, fun u1 H1 s1 g1 => ?_⟩
    have fw := fold_wf (on := on) e hw.2.1
    have fd := fold_deep (on := on) e
    have sh := dat_shaped oks okp fw (by have := hw.2.2; omega)
    have sB := sU.trans s1
    refine ⟨_, rfl, (foldE on e).dat, exZ.dat, g1.dp, (zK T _).1.dp, sh, shZ.1, _, rfl, ite2 (fun c1 => ?_) (fun c1 => ?_)⟩
    · rw [if_pos (eqc oks okp fw c1)] at q
      refine ⟨by show 0 ≤ sizeLine; decide, fun r fr => ?_⟩
      exact q _ _ (sB.trans (same_upd fr)) (.mk upd_same .nil)
    · rw [if_neg (nec oks okp fw c1)] at q
      refine ⟨_, rfl, _, rfl, by show 2 ≤ sizeLine; decide, fun r fr => ⟨by show 1 ≤ sizeLine; decide, fun w fw2 => ?_⟩⟩
      have x2 := same_upd (o := .tup [V.str s, u1]) fr
      have x3 := same_upd (o := .tup [V.ref r]) fw2
      exact q _ _ ((sB.trans x2).trans x3) (.mk upd_same (.one (.pay (.inl (x3 _ _ upd_same)) (g1.keep (keepT_of (x2.trans x3))))))
  | @draw a x m ha =>
    rw [foldS] at q
    refine ⟨_, rfl, a, _, 0, .str "draw", rfl, rfl, ha.sq, atI_nat (j := 0) rfl, ?_⟩
    refine ⟨_, rfl, rfl, _, rfl, iteN m3 ?_⟩
    refine ⟨_, rfl, rfl, _, rfl, iteN m4 ?_⟩
    refine ⟨_, rfl, rfl, _, rfl, iteN m5 ?_⟩
    refine ⟨_, rfl, rfl, _, rfl, iteN m6 ?_⟩
    refine ⟨_, rfl, by show 2 ≤ sizeLine; decide, fun U fU => ⟨U, _, rfl, .inr (SqT.of upd_same), rfl, rfl, _, rfl, ite2 (fun c => absurd c (show ¬ inV (V.str "draw") [V.str "pay", V.str "take"] = true by decide +kernel)) (fun c => ?_)⟩⟩
    have sU := same_upd (o := .tup [V.str "pay", V.str "take"]) fU
    refine ⟨_, rfl, by show 1 ≤ sizeLine; decide, fun r fr => ?_⟩
    have x2 := same_upd (o := .tup [V.ref a]) fr
    exact q _ _ (sU.trans x2) (.mk upd_same (.one (hv0.keep (keepT_of (sU.trans x2)))))
  | @move a p m k x ha =>
    rw [foldS] at q
    refine ⟨_, rfl, a, _, 0, .str "move", rfl, rfl, ha.sq, atI_nat (j := 0) rfl, ?_⟩
    refine ⟨_, rfl, rfl, _, rfl, iteN m7 ?_⟩
    refine ⟨_, rfl, rfl, _, rfl, iteN m8 ?_⟩
    refine ⟨_, rfl, rfl, _, rfl, iteN m9 ?_⟩
    refine ⟨_, rfl, rfl, _, rfl, iteN m10 ?_⟩
    refine ⟨_, rfl, by show 2 ≤ sizeLine; decide, fun U fU => ⟨U, _, rfl, .inr (SqT.of upd_same), rfl, rfl, _, rfl, ite2 (fun c => absurd c (show ¬ inV (V.str "move") [V.str "pay", V.str "take"] = true by decide +kernel)) (fun c => ?_)⟩⟩
    have sU := same_upd (o := .tup [V.str "pay", V.str "take"]) fU
    refine ⟨_, rfl, by show 1 ≤ sizeLine; decide, fun r fr => ?_⟩
    have x2 := same_upd (o := .tup [V.ref a]) fr
    exact q _ _ (sU.trans x2) (.mk upd_same (.one (hv0.keep (keepT_of (sU.trans x2)))))
/-! ### fold_block -/
theorem step_fold_block (T : Txt K mg) {n : Nat} (G : FnOk P w K mg base CX0 (15 + 3 * n) T.a_fold_block T.d_fold_block ["block", "on"] (sp_fold_block T n)) : FnOk P w K mg base CX0 (15 + 3 * n + 3) T.a_fold_block T.d_fold_block ["block", "on"] (sp_fold_block T (n + 1)) := by
  refine T.F_fold_block.ok sc_fold_block (fun vs H Q E h => ?_) (fun cdv A outer s H vs Q E hr h => ?_)
  · obtain ⟨v, o, ss, ns, ps, on, ko, rfl, _⟩ := h
    rfl
  obtain ⟨v, o, ss, ns, ps, on, ko, rfl, hv, hl, h8, hz, hw, oks, okp, ho, hov, q⟩ := h
  refine ⟨_, (pss_cons (ps_set (i := 2) sc_fold_block.nd rfl (by first | exact Or.inl rfl | exact Or.inr rfl) (pe_lst pa_nil))
      (pss_cons (ps_for PassesOwn.never rfl (pi_tup (pv 0)) (pg_name (i := 3) sc_fold_block.nd rfl (by first | exact Or.inl rfl | exact Or.inr rfl)) (pss_one (ps_expr (pe_bm PySem.F.plainAttrs_list PySem.F.slot_list_extend PySem.F.type_list_extend mt_extendT (pv 2) (pa_cons (pe_call (ok_fold_statement T G) (hr.mono (by omega)) (by rfl) T.m_fold_statement T.F_fold_statement.kp T.b_fold_statement .nil pass0 (pa_cons (pv 3) (pa_cons (pv 1) pa_nil))) pa_nil)))))
      (pss_one (ps_ret (pe_callTy call_tuple_of (by rfl) T.z_tuple (by first | exact PySem.boot_tuple | decide +kernel) (pa_cons (pv 2) pa_nil)))))), ?_⟩
  obtain ⟨b, vs, rfl, hb, hB⟩ := hv
  refine ⟨by show 0 ≤ sizeLine; decide, fun W fW => ?_⟩
  have sW := same_upd (o := .lst []) fW
  have hlen := hB.len
  refine ⟨_, rfl, b, rfl, ⟨_, (hb.keep (keepT_of sW)).sq⟩, for_tup (K := K) (a := b) (xs := vs) (fun i σ' H' => ∃ (y : Option V) (ws : List V), σ' = [some (.ref b), some (.ref o), some (.ref W), y] ∧ Same H H' ∧ H' W = some (.lst ws) ∧ Bv K H' ws (foldB on (ss.take i)))
    ⟨_, [], rfl, sW, upd_same, by rw [List.take_zero, foldB]; exact .nil⟩ ?_ ?_ ?_⟩
  · rintro i σ' H' _ ⟨y, ws, rfl, s1, _⟩
    exact (hb.keep (keepT_of s1)).sq
  · rintro i x σ' H' hi ⟨y, ws, rfl, s1, e1, w1⟩
    obtain ⟨z, hz1, hs1⟩ := hB.get hi
    have zw := wfL_get hw hz1
    have zl := lvL_get hz1
    have zz := szL_get hz1
    have k1 := keepT_of s1
    refine ⟨_, rfl, .inl ⟨rfl, _, SqL.of e1⟩, _, rfl, _, rfl, x, o, z, ns, ps, on, ko, rfl, hs1.keep k1, by omega, by omega, by omega, zw, oks, okp, s1 _ _ ho, hov, fun u H2 s2 hu => ?_⟩
    obtain ⟨c, us, rfl, hc, hC⟩ := hu
    have e2 := s2 _ _ e1
    have kl := keepT_lst (ys := ws ++ us) e2
    have l1 := w1.len
    have l2 := hC.len
    have l3 := len_sz (foldB on (ss.take i))
    have l4 := len_sz (foldS on z)
    have l5 := (foldS_ok (on := on) z zw).2.2
    have l6 : szL (foldB on (ss.take i)) ≤ 1000000 := by
      have w : ∀ i, WfL ns ps (ss.take i) ∧ szL (ss.take i) ≤ szL ss := by
        intro i
        have e := List.take_append_drop i ss
        have sp : ∀ {a c : List St}, WfL ns ps (a ++ c) → WfL ns ps a := by
          intro a
          induction a with
          | nil => intro c _; exact trivial
          | cons x r ih => intro c h; exact ⟨h.1, ih h.2⟩
        refine ⟨sp (c := ss.drop i) (by rw [e]; exact hw), ?_⟩
        have := szL_app (ss.take i) (ss.drop i)
        rw [e] at this
        omega
      have := (foldB_ok (on := on) _ (w i).1).2.2
      have := (w i).2
      omega
    refine ⟨W, c, ws, us, rfl, rfl, e2, hc.sq, by rw [sizeLine_eq]; omega, ⟨_, ws ++ us, rfl, same_at (s1.trans s2) fW, upd_same, ?_⟩⟩
    rw [foldB_take hz1]
    exact ((w1.keep (keepT_of s2)).keep kl).app (hC.keep kl)
  · rintro σ' H' ⟨y, ws, rfl, s1, e1, w1⟩
    rw [List.take_of_length_le (by omega)] at w1
    refine ⟨_, rfl, W, ws, rfl, .inl ⟨SqL.of e1, fun r fr => ?_⟩⟩
    exact q _ _ (s1.trans (same_upd fr)) (.mk upd_same (w1.keep (keepT_of (same_upd fr))))
theorem ok_fold_block (T : Txt K mg) : ∀ n, FnOk P w K mg base CX0 (15 + 3 * n) T.a_fold_block T.d_fold_block ["block", "on"] (sp_fold_block T n)
  | 0 => ⟨fun vs H Q E h => absurd h (no_fold_block T vs H Q E), fun A outer s H args us vs Q E _ _ _ _ h => absurd h (no_fold_block T vs H Q E)⟩
  | n + 1 => step_fold_block T (ok_fold_block T n)
/-! ### _law_pool -/
def sp_law_pool (T : Txt K mg) : Sp := fun vs H Q _ => ∃ (a : Addr) (ns : List Int) (b : Int), vs = [.ref a, .int b] ∧ SqL K H a (ns.map V.int) ∧ ∀ (p c : Addr) (H' : Hp), Same H H' → H p = none → H c = none → Pool H' p c b → Q (.ref p) H'

theorem ok_law_pool (T : Txt K mg) : FnOk P w K mg base CX0 1 T.a_law_pool T.d_law_pool ["script", "budget"] (sp_law_pool T) := by
  refine T.F_law_pool.ok sc_law_pool (fun vs H Q E h => ?_) (fun cdv A outer s H vs Q E hr h => ?_)
  · obtain ⟨a, ns, b, rfl, _⟩ := h
    rfl
  obtain ⟨a, ns, b, rfl, hS, q⟩ := h
  refine ⟨_, (pss_one (ps_ret (pe_lst (pa_cons (pe_callTy call_list_of (by rfl) T.z_list (by first | exact PySem.boot_list | decide +kernel) (pa_cons (pv 0) pa_nil)) (pa_cons pe_int (pa_cons pe_int (pa_cons pe_int (pa_cons pe_int (pa_cons (pv 1) pa_nil))))))))), ?_⟩
  refine ⟨_, rfl, a, _, rfl, .inl hS, fun c hc => ⟨_, rfl, by show 6 ≤ sizeLine; decide, fun p hp => ?_⟩⟩
  refine q p c _ (upd2_same hc hp) ((same_upd hc).free hp) hc ⟨ns, 0, 0, 1, 0, upd_same, same_upd hp _ _ upd_same, Int.le_refl 0, fun z => ?_⟩
  rw [z] at hp
  rw [upd_same] at hp
  cases hp
/-! ### _law_draw -/
def sp_law_draw (T : Txt K mg) : Sp := fun vs H Q _ => ∃ (p c : Addr) (n b : Int), vs = [.ref p, .int n] ∧ 0 < n ∧ n < 1073741824 ∧ Pool H p c b ∧ ∀ (k : Int) (H' : Hp), 0 ≤ k → k < n → But p H H' → Pool H' p c b → Q (.int k) H'

theorem ok_law_draw (T : Txt K mg) : FnOk P w K mg base CX0 1 T.a_law_draw T.d_law_draw ["pool", "size"] (sp_law_draw T) := by
  refine T.F_law_draw.ok sc_law_draw (fun vs H Q E h => ?_) (fun cdv A outer s H vs Q E hr h => ?_)
  · obtain ⟨p, c, n, b, rfl, _⟩ := h
    rfl
  obtain ⟨p, c, n, b, rfl, hn, hn2, hP, q⟩ := h
  have hP0 := hP
  obtain ⟨ns, i, r, u, t, hp, hc, hi, hcp⟩ := hP
  refine ⟨_, (C8.pss_cut (ps_if (PW.pt (pw_and (pt_cmpR op_le (pe_ix ix_list (pv 0) pe_int (fun _ _ => rfl)) pe_int (nomark _)) (pw_and (pt_cmpR op_le (pe_ix ix_list (pv 0) pe_int (fun _ _ => rfl)) pe_int (nomark _)) (pw_and1 (pt_cmpR op_lt (pe_ix ix_list (pv 0) pe_int (fun _ _ => rfl)) (pe_callB call_len_seq (by rfl) T.z_len (by first | exact PySem.boot_len | decide +kernel) (pa_cons (pe_ix ix_list (pv 0) pe_int (fun _ _ => rfl)) pa_nil)) (nomark _)))))) (pss_cons (ps_set (i := 2) sc_law_draw.nd rfl (by first | exact Or.inl rfl | exact Or.inr rfl) (pe_ix ix_list (pe_ix ix_list (pv 0) pe_int (fun _ _ => rfl)) (pe_ix ix_list (pv 0) pe_int (fun _ _ => rfl)) (fun _ _ => rfl)))
      (pss_cons (ps_asg (pe_op op_add (pe_ix ix_list (pv 0) pe_int (fun _ _ => rfl)) pe_int) (pg_sub (pv 0) pe_int set_list))
      (pss_cons (ps_asg (pe_op op_mod (pe_callTy call_int1 (by rfl) T.z_int (by first | exact PySem.boot_int | decide +kernel) (pa_cons (pe_op op_add (pe_op op_mul (pe_ix ix_list (pv 0) pe_int (fun _ _ => rfl)) pe_int) (pv 2)) pa_nil)) pe_int) (pg_sub (pv 0) pe_int set_list))
      (pss_cons (ps_asg pe_int (pg_sub (pv 0) pe_int set_list))
      (pss_one (ps_if (pt_cmpR op_ge (pv 2) (pe_op op_pow pe_int pe_int) (nomark _)) (pss_one (ps_asg (pv 2) (pg_sub (pv 0) pe_int set_list))) pss_nil)))))) pss_nil)
      (pss_cons (ps_if (pt_cmpR op_gt (pe_ix ix_list (pv 0) pe_int (fun _ _ => rfl)) pe_int (nomark _)) (pss_cons (ps_set (i := 3) sc_law_draw.nd rfl (by first | exact Or.inl rfl | exact Or.inr rfl) (pe_op op_mod (pe_callTy call_int1 (by rfl) T.z_int (by first | exact PySem.boot_int | decide +kernel) (pa_cons (pe_ix ix_list (pv 0) pe_int (fun _ _ => rfl)) pa_nil)) (pv 1)))
      (pss_cons (ps_asg (pe_op op_fdiv (pe_ix ix_list (pv 0) pe_int (fun _ _ => rfl)) (pv 1)) (pg_sub (pv 0) pe_int set_list))
      (pss_cons (ps_asg pe_int (pg_sub (pv 0) pe_int set_list))
      (pss_one (ps_ret (pv 3)))))) pss_nil)
      (pss_cons (ps_asg (pe_op op_sub (pe_ix ix_list (pv 0) pe_int (fun _ _ => rfl)) pe_int) (pg_sub (pv 0) pe_int set_list))
      (pss_cons (ps_asg (pe_op op_mod (pe_callTy call_int1 (by rfl) T.z_int (by first | exact PySem.boot_int | decide +kernel) (pa_cons (pe_op op_add (pe_op op_mul (pe_ix ix_list (pv 0) pe_int (fun _ _ => rfl)) pe_int) pe_int) pa_nil)) pe_int) (pg_sub (pv 0) pe_int set_list))
      (pss_one (ps_ret (pe_op op_mod (pe_op op_mod (pe_callTy call_int1 (by rfl) T.z_int (by first | exact PySem.boot_int | decide +kernel) (pa_cons (pe_op op_add (pe_op op_mul (pe_ix ix_list (pv 0) pe_int (fun _ _ => rfl)) pe_int) pe_int) pa_nil)) pe_int) (pv 1)))))))), ?_⟩
  let ps : Int → Int → Int → Int → List V := fun i r u t => [.ref c, .int i, .int r, .int u, .int t, .int b]
  have at0 : ∀ i r u t, atI (ps i r u t) 0 = some (.ref c) := fun _ _ _ _ => atI_nat (j := 0) rfl
  have at1 : ∀ i r u t, atI (ps i r u t) 1 = some (.int i) := fun _ _ _ _ => atI_nat (j := 1) rfl
  have at2 : ∀ i r u t, atI (ps i r u t) 2 = some (.int r) := fun _ _ _ _ => atI_nat (j := 2) rfl
  have at3 : ∀ i r u t, atI (ps i r u t) 3 = some (.int u) := fun _ _ _ _ => atI_nat (j := 3) rfl
  have at4 : ∀ i r u t, atI (ps i r u t) 4 = some (.int t) := fun _ _ _ _ => atI_nat (j := 4) rfl
  refine ⟨fun σ' H' => ∃ y i r u t, σ' = [some (.ref p), some (.int n), y, none] ∧ But p H H' ∧ H' p = some (.lst (ps i r u t)) ∧ 0 ≤ i, ?_, ?_⟩
  · refine ⟨_, rfl, p, _, 2, .int r, rfl, rfl, SqL.of hp, at2 _ _ _ _, _, _, rfl, rfl, _, rfl, ite2 (fun _ => ?_) (fun _ => ⟨none, i, r, u, t, rfl, But.refl _ _, hp, hi⟩)⟩
    refine ⟨_, rfl, p, _, 4, .int t, rfl, rfl, SqL.of hp, at4 _ _ _ _, _, _, rfl, rfl, _, rfl, ite2 (fun _ => ?_) (fun _ => ⟨none, i, r, u, t, rfl, But.refl _ _, hp, hi⟩)⟩
    refine ⟨_, rfl, p, _, 1, .int i, rfl, rfl, SqL.of hp, at1 _ _ _ _, _, rfl, p, _, 0, .ref c, rfl, rfl, SqL.of hp, at0 _ _ _ _, c, _, rfl, .inl (SqL.of hc), _, _, rfl, rfl, _, rfl, ite2 (fun c3 => ?_) (fun _ => ⟨none, i, r, u, t, rfl, But.refl _ _, hp, hi⟩)⟩
    have c3' : i < (((ns.map V.int).length : Nat) : Int) := of_decide_eq_true c3
    rw [List.length_map] at c3'
    have hlt : i.toNat < ns.length := by omega
    have gi : (ns.map V.int)[i.toNat]? = some (.int ns[i.toNat]) := by rw [List.getElem?_map, List.getElem?_eq_getElem hlt]; rfl
    -- cell = pool[0][pool[1]]
    refine ⟨_, rfl, p, _, 0, .ref c, rfl, rfl, SqL.of hp, at0 _ _ _ _, _, rfl, p, _, 1, .int i, rfl, rfl, SqL.of hp, at1 _ _ _ _, c, _, i, _, rfl, rfl, SqL.of hc, at_of (j := i.toNat) (by omega) gi, ?_⟩
    generalize ns[i.toNat] = z
    -- pool[1] = pool[1] + 1; pool[3] = ..; pool[4] = 7
    refine ⟨_, rfl, p, _, 1, .int i, rfl, rfl, SqL.of hp, at1 _ _ _ _, _, _, rfl, rfl, _, rfl, p, _, 1, 1, rfl, rfl, hp, rfl, ?_⟩
    refine ⟨_, rfl, p, ps (i + 1) r u t, 3, .int u, rfl, rfl, SqL.of upd_same, at3 _ _ _ _, _, _, rfl, rfl, .inr ⟨by decide, by decide⟩, _, rfl, _, _, rfl, rfl, .inl ⟨_, rfl, _, _, rfl, rfl, by show (0 : Int) < 2147483647; decide, _, rfl, p, ps (i + 1) r u t, 3, 3, rfl, rfl, upd_same, rfl, ?_⟩⟩
    rw [upd_upd]
    refine ⟨_, rfl, p, ps (i + 1) r ((u * 31 + z) % 2147483647) t, 4, 4, rfl, rfl, upd_same, rfl, ?_⟩
    rw [upd_upd]
    -- if cell >= 10 ** 18: pool[2] = cell
    refine ⟨_, rfl, _, _, rfl, rfl, ⟨by decide, by decide, by decide⟩, _, _, rfl, rfl, _, rfl, ite2 (fun _ => ?_) (fun _ => ?_)⟩
    · refine ⟨_, rfl, _, rfl, p, ps (i + 1) r ((u * 31 + z) % 2147483647) 7, 2, 2, rfl, rfl, upd_same, rfl, ?_⟩
      rw [upd_upd]
      exact ⟨_, i + 1, z, _, 7, rfl, but_upd, upd_same, by omega⟩
    · exact ⟨_, i + 1, r, _, 7, rfl, but_upd, upd_same, by omega⟩
  clear hp hi at0
  rintro σ1 H1 ⟨y, i, r, u, t, rfl, b1, hp, hi⟩
  have hc1 : H1 c = some (.lst (ns.map V.int)) := b1 _ _ hcp hc
  refine ⟨_, rfl, p, _, 2, .int r, rfl, rfl, SqL.of hp, at2 _ _ _ _, _, _, rfl, rfl, _, rfl, ite2 (fun _ => ?_) (fun _ => ?_)⟩
  · -- a large cell is used up
    refine ⟨_, rfl, p, _, 2, .int r, rfl, rfl, SqL.of hp, at2 _ _ _ _, .inl ⟨_, rfl, _, rfl, _, _, rfl, rfl, hn, ?_⟩⟩
    refine ⟨_, rfl, p, _, 2, .int r, rfl, rfl, SqL.of hp, at2 _ _ _ _, _, rfl, _, _, rfl, rfl, ⟨hn, hn2⟩, _, rfl, p, _, 2, 2, rfl, rfl, hp, rfl, ?_⟩
    refine ⟨_, rfl, p, ps i (r / n) u t, 4, 4, rfl, rfl, upd_same, rfl, ?_⟩
    rw [upd_upd]
    refine ⟨_, rfl, q _ _ (Int.emod_nonneg _ (by omega)) (Int.emod_lt_of_pos _ hn) (b1.trans but_upd) ⟨ns, i, r / n, u, 0, upd_same, ?_, hi, hcp⟩⟩
    rw [upd_ne hcp]
    exact hc1
  · refine ⟨_, rfl, p, _, 4, .int t, rfl, rfl, SqL.of hp, at4 _ _ _ _, _, _, rfl, rfl, _, rfl, p, _, 4, 4, rfl, rfl, hp, rfl, ?_⟩
    refine ⟨_, rfl, p, ps i r u (t - 1), 3, .int u, rfl, rfl, SqL.of upd_same, at3 _ _ _ _, _, _, rfl, rfl, .inr ⟨by decide, by decide⟩, _, _, rfl, rfl, .inl ⟨_, rfl, _, _, rfl, rfl, by show (0 : Int) < 2147483647; decide, _, rfl, p, ps i r u (t - 1), 3, 3, rfl, rfl, upd_same, rfl, ?_⟩⟩
    rw [upd_upd]
    refine ⟨_, rfl, p, ps i r ((u * 48271 + 12345) % 2147483647) (t - 1), 3, _, rfl, rfl, SqL.of upd_same, at3 _ _ _ _, _, _, rfl, rfl, .inr ⟨by decide, by decide⟩, _, _, rfl, rfl, .inl ⟨_, rfl, _, _, rfl, rfl, by show (0 : Int) < 2147483647; decide, _, rfl, _, _, rfl, rfl, hn, ?_⟩⟩
    refine q _ _ (Int.emod_nonneg _ (by omega)) (Int.emod_lt_of_pos _ hn) (b1.trans but_upd) ⟨ns, i, r, _, t - 1, upd_same, ?_, hi, hcp⟩
    rw [upd_ne hcp]
    exact hc1
/-! ### _law_spend -/
def sp_law_spend (T : Txt K mg) : Sp := fun vs H Q _ => ∃ (p c : Addr) (b : Int), vs = [.ref p] ∧ Pool H p c b ∧ ∀ (k : Bool) (H' : Hp) (b' : Int), But p H H' → Pool H' p c b' → Q (.bl k) H'

theorem ok_law_spend (T : Txt K mg) : FnOk P w K mg base CX0 1 T.a_law_spend T.d_law_spend ["pool"] (sp_law_spend T) := by
  refine T.F_law_spend.ok sc_law_spend (fun vs H Q E h => ?_) (fun cdv A outer s H vs Q E hr h => ?_)
  · obtain ⟨p, c, b, rfl, _⟩ := h
    rfl
  obtain ⟨p, c, b, rfl, ⟨ns, i, r, u, t, hp, hc, hi, hcp⟩, q⟩ := h
  refine ⟨_, (pss_cons (ps_asg (pe_op op_sub (pe_ix ix_list (pv 0) pe_int (fun _ _ => rfl)) pe_int) (pg_sub (pv 0) pe_int set_list))
      (pss_one (ps_ret (pe_cmpR op_ge (pe_ix ix_list (pv 0) pe_int (fun _ _ => rfl)) pe_int (nomark _))))), ?_⟩
  refine ⟨_, rfl, p, _, 5, .int b, rfl, rfl, SqL.of hp, atI_nat (j := 5) rfl, _, _, rfl, rfl, _, rfl, p, _, 5, 5, rfl, rfl, hp, rfl, ?_⟩
  refine ⟨_, rfl, p, [.ref c, .int i, .int r, .int u, .int t, .int (b - 1)], 5, .int (b - 1), rfl, rfl, SqL.of upd_same, atI_nat (j := 5) rfl, _, _, rfl, rfl, q _ _ (b - 1) but_upd ⟨ns, i, r, u, t, upd_same, ?_, hi, hcp⟩⟩
  rw [upd_ne hcp]
  exact hc
/-! ### _law_few -/
def sp_law_few (T : Txt K mg) : Sp := fun vs H Q _ => ∃ (p c : Addr) (m b : Int), vs = [.ref p, .int m] ∧ 0 ≤ m ∧ m < 1000 ∧ Pool H p c b ∧ ∀ (k : Int) (H' : Hp), 0 ≤ k → k ≤ m → But p H H' → Pool H' p c b → Q (.int k) H'

theorem ok_law_few (T : Txt K mg) : FnOk P w K mg base CX0 2 T.a_law_few T.d_law_few ["pool", "most"] (sp_law_few T) := by
  refine T.F_law_few.ok sc_law_few (fun vs H Q E h => ?_) (fun cdv A outer s H vs Q E hr h => ?_)
  · obtain ⟨p, c, m, b, rfl, _⟩ := h
    rfl
  obtain ⟨p, c, m, b, rfl, m0, m1, hP, q⟩ := h
  refine ⟨_, (pss_cons (ps_set (i := 2) sc_law_few.nd rfl (by first | exact Or.inl rfl | exact Or.inr rfl) (pe_call (ok_law_draw T) (hr.mono (by decide)) (by rfl) T.m_law_draw T.F_law_draw.kp T.b_law_draw .nil pass0 (pa_cons (pv 0) (pa_cons pe_int pa_nil))))
      (pss_cons (ps_if (pt_cmpR op_eq (pv 2) pe_int (nomark _)) (pss_one (ps_ret (pe_call (ok_law_draw T) (hr.mono (by decide)) (by rfl) T.m_law_draw T.F_law_draw.kp T.b_law_draw .nil pass0 (pa_cons (pv 0) (pa_cons (pe_op op_add (pv 1) pe_int) pa_nil))))) pss_nil)
      (pss_one (ps_ret (pe_callB (call_min2 rfl) (by rfl) T.z_min (by first | exact PySem.boot_min | decide +kernel) (pa_cons (pv 2) (pa_cons (pv 1) pa_nil))))))), ?_⟩
  refine ⟨_, rfl, p, c, 4, b, rfl, by decide, by decide, hP, fun k H1 h0 h1 b1 P1 => ?_⟩
  refine ⟨_, rfl, rfl, _, rfl, ite2 (fun _ => ⟨_, rfl, _, rfl, _, _, rfl, rfl, p, c, m + 1, b, rfl, by omega, by omega, P1, fun k2 H2 g0 g1 b2 P2 => q _ _ g0 (by omega) (b1.trans b2) P2⟩) (fun _ => ⟨_, rfl, _, rfl, _, _, rfl, ?_⟩)⟩
  exact q _ _ (by split <;> omega) (by split <;> omega) b1 P1
/-! ### _law_number -/
def sp_law_number (T : Txt K mg) : Sp := fun vs H Q _ => ∃ (p c : Addr) (b : Int), vs = [.ref p] ∧ Pool H p c b ∧ ∀ (k : Int) (H' : Hp), Bd k → But p H H' → Pool H' p c b → Q (.int k) H'

theorem ok_law_number (T : Txt K mg) : FnOk P w K mg base CX0 2 T.a_law_number T.d_law_number ["pool"] (sp_law_number T) := by
  refine T.F_law_number.ok sc_law_number (fun vs H Q E h => ?_) (fun cdv A outer s H vs Q E hr h => ?_)
  · obtain ⟨p, c, b, rfl, _⟩ := h
    rfl
  obtain ⟨p, c, b, rfl, hP, q⟩ := h
  refine ⟨_, (pss_cons (ps_if (pt_cmpR op_eq (pe_call (ok_law_draw T) (hr.mono (by decide)) (by rfl) T.m_law_draw T.F_law_draw.kp T.b_law_draw .nil pass0 (pa_cons (pv 0) (pa_cons pe_int pa_nil))) pe_int (nomark _)) (pss_one (ps_ret (pe_call (ok_law_draw T) (hr.mono (by decide)) (by rfl) T.m_law_draw T.F_law_draw.kp T.b_law_draw .nil pass0 (pa_cons (pv 0) (pa_cons pe_int pa_nil))))) pss_nil)
      (pss_one (ps_ret (pe_call (ok_law_draw T) (hr.mono (by decide)) (by rfl) T.m_law_draw T.F_law_draw.kp T.b_law_draw .nil pass0 (pa_cons (pv 0) (pa_cons pe_int pa_nil)))))), ?_⟩
  refine ⟨_, rfl, p, c, 3, b, rfl, by decide, by decide, hP, fun k H1 h0 h1 b1 P1 => ?_⟩
  refine ⟨rfl, _, rfl, ite2 (fun _ => ?_) (fun _ => ?_)⟩
  · exact ⟨_, rfl, p, c, 65536, b, rfl, by decide, by decide, P1, fun k2 H2 g0 g1 b2 P2 => q _ _ ⟨g0, g1⟩ (b1.trans b2) P2⟩
  · exact ⟨_, rfl, p, c, 9, b, rfl, by decide, by decide, P1, fun k2 H2 g0 g1 b2 P2 => q _ _ ⟨g0, by omega⟩ (b1.trans b2) P2⟩
/-! ### _law_same -/
def sp_law_same (T : Txt K mg) (n : Nat) : Sp := fun vs H Q _ => ∃ (x y : V) (d : PyData), vs = [x, y] ∧ DaK K H x d ∧ DaK K H y d ∧ d.depth < n ∧ wide d = true ∧ Q (.bl true) H
theorem no_law_same (T : Txt K mg) : ∀ vs H Q E, ¬ sp_law_same T 0 vs H Q E := fun vs H Q E ⟨_, _, _, _, _, _, h, _⟩ => Nat.not_lt_zero _ h

theorem step_law_same (T : Txt K mg) {n : Nat} (G : FnOk P w K mg base CX0 (0 + n) T.a_law_same T.d_law_same ["actual", "due"] (sp_law_same T n)) : FnOk P w K mg base CX0 (0 + n + 1) T.a_law_same T.d_law_same ["actual", "due"] (sp_law_same T (n + 1)) := by
  refine T.F_law_same.ok sc_law_same (fun vs H Q E h => ?_) (fun cdv A outer s H vs Q E hr h => ?_)
  · obtain ⟨x, y, d, rfl, _⟩ := h
    rfl
  obtain ⟨x, y, d, rfl, hx, hy, hd, hw, q⟩ := h
  refine ⟨_, (pss_cons (ps_if (PW.pt (pw_or (pt_truth (pe_callB call_isi (by rfl) T.z_isinstance (by first | exact PySem.boot_isinstance | decide +kernel) (pa_cons (pv 1) (pa_cons (pe_bltn (v := .ty "tuple") (by rfl) T.z_tuple (by decide +kernel) rfl) pa_nil))) (fun _ => rfl)) (pw_or1 (pt_truth (pe_callB call_isi (by rfl) T.z_isinstance (by first | exact PySem.boot_isinstance | decide +kernel) (pa_cons (pv 1) (pa_cons (pe_bltn (v := .ty "list") (by rfl) T.z_list (by decide +kernel) rfl) pa_nil))) (fun _ => rfl))))) (pss_cons (ps_if (PW.pt (pw_or (pt_cmpR op_ne (pe_callB call_isi (by rfl) T.z_isinstance (by first | exact PySem.boot_isinstance | decide +kernel) (pa_cons (pv 1) (pa_cons (pe_bltn (v := .ty "tuple") (by rfl) T.z_tuple (by decide +kernel) rfl) pa_nil))) (pe_callB call_isi (by rfl) T.z_isinstance (by first | exact PySem.boot_isinstance | decide +kernel) (pa_cons (pv 0) (pa_cons (pe_bltn (v := .ty "tuple") (by rfl) T.z_tuple (by decide +kernel) rfl) pa_nil))) (nomark _)) (pw_or1 (pt_cmpR op_ne (pe_callB call_isi (by rfl) T.z_isinstance (by first | exact PySem.boot_isinstance | decide +kernel) (pa_cons (pv 1) (pa_cons (pe_bltn (v := .ty "list") (by rfl) T.z_list (by decide +kernel) rfl) pa_nil))) (pe_callB call_isi (by rfl) T.z_isinstance (by first | exact PySem.boot_isinstance | decide +kernel) (pa_cons (pv 0) (pa_cons (pe_bltn (v := .ty "list") (by rfl) T.z_list (by decide +kernel) rfl) pa_nil))) (nomark _))))) (pss_one (ps_ret pe_bl)) pss_nil)
      (pss_cons (ps_if (pt_cmpR op_ne (pe_callB call_len_seq (by rfl) T.z_len (by first | exact PySem.boot_len | decide +kernel) (pa_cons (pv 0) pa_nil)) (pe_callB call_len_seq (by rfl) T.z_len (by first | exact PySem.boot_len | decide +kernel) (pa_cons (pv 1) pa_nil)) (nomark _)) (pss_one (ps_ret pe_bl)) pss_nil)
      (pss_cons (ps_for PassesOwn.never rfl (pi_range1 (by rfl) T.z_range (pa_cons (pe_callB call_len_seq (by rfl) T.z_len (by first | exact PySem.boot_len | decide +kernel) (pa_cons (pv 1) pa_nil)) pa_nil)) (pg_name (i := 2) sc_law_same.nd rfl (by first | exact Or.inl rfl | exact Or.inr rfl)) (pss_one (ps_if (pt_not (pt_truth (pe_call G hr (by rfl) T.m_law_same T.F_law_same.kp T.b_law_same .nil pass0 (pa_cons (pe_ix (IxR.or ix_list ix_tup) (pv 0) (pv 2) (fun _ _ => rfl)) (pa_cons (pe_ix (IxR.or ix_list ix_tup) (pv 1) (pv 2) (fun _ _ => rfl)) pa_nil))) (fun _ => rfl))) (pss_one (ps_ret pe_bl)) pss_nil)))
      (pss_one (ps_ret pe_bl))))) pss_nil)
      (pss_cons (ps_if (PW.pt (pw_or (pt_cmpR op_isN (pv 1) pe_non (nomark _)) (pw_or1 (pt_truth (pe_callB call_isi (by rfl) T.z_isinstance (by first | exact PySem.boot_isinstance | decide +kernel) (pa_cons (pv 1) (pa_cons (pe_bltn (v := .ty "bool") (by rfl) T.z_bool (by decide +kernel) rfl) pa_nil))) (fun _ => rfl))))) (pss_one (ps_ret (pe_and (pe_cmpR op_eq (pe_cmpR op_isN (pv 0) pe_non (nomark _)) (pe_cmpR op_isN (pv 1) pe_non (nomark _)) (nomark _)) (pe_and (pe_or (pe_cmpR op_isN (pv 1) pe_non (nomark _)) (pe_one (pe_callB call_isi (by rfl) T.z_isinstance (by first | exact PySem.boot_isinstance | decide +kernel) (pa_cons (pv 0) (pa_cons (pe_bltn (v := .ty "bool") (by rfl) T.z_bool (by decide +kernel) rfl) pa_nil))))) (pe_one (pe_cmpR op_eq (pv 0) (pv 1) (nomark _))))))) pss_nil)
      (pss_cons (ps_if (pt_truth (pe_callB call_isi (by rfl) T.z_isinstance (by first | exact PySem.boot_isinstance | decide +kernel) (pa_cons (pv 1) (pa_cons (pe_bltn (v := .ty "int") (by rfl) T.z_int (by decide +kernel) rfl) pa_nil))) (fun _ => rfl)) (pss_one (ps_ret (pe_and (pe_callB call_isi (by rfl) T.z_isinstance (by first | exact PySem.boot_isinstance | decide +kernel) (pa_cons (pv 0) (pa_cons (pe_bltn (v := .ty "int") (by rfl) T.z_int (by decide +kernel) rfl) pa_nil))) (pe_and (pe_not (pe_callB call_isi (by rfl) T.z_isinstance (by first | exact PySem.boot_isinstance | decide +kernel) (pa_cons (pv 0) (pa_cons (pe_bltn (v := .ty "bool") (by rfl) T.z_bool (by decide +kernel) rfl) pa_nil)))) (pe_one (pe_cmpR op_eq (pv 0) (pv 1) (nomark _))))))) pss_nil)
      (pss_one (ps_ret (pe_and (pe_callB call_isi (by rfl) T.z_isinstance (by first | exact PySem.boot_isinstance | decide +kernel) (pa_cons (pv 0) (pa_cons (pe_bltn (v := .ty "str") (by rfl) T.z_str (by decide +kernel) rfl) pa_nil))) (pe_one (pe_cmpR op_eq (pv 0) (pv 1) (nomark _))))))))), ?_⟩
  cases d with
  | dict kvs => cases hx
  | none =>
    cases hx
    cases hy
    refine ⟨_, rfl, .non, .ty "tuple", .type "NoneType", .type "tuple", false, rfl, .ty _, .base .non, kit_ty (by decide +kernel), false, rfl, ?_⟩
    refine ⟨_, rfl, .non, .ty "list", .type "NoneType", .type "list", false, rfl, .ty _, .base .non, kit_ty (by decide +kernel), false, rfl, ?_⟩
    refine ⟨_, rfl, rfl, _, rfl, ?_⟩
    refine ⟨_, rfl, rfl, _, rfl, rfl, rfl, _, rfl, ?_⟩
    refine ⟨_, rfl, rfl, _, rfl, ?_⟩
    exact ⟨_, rfl, _, rfl, _, rfl, rfl, q⟩
  | bool b =>
    cases hx
    cases hy
    refine ⟨_, rfl, .bl b, .ty "tuple", .type "bool", .type "tuple", false, rfl, .ty _, .base (.bl b), kit_ty (by decide +kernel), false, rfl, ?_⟩
    refine ⟨_, rfl, .bl b, .ty "list", .type "bool", .type "list", false, rfl, .ty _, .base (.bl b), kit_ty (by decide +kernel), false, rfl, ?_⟩
    refine ⟨_, rfl, rfl, _, rfl, ?_⟩
    refine ⟨_, rfl, .bl b, .ty "bool", .type "bool", .type "bool", true, rfl, .ty _, .base (.bl b), kit_ty (by decide +kernel), true, rfl, ?_⟩
    refine ⟨_, rfl, rfl, _, rfl, rfl, rfl, _, rfl, ?_⟩
    refine ⟨_, rfl, rfl, _, rfl, ?_⟩
    refine ⟨_, rfl, .bl b, .ty "bool", .type "bool", .type "bool", true, rfl, .ty _, .base (.bl b), kit_ty (by decide +kernel), _, rfl, ?_⟩
    refine ⟨_, rfl, _, rfl, rfl, ?_⟩
    show Q (.bl (decide (V.bl b = V.bl b))) _
    rw [decide_eq_true rfl]
    exact q
  | int i =>
    cases hx
    cases hy
    refine ⟨_, rfl, .int i, .ty "tuple", .type "int", .type "tuple", false, rfl, .ty _, .base (.int i), kit_ty (by decide +kernel), false, rfl, ?_⟩
    refine ⟨_, rfl, .int i, .ty "list", .type "int", .type "list", false, rfl, .ty _, .base (.int i), kit_ty (by decide +kernel), false, rfl, ?_⟩
    refine ⟨_, rfl, rfl, _, rfl, ?_⟩
    refine ⟨_, rfl, .int i, .ty "bool", .type "int", .type "bool", false, rfl, .ty _, .base (.int i), kit_ty (by decide +kernel), false, rfl, ?_⟩
    refine ⟨_, rfl, .int i, .ty "int", .type "int", .type "int", true, rfl, .ty _, .base (.int i), kit_ty (by decide +kernel), true, rfl, ?_⟩
    refine ⟨_, rfl, .int i, .ty "int", .type "int", .type "int", true, rfl, .ty _, .base (.int i), kit_ty (by decide +kernel), _, rfl, ?_⟩
    refine ⟨_, rfl, .int i, .ty "bool", .type "int", .type "bool", false, rfl, .ty _, .base (.int i), kit_ty (by decide +kernel), _, rfl, _, rfl, ?_⟩
    refine ⟨_, rfl, _, rfl, rfl, ?_⟩
    show Q (.bl (decide (V.int i = V.int i))) _
    rw [decide_eq_true rfl]
    exact q
  | str x =>
    cases hx
    cases hy
    refine ⟨_, rfl, .str x, .ty "tuple", .type "str", .type "tuple", false, rfl, .ty _, .base (.str x), kit_ty (by decide +kernel), false, rfl, ?_⟩
    refine ⟨_, rfl, .str x, .ty "list", .type "str", .type "list", false, rfl, .ty _, .base (.str x), kit_ty (by decide +kernel), false, rfl, ?_⟩
    refine ⟨_, rfl, rfl, _, rfl, ?_⟩
    refine ⟨_, rfl, .str x, .ty "bool", .type "str", .type "bool", false, rfl, .ty _, .base (.str x), kit_ty (by decide +kernel), false, rfl, ?_⟩
    refine ⟨_, rfl, .str x, .ty "int", .type "str", .type "int", false, rfl, .ty _, .base (.str x), kit_ty (by decide +kernel), false, rfl, ?_⟩
    refine ⟨_, rfl, .str x, .ty "str", .type "str", .type "str", true, rfl, .ty _, .base (.str x), kit_ty (by decide +kernel), _, rfl, ?_⟩
    refine ⟨_, rfl, _, rfl, rfl, ?_⟩
    show Q (.bl (decide (V.str x = V.str x))) _
    rw [decide_eq_true rfl]
    exact q
  | tuple ds =>
    cases hx with
    | @tup px xs _ hpx lx ex =>
    cases hy with
    | @tup py ys _ hpy ly ey =>
    simp only [wide, Bool.and_eq_true, decide_eq_true_eq] at hw
    have hl : ((xs.length : Nat) : Int) = ((ys.length : Nat) : Int) := by rw [lx, ly]
    refine ⟨_, rfl, .ref py, .ty "tuple", .type "tuple", .type "tuple", true, rfl, .ty _, hpy.ty, kit_ty (by decide +kernel), true, rfl, ?_⟩
    refine ⟨_, rfl, .ref py, .ty "tuple", .type "tuple", .type "tuple", true, rfl, .ty _, hpy.ty, kit_ty (by decide +kernel), _, rfl, .ref px, .ty "tuple", .type "tuple", .type "tuple", true, rfl, .ty _, hpx.ty, kit_ty (by decide +kernel), rfl, _, rfl, ?_⟩
    refine ⟨_, rfl, .ref py, .ty "list", .type "tuple", .type "list", false, rfl, .ty _, hpy.ty, kit_ty (by decide +kernel), _, rfl, .ref px, .ty "list", .type "tuple", .type "list", false, rfl, .ty _, hpx.ty, kit_ty (by decide +kernel), rfl, _, rfl, ?_⟩
    refine ⟨_, rfl, px, xs, rfl, .inr (hpx.sq), _, rfl, py, ys, rfl, .inr (hpy.sq), rfl, _, rfl, iteNS (congrArg V.int hl) ?_⟩
    refine ⟨_, rfl, py, ys, rfl, .inr (hpy.sq), _, rfl, by omega, by omega, for_range (fun i σ' H' => ∃ yk, σ' = [some (.ref px), some (.ref py), yk] ∧ H' = H) ⟨_, rfl, rfl⟩ ?_ ?_⟩
    · rintro i σ1 H1 hi ⟨yk, rfl, rfl⟩
      have hi2 : i < ds.length := by rw [← ly]; exact hi
      have gd : ds[i]? = some ds[i] := List.getElem?_eq_getElem hi2
      have gx : xs[i]? = some xs[i] := List.getElem?_eq_getElem (by rw [lx]; exact hi2)
      have gy : ys[i]? = some ys[i] := List.getElem?_eq_getElem (by rw [ly]; exact hi2)
      have e0 : (0 : Int) + (i : Int) = ((i : Nat) : Int) := Int.zero_add _
      refine ⟨_, rfl, _, rfl, .inr ⟨px, xs, _, _, rfl, rfl, hpx.sq, at_of e0 gx, _, rfl, _, rfl, .inr ⟨py, ys, _, _, rfl, rfl, hpy.sq, at_of e0 gy, xs[i], ys[i], ds[i], rfl, ex i _ _ gx gd, ey i _ _ gy gd, ?_, wide_get hw.2 gd, true, rfl, _, rfl, rfl⟩⟩⟩
      have dg := depth_get gd
      simp only [PyData.depth] at hd
      omega
    · rintro σ1 H1 ⟨yk, rfl, rfl⟩
      exact q
  | list ds =>
    cases hx with
    | @lst px xs _ hpx lx ex =>
    cases hy with
    | @lst py ys _ hpy ly ey =>
    simp only [wide, Bool.and_eq_true, decide_eq_true_eq] at hw
    have hl : ((xs.length : Nat) : Int) = ((ys.length : Nat) : Int) := by rw [lx, ly]
    refine ⟨_, rfl, .ref py, .ty "tuple", .type "list", .type "tuple", false, rfl, .ty _, .base (.lst hpy), kit_ty (by decide +kernel), false, rfl, ?_⟩
    refine ⟨_, rfl, .ref py, .ty "list", .type "list", .type "list", true, rfl, .ty _, .base (.lst hpy), kit_ty (by decide +kernel), true, rfl, ?_⟩
    refine ⟨_, rfl, .ref py, .ty "tuple", .type "list", .type "tuple", false, rfl, .ty _, .base (.lst hpy), kit_ty (by decide +kernel), _, rfl, .ref px, .ty "tuple", .type "list", .type "tuple", false, rfl, .ty _, .base (.lst hpx), kit_ty (by decide +kernel), rfl, _, rfl, ?_⟩
    refine ⟨_, rfl, .ref py, .ty "list", .type "list", .type "list", true, rfl, .ty _, .base (.lst hpy), kit_ty (by decide +kernel), _, rfl, .ref px, .ty "list", .type "list", .type "list", true, rfl, .ty _, .base (.lst hpx), kit_ty (by decide +kernel), rfl, _, rfl, ?_⟩
    refine ⟨_, rfl, px, xs, rfl, .inl (SqL.of hpx), _, rfl, py, ys, rfl, .inl (SqL.of hpy), rfl, _, rfl, iteNS (congrArg V.int hl) ?_⟩
    refine ⟨_, rfl, py, ys, rfl, .inl (SqL.of hpy), _, rfl, by omega, by omega, for_range (fun i σ' H' => ∃ yk, σ' = [some (.ref px), some (.ref py), yk] ∧ H' = H) ⟨_, rfl, rfl⟩ ?_ ?_⟩
    · rintro i σ1 H1 hi ⟨yk, rfl, rfl⟩
      have hi2 : i < ds.length := by rw [← ly]; exact hi
      have gd : ds[i]? = some ds[i] := List.getElem?_eq_getElem hi2
      have gx : xs[i]? = some xs[i] := List.getElem?_eq_getElem (by rw [lx]; exact hi2)
      have gy : ys[i]? = some ys[i] := List.getElem?_eq_getElem (by rw [ly]; exact hi2)
      have e0 : (0 : Int) + (i : Int) = ((i : Nat) : Int) := Int.zero_add _
      refine ⟨_, rfl, _, rfl, .inl ⟨px, xs, _, _, rfl, rfl, SqL.of hpx, at_of e0 gx, _, rfl, _, rfl, .inl ⟨py, ys, _, _, rfl, rfl, SqL.of hpy, at_of e0 gy, xs[i], ys[i], ds[i], rfl, ex i _ _ gx gd, ey i _ _ gy gd, ?_, wide_get hw.2 gd, true, rfl, _, rfl, rfl⟩⟩⟩
      have dg := depth_get gd
      simp only [PyData.depth] at hd
      omega
    · rintro σ1 H1 ⟨yk, rfl, rfl⟩
      exact q
theorem ok_law_same (T : Txt K mg) : ∀ n, FnOk P w K mg base CX0 (0 + n) T.a_law_same T.d_law_same ["actual", "due"] (sp_law_same T n)
  | 0 => ⟨fun vs H Q E h => absurd h (no_law_same T vs H Q E), fun A outer s H args us vs Q E _ _ _ _ h => absurd h (no_law_same T vs H Q E)⟩
  | n + 1 => step_law_same T (ok_law_same T n)
/-! ### _law_keys -/
def sp_law_keys (T : Txt K mg) : Sp := fun vs H Q _ => vs = [] ∧ ∀ (p : Addr) (H' : Hp), Same H H' → H p = none → H' p = some (.lst (kwL.map V.str)) → Q (.ref p) H'

theorem ok_law_keys (T : Txt K mg) : FnOk P w K mg base CX0 1 T.a_law_keys T.d_law_keys [] (sp_law_keys T) := by
  refine T.F_law_keys.ok sc_law_keys (fun vs H Q E h => ?_) (fun cdv A outer s H vs Q E hr h => ?_)
  · obtain ⟨rfl, _⟩ := h
    rfl
  obtain ⟨rfl, q⟩ := h
  refine ⟨_, (pss_cons (ps_set (i := 0) sc_law_keys.nd rfl (by first | exact Or.inl rfl | exact Or.inr rfl) pe_str)
      (pss_one (ps_ret (pe_bm PySem.F.plainAttrs_str PySem.F.slot_str_split PySem.F.type_str_split mt_split (pe_op op_add_str (pv 0) pe_str) (pa_cons pe_str pa_nil))))), ?_⟩
  refine ⟨_, rfl, _, _, rfl, rfl, by decide +kernel, rfl, _, _, rfl, rfl, by decide +kernel, by decide +kernel, fun p hp => ?_⟩
  refine q p _ (same_upd hp) hp ?_
  rw [upd_same, kw_split]
/-! ### _law_name -/
def sp_law_name (T : Txt K mg) : Sp := fun vs H Q _ => ∃ (p c pt : Addr) (ts : List Str) (b : Int), vs = [.ref p, .ref pt] ∧ Pool H p c b ∧ pt ≠ p ∧ H pt = some (.lst (ts.map V.str)) ∧ ts.length < 20 ∧ ∀ (x : Str) (H' : Hp), Nm x → x ∉ ts → But p H H' → Pool H' p c b → Q (.str x) H'

theorem ok_law_name (T : Txt K mg) : FnOk P w K mg base CX0 3 T.a_law_name T.d_law_name ["pool", "taken"] (sp_law_name T) := by
  refine T.F_law_name.ok sc_law_name (fun vs H Q E h => ?_) (fun cdv A outer s H vs Q E hr h => ?_)
  · obtain ⟨p, c, pt, ts, b, rfl, _⟩ := h
    rfl
  obtain ⟨p, c, pt, ts, b, rfl, hP, npt, ht, h20, q⟩ := h
  refine ⟨_, (pss_cons (ps_set (i := 2) sc_law_name.nd rfl (by first | exact Or.inl rfl | exact Or.inr rfl) pe_str)
      (pss_cons (ps_set (i := 3) sc_law_name.nd rfl (by first | exact Or.inl rfl | exact Or.inr rfl) (pe_ix ix_str (pv 2) (pe_call (ok_law_draw T) (hr.mono (by decide)) (by rfl) T.m_law_draw T.F_law_draw.kp T.b_law_draw .nil pass0 (pa_cons (pv 0) (pa_cons pe_int pa_nil))) (fun _ _ => rfl)))
      (pss_cons (ps_for PassesOwn.never rfl (pi_range1 (by rfl) T.z_range (pa_cons (pe_call (ok_law_few T) (hr.mono (by decide)) (by rfl) T.m_law_few T.F_law_few.kp T.b_law_few .nil pass0 (pa_cons (pv 0) (pa_cons pe_int pa_nil))) pa_nil)) (pg_name (i := 4) sc_law_name.nd rfl (by first | exact Or.inl rfl | exact Or.inr rfl)) (pss_one (ps_set (i := 3) sc_law_name.nd rfl (by first | exact Or.inl rfl | exact Or.inr rfl) (pe_op op_add_str (pv 3) (pe_ix ix_str (pv 2) (pe_call (ok_law_draw T) (hr.mono (by decide)) (by rfl) T.m_law_draw T.F_law_draw.kp T.b_law_draw .nil pass0 (pa_cons (pv 0) (pa_cons pe_int pa_nil))) (fun _ _ => rfl))))))
      (C8.pss_cut (ps_if (PW.pt (pw_or (pt_cmpR op_in_seq (pv 3) (pv 1) (by with_unfolding_all rfl)) (pw_or1 (pt_cmpR op_in_seq (pv 3) (pe_call0 (ok_law_keys T) (hr.mono (by decide)) (by rfl) T.m_law_keys T.F_law_keys.kp T.b_law_keys .nil pass0) (by with_unfolding_all rfl))))) (pss_one (ps_for PassesOwn.never rfl (pi_range1 (by rfl) T.z_range (pa_cons pe_int pa_nil)) (pg_name (i := 4) sc_law_name.nd rfl (by first | exact Or.inl rfl | exact Or.inr rfl)) (pss_one (ps_if (pt_cmpR op_notIn_seq (pe_op op_add_str pe_str (pe_callTy call_str_int (by rfl) T.z_str (by first | exact PySem.boot_str | decide +kernel) (pa_cons (pv 4) pa_nil))) (pv 1) (by with_unfolding_all rfl)) (pss_one (ps_set (i := 3) sc_law_name.nd rfl (by first | exact Or.inl rfl | exact Or.inr rfl) (pe_op op_add_str pe_str (pe_callTy call_str_int (by rfl) T.z_str (by first | exact PySem.boot_str | decide +kernel) (pa_cons (pv 4) pa_nil))))) pss_nil)))) pss_nil)
      (pss_one (ps_ret (pv 3))))))), ?_⟩
  refine ⟨_, rfl, _, rfl, p, c, 26, b, rfl, by decide, by decide, hP, fun r H1 r0 r1 b1 P1 => ?_⟩
  obtain ⟨d, ad, ld⟩ := ld_let r0 r1
  refine ⟨ldN, r, d, rfl, rfl, by decide +kernel, ad, ?_⟩
  refine ⟨_, rfl, p, c, 11, b, rfl, by decide, by decide, P1, fun m H2 m0 m1 b2 P2 => ?_⟩
  refine ⟨m, rfl, by omega, by omega, for_range (fun i σ' H' => ∃ (x : Str) (y : Option V), σ' = [some (.ref p), some (.ref pt), some (.str ldN), some (.str x), y] ∧ But p H H' ∧ Pool H' p c b ∧ ∃ r, x.cps.toList = d :: r ∧ (∀ d ∈ r, NmC d) ∧ r.length = i) ⟨_, _, rfl, b1.trans b2, P2, [], rfl, (fun _ m => by cases m), rfl⟩ ?_ ?_⟩
  · rintro i σ3 H3 hi ⟨x, y, rfl, b3, P3, rr, xe, xn, xl⟩
    refine ⟨_, rfl, _, rfl, _, rfl, p, c, 36, b, rfl, by decide, by decide, P3, fun r H4 r0 r1 b4 P4 => ?_⟩
    obtain ⟨d2, ad2, ld2⟩ := ld_nm r0 r1
    have xL : x.length = i + 1 := by
      show x.cps.toList.length = i + 1
      rw [xe, List.length_cons, xl]
    refine ⟨ldN, r, d2, rfl, rfl, by decide +kernel, ad2, x, _, rfl, rfl, ?_, ⟨_, _, rfl, b3.trans b4, P4, rr ++ [d2], ?_, ?_, ?_⟩⟩
    · show x.length + 1 ≤ sizeLine
      exact small_le (by omega)
    · rw [app_cps, xe]
      rfl
    · intro d3 m3
      rcases List.mem_append.mp m3 with m3 | m3
      · exact xn d3 m3
      · rw [List.mem_singleton.mp m3]
        exact ld2
    · rw [List.length_append, xl]
      rfl
  · rintro σ3 H3 ⟨x0, y, rfl, b3, P3, rr, xe, xn, xl⟩
    have et := b3 _ _ npt ht
    have xF : NmF x0 := ⟨d, rr, xe, ld, xn, by omega⟩
    refine ⟨fun σ' H' => ∃ (x : Str) (y : Option V), σ' = [some (.ref p), some (.ref pt), some (.str ldN), some (.str x), y] ∧ But p H H' ∧ Pool H' p c b ∧ Nm x ∧ x ∉ ts, ?_, ?_⟩
    · refine ⟨_, rfl, _, rfl, pt, ts.map V.str, rfl, .inl (SqL.of et), rfl, strs_flat ts, _, rfl, ite2 (fun _ => ?_) (fun c1 => ?_)⟩
      · refine ⟨20, rfl, by decide, by decide, for_range (fun i σ' H' => ∃ (x : Str) (y : Option V), σ' = [some (.ref p), some (.ref pt), some (.str ldN), some (.str x), y] ∧ H' = H3 ∧ VW ts x0 i x) ⟨_, _, rfl, rfl, .inr ⟨rfl, fun k z => absurd z (Nat.not_lt_zero k)⟩⟩ ?_ ?_⟩
        · rintro i σ6 H6 hi ⟨x6, y6, rfl, rfl, vw⟩
          obtain ⟨sl, lg⟩ := small_str (k := 0 + (i : Int)) (by omega) (by omega)
          refine ⟨_, rfl, _, rfl, lg, _, _, rfl, rfl, ?_, _, rfl, pt, _, rfl, .inl (SqL.of et), rfl, strs_flat ts, _, rfl, ite2 (fun c => ?_) (fun c => ⟨_, _, rfl, rfl, ?_⟩)⟩
          · show 1 + _ ≤ sizeLine
            exact small_le (by omega)
          · refine ⟨_, rfl, _, rfl, lg, _, _, rfl, rfl, ?_, ⟨_, _, rfl, rfl, .inl ?_⟩⟩
            · show 1 + _ ≤ sizeLine
              exact small_le (by omega)
            · have c2 := not_in c
              show Nm (("v" : Str) ++ Str.ofString (toString (0 + (i : Int)))) ∧ ("v" : Str) ++ Str.ofString (toString (0 + (i : Int))) ∉ ts
              have c2 : ("v" : Str) ++ Str.ofString (toString (0 + (i : Int))) ∉ ts := c2
              rw [vS_val] at c2 ⊢
              exact ⟨vS_nm (by omega), c2⟩
          · have c2 : ("v" : Str) ++ Str.ofString (toString (0 + (i : Int))) ∈ ts := is_in c
            rw [vS_val] at c2
            exact vw.next c2
        · rintro σ6 H6 ⟨x6, y6, rfl, rfl, vw⟩
          obtain ⟨w1, w2⟩ := VW.fin vw h20
          exact ⟨_, _, rfl, b3, P3, w1, w2⟩

      · refine ⟨_, rfl, rfl, fun pk H5 s5 n5 e5 => ?_⟩
        have b5 := b3.trans (but_of s5)
        have P5 := P3.same s5
        have et5 := s5 _ _ et
        refine ⟨pk, _, rfl, .inl (SqL.of e5), rfl, strs_flat kwL, _, rfl, ite2 (fun _ => ?_) (fun c2 => ⟨_, _, rfl, b5, P5, ⟨xF, inv_f c2⟩, inv_f c1⟩)⟩
        refine ⟨20, rfl, by decide, by decide, for_range (fun i σ' H' => ∃ (x : Str) (y : Option V), σ' = [some (.ref p), some (.ref pt), some (.str ldN), some (.str x), y] ∧ H' = H5 ∧ VW ts x0 i x) ⟨_, _, rfl, rfl, .inr ⟨rfl, fun k z => absurd z (Nat.not_lt_zero k)⟩⟩ ?_ ?_⟩
        · rintro i σ6 H6 hi ⟨x6, y6, rfl, rfl, vw⟩
          obtain ⟨sl, lg⟩ := small_str (k := 0 + (i : Int)) (by omega) (by omega)
          refine ⟨_, rfl, _, rfl, lg, _, _, rfl, rfl, ?_, _, rfl, pt, _, rfl, .inl (SqL.of et5), rfl, strs_flat ts, _, rfl, ite2 (fun c => ?_) (fun c => ⟨_, _, rfl, rfl, ?_⟩)⟩
          · show 1 + _ ≤ sizeLine
            exact small_le (by omega)
          · refine ⟨_, rfl, _, rfl, lg, _, _, rfl, rfl, ?_, ⟨_, _, rfl, rfl, .inl ?_⟩⟩
            · show 1 + _ ≤ sizeLine
              exact small_le (by omega)
            · have c2 := not_in c
              show Nm (("v" : Str) ++ Str.ofString (toString (0 + (i : Int)))) ∧ ("v" : Str) ++ Str.ofString (toString (0 + (i : Int))) ∉ ts
              have c2 : ("v" : Str) ++ Str.ofString (toString (0 + (i : Int))) ∉ ts := c2
              rw [vS_val] at c2 ⊢
              exact ⟨vS_nm (by omega), c2⟩
          · have c2 : ("v" : Str) ++ Str.ofString (toString (0 + (i : Int))) ∈ ts := is_in c
            rw [vS_val] at c2
            exact vw.next c2
        · rintro σ6 H6 ⟨x6, y6, rfl, rfl, vw⟩
          obtain ⟨w1, w2⟩ := VW.fin vw h20
          exact ⟨_, _, rfl, b5, P5, w1, w2⟩
    · rintro σ4 H4 ⟨x, y, rfl, b4, P4, nx, fx⟩
      exact ⟨_, rfl, q x H4 nx fx b4 P4⟩
/-! ### _law_names -/
def sp_law_names (T : Txt K mg) : Sp := fun vs H Q _ => ∃ (p c : Addr) (m b : Int), vs = [.ref p, .int m] ∧ 0 ≤ m ∧ m < 20 ∧ Pool H p c b ∧ ∀ (pn : Addr) (ns : List Str) (H' : Hp), But p H H' → Pool H' p c b → H pn = none → H' pn = some (.lst (ns.map V.str)) → (ns.length : Int) ≤ m → (∀ x ∈ ns, Nm x) → ns.Nodup → Q (.ref pn) H'

theorem ok_law_names (T : Txt K mg) : FnOk P w K mg base CX0 4 T.a_law_names T.d_law_names ["pool", "most"] (sp_law_names T) := by
  refine T.F_law_names.ok sc_law_names (fun vs H Q E h => ?_) (fun cdv A outer s H vs Q E hr h => ?_)
  · obtain ⟨p, c, m, b, rfl, _⟩ := h
    rfl
  obtain ⟨p, c, m, b, rfl, m0, m1, hP, q⟩ := h
  refine ⟨_, (pss_cons (ps_set (i := 2) sc_law_names.nd rfl (by first | exact Or.inl rfl | exact Or.inr rfl) (pe_lst pa_nil))
      (pss_cons (ps_for PassesOwn.never rfl (pi_range1 (by rfl) T.z_range (pa_cons (pe_call (ok_law_few T) (hr.mono (by decide)) (by rfl) T.m_law_few T.F_law_few.kp T.b_law_few .nil pass0 (pa_cons (pv 0) (pa_cons (pv 1) pa_nil))) pa_nil)) (pg_name (i := 3) sc_law_names.nd rfl (by first | exact Or.inl rfl | exact Or.inr rfl)) (pss_one (ps_expr (pe_bm PySem.F.plainAttrs_list PySem.F.slot_list_append PySem.F.type_list_append mt_append (pv 2) (pa_cons (pe_call (ok_law_name T) (hr.mono (by decide)) (by rfl) T.m_law_name T.F_law_name.kp T.b_law_name .nil pass0 (pa_cons (pv 0) (pa_cons (pv 2) pa_nil))) pa_nil)))))
      (pss_one (ps_ret (pv 2))))), ?_⟩
  refine ⟨by show 0 ≤ sizeLine; decide, fun W hW => ?_⟩
  have nW := hP.ne hW
  have nW2 := hP.ne2 hW
  refine ⟨_, rfl, _, rfl, p, c, m, b, rfl, m0, by omega, hP.upd nW nW2 _, fun k H2 k0 k1 b2 P2 => ?_⟩
  refine ⟨k, rfl, by omega, by omega, for_range (fun i σ' H' => ∃ (ns : List Str) (y : Option V), σ' = [some (.ref p), some (.int m), some (.ref W), y] ∧ But p H H' ∧ Pool H' p c b ∧ H' W = some (.lst (ns.map V.str)) ∧ ns.length = i ∧ (∀ x ∈ ns, Nm x) ∧ ns.Nodup)
    ⟨[], _, rfl, (but_of (same_upd hW)).trans b2, P2, b2 _ _ nW upd_same, rfl, (fun _ m => by cases m), List.nodup_nil⟩ ?_ ?_⟩
  · rintro i σ3 H3 hi ⟨ns, y, rfl, b3, P3, e3, l3, n3, d3⟩
    refine ⟨_, rfl, .inl ⟨rfl, _, SqL.of e3⟩, _, rfl, _, rfl, p, c, W, ns, b, rfl, P3, nW, e3, by omega, fun x H4 nx fx b4 P4 => ?_⟩
    refine ⟨W, _, _, rfl, rfl, b4 _ _ nW e3, ?_, ⟨ns ++ [x], _, rfl, fun d o nd eo => ?_, P4.upd nW nW2 _, ?_, ?_, ?_, ?_⟩⟩
    · rw [List.length_map]
      exact small1000 (by omega)
    · rw [upd_ne (ne_of_none eo hW)]
      exact (b3.trans b4) d o nd eo
    · rw [upd_same, List.map_append]
      rfl
    · rw [List.length_append, l3]
      rfl
    · intro z mz
      rcases List.mem_append.mp mz with mz | mz
      · exact n3 z mz
      · rw [List.mem_singleton.mp mz]
        exact nx
    · rw [List.nodup_append]
      refine ⟨d3, List.nodup_cons.mpr ⟨by simp, List.nodup_nil⟩, fun a ma b mb => ?_⟩
      rw [List.mem_singleton.mp mb]
      exact fun e => fx (e ▸ ma)
  · rintro σ3 H3 ⟨ns, y, rfl, b3, P3, e3, l3, n3, d3⟩
    exact ⟨_, rfl, q W ns H3 b3 P3 hW e3 (by omega) n3 d3⟩
/-! ### _law_expression -/
def signK : List Str := ["+", "-", "*", "/", "mod", "<", "=", "+", "-", "*", "/"]
def sp_law_expression (T : Txt K mg) (n : Nat) : Sp := fun vs H Q _ => ∃ (p c pn pp : Addr) (ns ps : List Str) (deep b : Int), vs = [.ref p, .ref pn, .ref pp, .int deep] ∧ 1 ≤ deep ∧ deep ≤ n ∧ Pool H p c b ∧ pn ≠ p ∧ pp ≠ p ∧ H pn = some (.lst (ns.map V.str)) ∧ H pp = some (.lst (ps.map V.str)) ∧
  ns.length ≤ 100 ∧ ps.length ≤ 100 ∧ ∀ (v : V) (e : Ex) (H' : Hp) (b' : Int), Ev H' v e → (e.deep : Int) ≤ deep → e.Wf ns ps → But p H H' → Pool H' p c b' → Q v H'
theorem no_law_expression (T : Txt K mg) : ∀ vs H Q E, ¬ sp_law_expression T 0 vs H Q E := fun vs H Q E ⟨_, _, _, _, _, _, _, _, _, h1, h2, _⟩ => by omega

theorem step_law_expression (T : Txt K mg) {n : Nat} (G : FnOk P w K mg base CX0 (2 + n) T.a_law_expression T.d_law_expression ["pool", "names", "picks", "deep"] (sp_law_expression T n)) : FnOk P w K mg base CX0 (2 + n + 1) T.a_law_expression T.d_law_expression ["pool", "names", "picks", "deep"] (sp_law_expression T (n + 1)) := by
  refine T.F_law_expression.ok sc_law_expression (fun vs H Q E h => ?_) (fun cdv A outer s H vs Q E hr h => ?_)
  · obtain ⟨p, c, pn, pp, ns, ps, deep, b, rfl, _⟩ := h
    rfl
  obtain ⟨p, c, pn, pp, ns, ps, deep, b, rfl, d0, d1, hP, npn, npp, hn, hp, ln, lp, q⟩ := h
  refine ⟨_, (pss_cons (ps_set (i := 4) sc_law_expression.nd rfl (by first | exact Or.inl rfl | exact Or.inr rfl) (pe_call (ok_law_draw T) (hr.mono (by omega)) (by rfl) T.m_law_draw T.F_law_draw.kp T.b_law_draw .nil pass0 (pa_cons (pv 0) (pa_cons pe_int pa_nil))))
      (C8.pss_cut (ps_if (PW.pt (pw_and (pt_cmpR op_gt (pv 3) pe_int (nomark _)) (pw_and (pt_cmpR op_lt (pv 4) pe_int (nomark _)) (pw_and1 (pt_truth (pe_call (ok_law_spend T) (hr.mono (by omega)) (by rfl) T.m_law_spend T.F_law_spend.kp T.b_law_spend .nil pass0 (pa_cons (pv 0) pa_nil)) (fun _ => rfl)))))) (C8.pss_cut (ps_if (PW.pt (pw_and (pt_cmpR op_gt (pv 4) pe_int (nomark _)) (pw_and1 (pt_truth (pv 2) (fun _ => rfl))))) (pss_cons (ps_set (i := 5) sc_law_expression.nd rfl (by first | exact Or.inl rfl | exact Or.inr rfl) (pe_ix ix_list (pv 2) (pe_call (ok_law_draw T) (hr.mono (by omega)) (by rfl) T.m_law_draw T.F_law_draw.kp T.b_law_draw .nil pass0 (pa_cons (pv 0) (pa_cons (pe_callB call_len_seq (by rfl) T.z_len (by first | exact PySem.boot_len | decide +kernel) (pa_cons (pv 2) pa_nil)) pa_nil))) (fun _ _ => rfl)))
      (pss_cons (ps_set (i := 6) sc_law_expression.nd rfl (by first | exact Or.inl rfl | exact Or.inr rfl) (pe_call G hr (by rfl) T.m_law_expression T.F_law_expression.kp T.b_law_expression .nil pass0 (pa_cons (pv 0) (pa_cons (pv 1) (pa_cons (pv 2) (pa_cons (pe_op op_sub (pv 3) pe_int) pa_nil))))))
      (pss_one (ps_ret (pe_tup (pa_cons pe_str (pa_cons (pv 5) (pa_cons (pv 6) (pa_cons (pe_call G hr (by rfl) T.m_law_expression T.F_law_expression.kp T.b_law_expression .nil pass0 (pa_cons (pv 0) (pa_cons (pv 1) (pa_cons (pv 2) (pa_cons (pe_op op_sub (pv 3) pe_int) pa_nil))))) pa_nil))))))))) pss_nil)
      (pss_cons (ps_set (i := 7) sc_law_expression.nd rfl (by first | exact Or.inl rfl | exact Or.inr rfl) (pe_ix ix_tup (pe_tup (pa_cons pe_str (pa_cons pe_str (pa_cons pe_str (pa_cons pe_str (pa_cons pe_str (pa_cons pe_str (pa_cons pe_str (pa_cons pe_str (pa_cons pe_str (pa_cons pe_str (pa_cons pe_str pa_nil)))))))))))) (pv 4) (fun _ _ => rfl)))
      (pss_cons (ps_set (i := 6) sc_law_expression.nd rfl (by first | exact Or.inl rfl | exact Or.inr rfl) (pe_call G hr (by rfl) T.m_law_expression T.F_law_expression.kp T.b_law_expression .nil pass0 (pa_cons (pv 0) (pa_cons (pv 1) (pa_cons (pv 2) (pa_cons (pe_op op_sub (pv 3) pe_int) pa_nil))))))
      (C8.pss_cut (ps_if (pt_cmpR op_eq (pe_call (ok_law_draw T) (hr.mono (by omega)) (by rfl) T.m_law_draw T.F_law_draw.kp T.b_law_draw .nil pass0 (pa_cons (pv 0) (pa_cons pe_int pa_nil))) pe_int (nomark _)) (pss_one (ps_ret (pe_tup (pa_cons (pv 7) (pa_cons (pv 6) (pa_cons (pv 6) pa_nil)))))) pss_nil)
      (pss_one (ps_ret (pe_tup (pa_cons (pv 7) (pa_cons (pv 6) (pa_cons (pe_call G hr (by rfl) T.m_law_expression T.F_law_expression.kp T.b_law_expression .nil pass0 (pa_cons (pv 0) (pa_cons (pv 1) (pa_cons (pv 2) (pa_cons (pe_op op_sub (pv 3) pe_int) pa_nil))))) pa_nil)))))))))) pss_nil)
      (pss_cons (ps_if (PW.pt (pw_and (pt_truth (pv 1) (fun _ => rfl)) (pw_and1 (pt_cmpR op_eq (pe_op op_mod (pe_callTy call_int1 (by rfl) T.z_int (by first | exact PySem.boot_int | decide +kernel) (pa_cons (pv 4) pa_nil)) pe_int) pe_int (nomark _))))) (pss_one (ps_ret (pe_tup (pa_cons pe_str (pa_cons (pe_ix ix_list (pv 1) (pe_call (ok_law_draw T) (hr.mono (by omega)) (by rfl) T.m_law_draw T.F_law_draw.kp T.b_law_draw .nil pass0 (pa_cons (pv 0) (pa_cons (pe_callB call_len_seq (by rfl) T.z_len (by first | exact PySem.boot_len | decide +kernel) (pa_cons (pv 1) pa_nil)) pa_nil))) (fun _ _ => rfl)) pa_nil))))) pss_nil)
      (pss_cons (ps_if (pt_cmpR op_lt (pv 4) pe_int (nomark _)) (pss_one (ps_ret (pe_tup (pa_cons pe_str (pa_cons (pe_call (ok_law_draw T) (hr.mono (by omega)) (by rfl) T.m_law_draw T.F_law_draw.kp T.b_law_draw .nil pass0 (pa_cons (pv 0) (pa_cons pe_int pa_nil))) pa_nil))))) pss_nil)
      (pss_one (ps_ret (pe_tup (pa_cons pe_str (pa_cons (pe_call (ok_law_number T) (hr.mono (by omega)) (by rfl) T.m_law_number T.F_law_number.kp T.b_law_number .nil pass0 (pa_cons (pv 0) pa_nil)) pa_nil))))))))), ?_⟩
  refine ⟨_, rfl, p, c, 16, b, rfl, by decide, by decide, hP, fun k H1 h0 h1 b1 P1 => ?_⟩
  refine ⟨fun σ' H' => ∃ (y1 y2 y3 : Option V) (b' : Int), σ' = [some (.ref p), some (.ref pn), some (.ref pp), some (.int deep), some (.int k), y1, y2, y3] ∧ But p H H' ∧ Pool H' p c b', ?_, ?_⟩
  · refine ⟨_, rfl, _, _, rfl, rfl, _, rfl, ite2 (fun c1 => ?_) (fun _ => ⟨_, _, _, b, rfl, b1, P1⟩)⟩
    refine ⟨_, rfl, _, _, rfl, rfl, _, rfl, ite2 (fun c2 => ?_) (fun _ => ⟨_, _, _, b, rfl, b1, P1⟩)⟩
    have c1' : (1 : Int) < deep := of_decide_eq_true c1
    have c2' : k < (11 : Int) := of_decide_eq_true c2
    refine ⟨_, rfl, p, c, b, rfl, P1, fun kk H2 b' b2 P2 => ⟨_, rfl, ite2 (fun _ => ?_) (fun _ => ⟨_, _, _, b', rfl, b1.trans b2, P2⟩)⟩⟩
    have bb := b1.trans b2
    refine ⟨fun σ' H' => ∃ (y1 y2 y3 : Option V), σ' = [some (.ref p), some (.ref pn), some (.ref pp), some (.int deep), some (.int k), y1, y2, y3] ∧ H' = H2, ?_, ?_⟩
    · refine ⟨_, rfl, _, _, rfl, rfl, _, rfl, ite2 (fun c4 => ⟨_, rfl, _, .inl ⟨_, SqL.of (bb _ _ npp hp), rfl⟩, ite2 (fun c5 => ?_) (fun _ => ⟨_, _, _, rfl, rfl⟩)⟩) (fun _ => ⟨_, _, _, rfl, rfl⟩)⟩
      have lpos : 0 < ps.length := by
        cases ps with
        | nil => cases c5
        | cons x r => exact Nat.succ_pos _
      refine ⟨_, rfl, _, rfl, _, rfl, pp, _, rfl, .inl (SqL.of (bb _ _ npp hp)), p, c, ((ps.map V.str).length : Int), b', rfl, by rw [List.length_map]; omega, by rw [List.length_map]; omega, P2, fun j H3 j0 j1 b3 P3 => ?_⟩
      rw [List.length_map] at j1
      obtain ⟨x, mx, ax⟩ := pick j0 j1
      have bc := bb.trans b3
      refine ⟨pp, _, j, _, rfl, rfl, SqL.of (bc _ _ npp hp), ax, ?_⟩
      refine ⟨_, rfl, _, rfl, _, rfl, _, rfl, _, _, rfl, rfl, p, c, pn, pp, ns, ps, deep - 1, b', rfl, by omega, by omega, P3, npn, npp, bc _ _ npn hn, bc _ _ npp hp, ln, lp, fun v e H4 b4' ev ed ew b4 P4 => ?_⟩
      have bd := bc.trans b4
      refine ⟨_, rfl, _, rfl, _, rfl, _, rfl, _, rfl, _, rfl, _, _, rfl, rfl, p, c, pn, pp, ns, ps, deep - 1, b4', rfl, by omega, by omega, P4, npn, npp, bd _ _ npn hn, bd _ _ npp hp, ln, lp, fun v2 e2 H5 b5' ev2 ed2 ew2 b5 P5 => ⟨by show 4 ≤ sizeLine; decide, fun U hU => ?_⟩⟩
      have k5 := (P4.keepT b5).trans (keepT_of (same_upd (o := .tup [V.str "pick", .str x, v, v2]) hU))
      refine q _ (.pick x e e2) _ b5' (.pick upd_same (ev.keep k5) (ev2.keep (keepT_of (same_upd hU)))) ?_ ⟨mx, ew, ew2⟩ ((bd.trans b5).trans (but_of (same_upd hU))) (P5.upd (P5.ne hU) (P5.ne2 hU) _)
      show ((max e.deep e2.deep + 1 : Nat) : Int) ≤ deep
      omega
    · rintro σ3 H3 ⟨y1, y2, y3, rfl, rfl⟩
      refine ⟨by show 11 ≤ sizeLine; decide, fun U0 hU0 => ?_⟩
      have s3 := same_upd (o := .tup (signK.map V.str)) hU0
      have P3 := P2.upd (P2.ne hU0) (P2.ne2 hU0) (.tup (signK.map V.str))
      obtain ⟨z, mz, az⟩ := pick (ss := signK) h0 (by show k < 11; omega)
      have hz : z ∈ opL := by
        have : signK.all (fun s => decide (s ∈ opL)) = true := by decide +kernel
        exact of_decide_eq_true (List.all_eq_true.mp this z mz)
      have bc := bb.trans (but_of s3)
      refine ⟨_, rfl, U0, _, k, _, rfl, rfl, SqT.of upd_same, az, ?_⟩
      refine ⟨_, rfl, _, rfl, _, rfl, _, rfl, _, _, rfl, rfl, p, c, pn, pp, ns, ps, deep - 1, b', rfl, by omega, by omega, P3, npn, npp, bc _ _ npn hn, bc _ _ npp hp, ln, lp, fun v e H4 b4' ev ed ew b4 P4 => ?_⟩
      have bd := bc.trans b4
      refine ⟨fun σ' H' => ∃ (y1 : Option V), σ' = [some (.ref p), some (.ref pn), some (.ref pp), some (.int deep), some (.int k), y1, some v, some (.str z)] ∧ But p H H' ∧ Pool H' p c b4' ∧ Ev H' v e, ?_, ?_⟩
      · refine ⟨_, rfl, p, c, 5, b4', rfl, by decide, by decide, P4, fun k5 H5 _ _ b5 P5 => ⟨rfl, _, rfl, ite2 (fun _ => ?_) (fun _ => ⟨_, rfl, bd.trans b5, P5, ev.keep (P4.keepT b5)⟩)⟩⟩
        refine ⟨_, rfl, _, rfl, _, rfl, by show 3 ≤ sizeLine; decide, fun U hU => ?_⟩
        have k6 := (P4.keepT b5).trans (keepT_of (same_upd (o := .tup [V.str z, v, v]) hU))
        refine q _ (.op z e e) _ b4' (.op upd_same (ev.keep k6) (ev.keep k6)) ?_ ⟨hz, ew, ew⟩ ((bd.trans b5).trans (but_of (same_upd hU))) (P5.upd (P5.ne hU) (P5.ne2 hU) _)
        show ((max e.deep e.deep + 1 : Nat) : Int) ≤ deep
        omega
      clear P4 bd ev
      rintro σ4 H4 ⟨y1, rfl, bd, P4, ev⟩
      refine ⟨_, rfl, _, rfl, _, rfl, _, rfl, _, rfl, _, rfl, _, _, rfl, rfl, p, c, pn, pp, ns, ps, deep - 1, b4', rfl, by omega, by omega, P4, npn, npp, bd _ _ npn hn, bd _ _ npp hp, ln, lp, fun v2 e2 H5 b5' ev2 ed2 ew2 b5 P5 => ⟨by show 3 ≤ sizeLine; decide, fun U hU => ?_⟩⟩
      have k5 := (P4.keepT b5).trans (keepT_of (same_upd (o := .tup [V.str z, v, v2]) hU))
      refine q _ (.op z e e2) _ b5' (.op upd_same (ev.keep k5) (ev2.keep (keepT_of (same_upd hU)))) ?_ ⟨hz, ew, ew2⟩ ((bd.trans b5).trans (but_of (same_upd hU))) (P5.upd (P5.ne hU) (P5.ne2 hU) _)
      show ((max e.deep e2.deep + 1 : Nat) : Int) ≤ deep
      omega
  · rintro σ2 H2 ⟨y1, y2, y3, b', rfl, b2, P2⟩
    · refine ⟨_, rfl, _, .inl ⟨_, SqL.of (b2 _ _ npn hn), rfl⟩, ite2 (fun c1 => ⟨_, rfl, .inl ⟨_, rfl, _, _, rfl, rfl, (by show (0 : Int) < 2; decide), rfl, _, rfl, ite2 (fun _ => ?_) (fun _ => ?_)⟩⟩) (fun _ => ?_)⟩
      · have lpos : 0 < ns.length := by
          cases ns with
          | nil => cases c1
          | cons x r => exact Nat.succ_pos _
        refine ⟨_, rfl, _, rfl, _, rfl, pn, _, rfl, .inl (SqL.of (b2 _ _ npn hn)), p, c, ((ns.map V.str).length : Int), b', rfl, by rw [List.length_map]; omega, by rw [List.length_map]; omega, P2, fun j H3 j0 j1 b3 P3 => ?_⟩
        rw [List.length_map] at j1
        obtain ⟨x, mx, ax⟩ := pick j0 j1
        have bc := b2.trans b3
        refine ⟨pn, _, j, _, rfl, rfl, SqL.of (bc _ _ npn hn), ax, ⟨by show 2 ≤ sizeLine; decide, fun U hU => ?_⟩⟩
        exact q _ (.var x) _ b' (.var upd_same) d0 mx (bc.trans (but_of (same_upd hU))) (P3.upd (P3.ne hU) (P3.ne2 hU) _)
      · refine ⟨_, rfl, _, _, rfl, rfl, _, rfl, ite2 (fun _ => ?_) (fun _ => ?_)⟩
        · refine ⟨_, rfl, p, c, 3, b', rfl, by decide, by decide, P2, fun m H3 m0 m1 b3 P3 => ⟨by show 2 ≤ sizeLine; decide, fun U hU => ?_⟩⟩
          exact q _ (.num m) _ b' (.num upd_same) d0 ⟨m0, by omega⟩ ((b2.trans b3).trans (but_of (same_upd hU))) (P3.upd (P3.ne hU) (P3.ne2 hU) _)
        · refine ⟨_, rfl, p, c, b', rfl, P2, fun m H3 bm b3 P3 => ⟨by show 2 ≤ sizeLine; decide, fun U hU => ?_⟩⟩
          exact q _ (.num m) _ b' (.num upd_same) d0 bm ((b2.trans b3).trans (but_of (same_upd hU))) (P3.upd (P3.ne hU) (P3.ne2 hU) _)
      · refine ⟨_, rfl, _, _, rfl, rfl, _, rfl, ite2 (fun _ => ?_) (fun _ => ?_)⟩
        · refine ⟨_, rfl, p, c, 3, b', rfl, by decide, by decide, P2, fun m H3 m0 m1 b3 P3 => ⟨by show 2 ≤ sizeLine; decide, fun U hU => ?_⟩⟩
          exact q _ (.num m) _ b' (.num upd_same) d0 ⟨m0, by omega⟩ ((b2.trans b3).trans (but_of (same_upd hU))) (P3.upd (P3.ne hU) (P3.ne2 hU) _)
        · refine ⟨_, rfl, p, c, b', rfl, P2, fun m H3 bm b3 P3 => ⟨by show 2 ≤ sizeLine; decide, fun U hU => ?_⟩⟩
          exact q _ (.num m) _ b' (.num upd_same) d0 bm ((b2.trans b3).trans (but_of (same_upd hU))) (P3.upd (P3.ne hU) (P3.ne2 hU) _)
theorem ok_law_expression (T : Txt K mg) : ∀ n, FnOk P w K mg base CX0 (2 + n) T.a_law_expression T.d_law_expression ["pool", "names", "picks", "deep"] (sp_law_expression T n)
  | 0 => ⟨fun vs H Q E h => absurd h (no_law_expression T vs H Q E), fun A outer s H args us vs Q E _ _ _ _ h => absurd h (no_law_expression T vs H Q E)⟩
  | n + 1 => step_law_expression T (ok_law_expression T n)
/-! ### _law_combine -/
def sp_law_combine (T : Txt K mg) : Sp := fun vs H Q _ => ∃ (s : Str) (a b : Int), vs = [.str s, .int a, .int b] ∧ s ∈ opL ∧ Bd a ∧ Bd b ∧ Q (.int (comb s a b)) H

theorem ok_law_combine (T : Txt K mg) : FnOk P w K mg base CX0 1 T.a_law_combine T.d_law_combine ["sign", "a", "b"] (sp_law_combine T) := by
  refine T.F_law_combine.ok sc_law_combine (fun vs H Q E h => ?_) (fun cdv A outer s H vs Q E hr h => ?_)
  · obtain ⟨z, a, b, rfl, _⟩ := h
    rfl
  obtain ⟨z, a, b, rfl, hz, ⟨a0, a1⟩, ⟨b0, b1⟩, q⟩ := h
  refine ⟨_, (pss_cons (ps_if (pt_cmpR op_eq (pv 0) pe_str (nomark _)) (pss_one (ps_ret (pe_op op_sub (pe_op op_add (pv 1) (pv 2)) (pe_op op_mul pe_int (pe_callTy call_int1 (by rfl) T.z_int (by first | exact PySem.boot_int | decide +kernel) (pa_cons (pe_cmpR op_gt (pe_op op_add (pv 1) (pv 2)) pe_int (nomark _)) pa_nil)))))) pss_nil)
      (pss_cons (ps_if (pt_cmpR op_eq (pv 0) pe_str (nomark _)) (pss_one (ps_ret (pe_op op_mul (pe_op op_sub (pv 1) (pv 2)) (pe_callTy call_int1 (by rfl) T.z_int (by first | exact PySem.boot_int | decide +kernel) (pa_cons (pe_cmpR op_gt (pv 1) (pv 2) (nomark _)) pa_nil))))) pss_nil)
      (pss_cons (ps_if (pt_cmpR op_eq (pv 0) pe_str (nomark _)) (pss_one (ps_ret (pe_op op_sub (pe_op op_mul (pv 1) (pv 2)) (pe_op op_mul (pe_op op_fdiv (pe_op op_mul (pv 1) (pv 2)) pe_int) pe_int)))) pss_nil)
      (pss_cons (ps_if (pt_cmpR op_eq (pv 0) pe_str (nomark _)) (pss_one (ps_ret (pe_callTy call_int1 (by rfl) T.z_int (by first | exact PySem.boot_int | decide +kernel) (pa_cons (pe_cmpR op_lt (pv 1) (pv 2) (nomark _)) pa_nil)))) pss_nil)
      (pss_cons (ps_if (pt_cmpR op_eq (pv 0) pe_str (nomark _)) (pss_one (ps_ret (pe_callTy call_int1 (by rfl) T.z_int (by first | exact PySem.boot_int | decide +kernel) (pa_cons (pe_cmpR op_eq (pv 1) (pv 2) (nomark _)) pa_nil)))) pss_nil)
      (pss_cons (ps_if (pt_cmpR op_eq (pv 2) pe_int (nomark _)) (pss_one (ps_ret pe_int)) pss_nil)
      (pss_cons (ps_set (i := 3) sc_law_combine.nd rfl (by first | exact Or.inl rfl | exact Or.inr rfl) (pe_op op_fdiv (pv 1) (pv 2)))
      (pss_cons (ps_if (pt_cmpR op_eq (pv 0) pe_str (nomark _)) (pss_one (ps_ret (pv 3))) pss_nil)
      (pss_one (ps_ret (pe_op op_sub (pv 1) (pe_op op_mul (pv 3) (pv 2))))))))))))), ?_⟩
  refine ⟨_, rfl, rfl, _, rfl, ite2 (fun c => ?_) (fun n1 => ?_)⟩
  · have e := str_eq c
    have k : comb z a b = (a + b) % 65536 := if_pos e
    rw [k] at q
    refine ⟨_, rfl, _, rfl, _, _, rfl, rfl, _, rfl, _, rfl, _, _, rfl, rfl, _, _, rfl, rfl, .inr ⟨_, rfl, _, _, rfl, rfl, .inl ⟨by decide, by decide⟩, _, _, rfl, rfl, ?_⟩⟩
    by_cases y : 65535 < a + b
    · rw [decide_eq_true y]
      have : a + b - 65536 * 1 = (a + b) % 65536 := by omega
      show Q (.int (a + b - 65536 * 1)) H
      rw [this]
      exact q
    · rw [decide_eq_false y]
      have : a + b - 65536 * 0 = (a + b) % 65536 := by omega
      show Q (.int (a + b - 65536 * 0)) H
      rw [this]
      exact q
  have m1 : z ≠ "+" := fun e => n1 (decide_eq_true (congrArg V.str e))
  refine ⟨_, rfl, rfl, _, rfl, ite2 (fun c => ?_) (fun n2 => ?_)⟩
  · have e := str_eq c
    have k : comb z a b = max (a - b) 0 := (if_neg m1).trans (if_pos e)
    rw [k] at q
    refine ⟨_, rfl, _, rfl, _, _, rfl, rfl, _, rfl, _, rfl, _, _, rfl, rfl, .inr ⟨_, rfl, _, _, rfl, rfl, .inl ⟨by omega, by omega⟩, ?_⟩⟩
    by_cases y : b < a
    · rw [decide_eq_true y]
      have : (a - b) * 1 = max (a - b) 0 := by omega
      show Q (.int ((a - b) * 1)) H
      rw [this]
      exact q
    · rw [decide_eq_false y]
      have : (a - b) * 0 = max (a - b) 0 := by omega
      show Q (.int ((a - b) * 0)) H
      rw [this]
      exact q
  have m2 : z ≠ "-" := fun e => n2 (decide_eq_true (congrArg V.str e))
  refine ⟨_, rfl, rfl, _, rfl, ite2 (fun c => ?_) (fun n3 => ?_)⟩
  · have e := str_eq c
    have k : comb z a b = a * b % 65536 := ((if_neg m1).trans (if_neg m2)).trans (if_pos e)
    rw [k] at q
    refine ⟨_, rfl, _, rfl, _, _, rfl, rfl, .inl ⟨by omega, by omega⟩, _, rfl, _, rfl, _, _, rfl, rfl, .inl ⟨by omega, by omega⟩, _, _, rfl, rfl, ⟨by decide, by decide⟩, _, _, rfl, rfl, .inr ⟨by decide, by decide⟩, _, _, rfl, rfl, ?_⟩
    have e2 : a * b - a * b / 65536 * 65536 = a * b % 65536 := by
      generalize a * b = m
      omega
    show Q (.int (a * b - a * b / 65536 * 65536)) H
    rw [e2]
    exact q
  have m3 : z ≠ "*" := fun e => n3 (decide_eq_true (congrArg V.str e))
  refine ⟨_, rfl, rfl, _, rfl, ite2 (fun c => ?_) (fun n6 => ?_)⟩
  · have e := str_eq c
    have k : comb z a b = if a < b then 1 else 0 := by
      rw [e]
      rfl
    rw [k] at q
    refine ⟨_, rfl, _, rfl, _, _, rfl, rfl, .inr ⟨_, rfl, ?_⟩⟩
    by_cases y : a < b
    · rw [if_pos y] at q
      rw [decide_eq_true y]
      exact q
    · rw [if_neg y] at q
      rw [decide_eq_false y]
      exact q
  have m6 : z ≠ "<" := fun e => n6 (decide_eq_true (congrArg V.str e))
  refine ⟨_, rfl, rfl, _, rfl, ite2 (fun c => ?_) (fun n7 => ?_)⟩
  · have e := str_eq c
    have k : comb z a b = if a = b then 1 else 0 := by
      rw [e]
      rfl
    rw [k] at q
    refine ⟨_, rfl, _, rfl, rfl, .inr ⟨_, rfl, ?_⟩⟩
    by_cases y : a = b
    · rw [if_pos y] at q
      rw [decide_eq_true (congrArg V.int y)]
      exact q
    · rw [if_neg y] at q
      rw [decide_eq_false (fun t => y (V.int.inj t))]
      exact q
  have m7 : z ≠ "=" := fun e => n7 (decide_eq_true (congrArg V.str e))
  refine ⟨_, rfl, rfl, _, rfl, ite2 (fun c => ?_) (fun n8 => ?_)⟩
  · have e : b = 0 := V.int.inj (of_decide_eq_true c)
    subst e
    have k : comb z a 0 = 0 := by
      unfold comb
      rw [if_neg m1, if_neg m2, if_neg m3, if_neg m6]
      have hz' : z = "/" ∨ z = "mod" := by
        simp only [opL, List.mem_cons, List.not_mem_nil, or_false] at hz
        rcases hz with h | h | h | h | h | h | h
        · exact absurd h m1
        · exact absurd h m2
        · exact absurd h m3
        · exact .inl h
        · exact .inr h
        · exact absurd h m6
        · exact absurd h m7
      rcases hz' with h | h
      · rw [if_pos h]
        rfl
      · by_cases y : z = "/"
        · rw [if_pos y]
          rfl
        · rw [if_neg y, if_pos h]
          rfl
    rw [k] at q
    exact q
  · have bne : b ≠ 0 := fun t => n8 (decide_eq_true (congrArg V.int t))
    refine ⟨_, rfl, _, rfl, _, _, rfl, rfl, ⟨by omega, by omega⟩, ?_⟩
    refine ⟨_, rfl, rfl, _, rfl, ite2 (fun c => ?_) (fun n4 => ?_)⟩
    · have e := str_eq c
      have k : comb z a b = if 0 < b then a / b else 0 := (((if_neg m1).trans (if_neg m2)).trans (if_neg m3)).trans (if_pos e)
      rw [k, if_pos (by omega)] at q
      exact ⟨_, rfl, q⟩
    · have m4 : z ≠ "/" := fun e => n4 (decide_eq_true (congrArg V.str e))
      have m5 : z = "mod" := by
        simp only [opL, List.mem_cons, List.not_mem_nil, or_false] at hz
        rcases hz with h | h | h | h | h | h | h
        · exact absurd h m1
        · exact absurd h m2
        · exact absurd h m3
        · exact absurd h m4
        · exact h
        · exact absurd h m6
        · exact absurd h m7
      have k : comb z a b = if 0 < b then a % b else 0 := ((((if_neg m1).trans (if_neg m2)).trans (if_neg m3)).trans (if_neg m4)).trans (if_pos m5)
      rw [k, if_pos (by omega)] at q
      refine ⟨_, rfl, _, rfl, _, rfl, _, _, rfl, rfl, .inr ⟨by omega, by omega⟩, _, _, rfl, rfl, ?_⟩
      have e2 : a - a / b * b = a % b := by
        have := Int.mul_ediv_add_emod a b
        rw [Int.mul_comm] at this
        omega
      show Q (.int (a - a / b * b)) H
      rw [e2]
      exact q
/-! ### _law_fold_pair -/
theorem ne_t {a b : Str} (c : (!decide (V.str a = V.str b)) = true) : a ≠ b := fun e => by
  rw [decide_eq_true (congrArg V.str e)] at c
  cases c
theorem ne_f {a b : Str} (c : ¬ (!decide (V.str a = V.str b)) = true) : a = b := Decidable.byContradiction fun e => c (by rw [decide_eq_false fun z => e (V.str.inj z)]; rfl)
def sp_law_fold_pair (T : Txt K mg) : Sp := fun vs H Q _ => ∃ (s : Str) (v w : V) (a b : Ex) (ns ps : List Str), vs = [.str s, v, w] ∧ s ∈ opL ∧ EvK K H v a ∧ EvK K H w b ∧ a.Wf ns ps ∧ b.Wf ns ps ∧ Oks ns ∧ Oks ps ∧ a.deep ≤ 30 ∧ b.deep ≤ 30 ∧
  ∀ (u : V) (H' : Hp), Same H H' → EvK K H' u (fpair s a b) → Q u H'

theorem ok_law_fold_pair (T : Txt K mg) : FnOk P w K mg base CX0 2 T.a_law_fold_pair T.d_law_fold_pair ["sign", "a", "b"] (sp_law_fold_pair T) := by
  refine T.F_law_fold_pair.ok sc_law_fold_pair (fun vs H Q E h => ?_) (fun cdv A outer s H vs Q E hr h => ?_)
  · obtain ⟨z, v, w, a, b, ns, ps, rfl, _⟩ := h
    rfl
  obtain ⟨z, v, w, a, b, ns, ps, rfl, hz, hv, hw, wa, wb, on, op, da, db, q⟩ := h
  refine ⟨_, (pss_cons (ps_set (i := 3) sc_law_fold_pair.nd rfl (by first | exact Or.inl rfl | exact Or.inr rfl) (pe_tup (pa_cons pe_str (pa_cons pe_int pa_nil))))
      (pss_cons (ps_set (i := 4) sc_law_fold_pair.nd rfl (by first | exact Or.inl rfl | exact Or.inr rfl) (pe_tup (pa_cons pe_str (pa_cons pe_int pa_nil))))
      (C8.pss_cut (ps_if (PW.pt (pw_and (pt_cmpR op_eq (pe_ix ix_tup (pv 1) pe_int (fun _ _ => rfl)) pe_str (nomark _)) (pw_and1 (pt_cmpR op_eq (pe_ix ix_tup (pv 2) pe_int (fun _ _ => rfl)) pe_str (nomark _))))) (pss_one (ps_ret (pe_tup (pa_cons pe_str (pa_cons (pe_call (ok_law_combine T) (hr.mono (by decide)) (by rfl) T.m_law_combine T.F_law_combine.kp T.b_law_combine .nil pass0 (pa_cons (pv 0) (pa_cons (pe_ix ix_tup (pv 1) pe_int (fun _ _ => rfl)) (pa_cons (pe_ix ix_tup (pv 2) pe_int (fun _ _ => rfl)) pa_nil)))) pa_nil))))) pss_nil)
      (C8.pss_cut (ps_if (PW.pt (pw_and (pt_cmpR (op_eqD (eq_room hr)) (pv 1) (pv 2) (nomark _)) (pw_and (pt_cmpR op_ne (pv 0) pe_str (nomark _)) (pw_and (pt_cmpR op_ne (pv 0) pe_str (nomark _)) (pw_and1 (pt_cmpR op_ne (pv 0) pe_str (nomark _))))))) (pss_one (ps_ret (pe_tup (pa_cons pe_str (pa_cons (pe_callTy call_int1 (by rfl) T.z_int (by first | exact PySem.boot_int | decide +kernel) (pa_cons (pe_cmpR op_eq (pv 0) pe_str (nomark _)) pa_nil)) pa_nil))))) pss_nil)
      (C8.pss_cut (ps_if (PW.pt (pw_and (pt_cmpR (op_eqD (eq_room hr)) (pv 1) (pv 3) (nomark _)) (pw_and (pt_cmpR op_ne (pv 0) pe_str (nomark _)) (pw_and (pt_cmpR op_ne (pv 0) pe_str (nomark _)) (pw_and1 (pt_cmpR op_ne (pv 0) pe_str (nomark _))))))) (pss_one (ps_ret (pv 3))) pss_nil)
      (C8.pss_cut (ps_if (PW.pt (pw_and (pt_cmpR (op_eqD (eq_room hr)) (pv 2) (pv 3) (nomark _)) (pw_and (pt_cmpR op_ne (pv 0) pe_str (nomark _)) (pw_and (pt_cmpR op_ne (pv 0) pe_str (nomark _)) (pw_and1 (pt_cmpR op_ne (pv 0) pe_str (nomark _))))))) (pss_one (ps_ret (pv 3))) pss_nil)
      (C8.pss_cut (ps_if (PW.pt (pw_and (pt_cmpR (op_eqD (eq_room hr)) (pv 2) (pv 4) (nomark _)) (pw_and1 (pt_cmpR op_eq (pv 0) pe_str (nomark _))))) (pss_one (ps_ret (pv 3))) pss_nil)
      (C8.pss_cut (ps_if (PW.pt (pw_or (PW.pt (pw_and (pt_cmpR (op_eqD (eq_room hr)) (pv 1) (pv 3) (nomark _)) (pw_and1 (pt_cmpR op_eq (pv 0) pe_str (nomark _))))) (pw_or1 (PW.pt (pw_and (pt_cmpR (op_eqD (eq_room hr)) (pv 1) (pv 4) (nomark _)) (pw_and1 (pt_cmpR op_eq (pv 0) pe_str (nomark _)))))))) (pss_one (ps_ret (pv 2))) pss_nil)
      (C8.pss_cut (ps_if (PW.pt (pw_or (PW.pt (pw_and (pt_cmpR (op_eqD (eq_room hr)) (pv 2) (pv 3) (nomark _)) (pw_and1 (PW.pt (pw_or (pt_cmpR op_eq (pv 0) pe_str (nomark _)) (pw_or1 (pt_cmpR op_eq (pv 0) pe_str (nomark _)))))))) (pw_or1 (PW.pt (pw_and (pt_cmpR (op_eqD (eq_room hr)) (pv 2) (pv 4) (nomark _)) (pw_and1 (PW.pt (pw_or (pt_cmpR op_eq (pv 0) pe_str (nomark _)) (pw_or1 (pt_cmpR op_eq (pv 0) pe_str (nomark _))))))))))) (pss_one (ps_ret (pv 1))) pss_nil)
      (pss_one (ps_ret (pe_tup (pa_cons (pv 0) (pa_cons (pv 1) (pa_cons (pv 2) pa_nil))))))))))))))), ?_⟩
  have sa := dat_shaped on op wa (by omega)
  have sb := dat_shaped on op wb (by omega)
  refine ⟨by show 2 ≤ sizeLine; decide, fun Z fZ => ⟨by show 2 ≤ sizeLine; decide, fun O fO => ?_⟩⟩
  have s1 := same_upd (o := .tup [V.str "number", .int 0]) fZ
  have s2 := same_upd (o := .tup [V.str "number", .int 1]) fO
  have hZ : EvK K (upd (upd H Z (.tup [V.str "number", .int 0])) O (.tup [V.str "number", .int 1])) (.ref Z) exZ := .num (.inl (s2 _ _ upd_same))
  have hO : EvK K (upd (upd H Z (.tup [V.str "number", .int 0])) O (.tup [V.str "number", .int 1])) (.ref O) exO := .num (.inl upd_same)
  have sA := s1.trans s2
  revert hZ hO sA
  generalize upd (upd H Z (.tup [V.str "number", .int 0])) O (.tup [V.str "number", .int 1]) = H1
  intro hZ hO sA
  clear s1 s2 fO
  replace hv := hv.keep (keepT_of sA)
  replace hw := hw.keep (keepT_of sA)
  replace q : ∀ (u : V) (H' : Hp), Same H1 H' → EvK K H' u (fpair z a b) → Q u H' := fun u H' s => q u H' (sA.trans s)
  refine ⟨fun σ' H' => σ' = [some (.str z), some v, some w, some (.ref Z), some (.ref O)] ∧ H' = H1 ∧ ¬ (a.tag = "number" ∧ b.tag = "number"), ?_, ?_⟩
  · obtain ⟨va, xs1, ev, q1, i1⟩ := hv.hd
    obtain ⟨vb, xs2, ew, q2, i2⟩ := hw.hd
    subst ev ew
    refine ⟨_, rfl, va, xs1, 0, .str a.tag, rfl, rfl, q1, atI_nat (j := 0) i1, rfl, _, rfl, ite2 (fun c1 => ?_) (fun c1 => ⟨rfl, rfl, fun h => c1 (decide_eq_true (congrArg V.str h.1))⟩)⟩
    refine ⟨_, rfl, vb, xs2, 0, .str b.tag, rfl, rfl, q2, atI_nat (j := 0) i2, rfl, _, rfl, ite2 (fun c2 => ?_) (fun c2 => ⟨rfl, rfl, fun h => c2 (decide_eq_true (congrArg V.str h.2))⟩)⟩
    obtain ⟨m, rfl⟩ := tag_num wa (str_eq c1)
    obtain ⟨n, rfl⟩ := tag_num wb (str_eq c2)
    obtain ⟨_, e1, g1⟩ := hv.nm
    cases e1
    obtain ⟨_, e2, g2⟩ := hw.nm
    cases e2
    refine ⟨_, rfl, _, rfl, va, _, 1, .int m, rfl, rfl, g1, atI_nat (j := 1) rfl, _, rfl, vb, _, 1, .int n, rfl, rfl, g2, atI_nat (j := 1) rfl, z, m, n, rfl, hz, wa, wb, by show 2 ≤ sizeLine; decide, fun t ft => ?_⟩
    refine q _ _ (same_upd ft) ?_
    rw [fp0]
    exact .num (.inl upd_same)
  rintro σ1 H2 ⟨rfl, rfl, n0⟩
  refine ⟨fun σ' H' => σ' = [some (.str z), some v, some w, some (.ref Z), some (.ref O)] ∧ H' = H2 ∧ ¬ (a = b ∧ z ≠ "+" ∧ z ≠ "*" ∧ z ≠ "/"), ?_, ?_⟩
  · refine ⟨_, rfl, _, rfl, a.dat, b.dat, hv.dp, hw.dp, sa, sb, _, rfl, ite2 (fun c1 => ⟨_, rfl, rfl, _, rfl, ite2 (fun c2 => ⟨_, rfl, rfl, _, rfl, ite2 (fun c3 => ⟨_, rfl, rfl, _, rfl, ite2 (fun c4 => ?_) (fun c4 => ⟨rfl, rfl, fun h => h.2.2.2 (ne_f c4)⟩)⟩) (fun c3 => ⟨rfl, rfl, fun h => h.2.2.1 (ne_f c3)⟩)⟩) (fun c2 => ⟨rfl, rfl, fun h => h.2.1 (ne_f c2)⟩)⟩) (fun c1 => ⟨rfl, rfl, fun h => nec on op wa c1 h.1⟩)⟩
    have f := fp1 n0 ⟨eqc on op wa c1, (k1 hz).mp ⟨ne_t c2, ne_t c3, ne_t c4⟩⟩
    refine ⟨_, rfl, rfl, .inr ⟨_, rfl, by show 2 ≤ sizeLine; decide, fun t ft => q _ _ (same_upd ft) ?_⟩⟩
    rw [f]
    by_cases e : z = "="
    · rw [if_pos e]
      have e2 : decide (V.str z = V.str "=") = true := decide_eq_true (congrArg V.str e)
      rw [e2]
      exact .num (.inl upd_same)
    · rw [if_neg e]
      have e2 : decide (V.str z = V.str "=") = false := decide_eq_false fun h => e (V.str.inj h)
      rw [e2]
      exact .num (.inl upd_same)
  rintro σ2 H3 ⟨rfl, rfl, n1⟩
  have n1' : ¬ (a = b ∧ z ∈ (["-", "mod", "<", "="] : List Str)) := fun h => n1 ⟨h.1, (k1 hz).mpr h.2⟩
  refine ⟨fun σ' H' => σ' = [some (.str z), some v, some w, some (.ref Z), some (.ref O)] ∧ H' = H3 ∧ ¬ (a = exZ ∧ z ≠ "+" ∧ z ≠ "<" ∧ z ≠ "="), ?_, ?_⟩
  · refine ⟨_, rfl, _, rfl, a.dat, exZ.dat, hv.dp, hZ.dp, sa, shZ.1, _, rfl, ite2 (fun c1 => ⟨_, rfl, rfl, _, rfl, ite2 (fun c2 => ⟨_, rfl, rfl, _, rfl, ite2 (fun c3 => ⟨_, rfl, rfl, _, rfl, ite2 (fun c4 => ?_) (fun c4 => ⟨rfl, rfl, fun h => h.2.2.2 (ne_f c4)⟩)⟩) (fun c3 => ⟨rfl, rfl, fun h => h.2.2.1 (ne_f c3)⟩)⟩) (fun c2 => ⟨rfl, rfl, fun h => h.2.1 (ne_f c2)⟩)⟩) (fun c1 => ⟨rfl, rfl, fun h => nec on op wa c1 h.1⟩)⟩
    refine ⟨_, rfl, q _ _ (Same.refl _) ?_⟩
    rw [fp2 n0 n1' (.inl ⟨eqc on op wa c1, (k2 hz).mp ⟨ne_t c2, ne_t c3, ne_t c4⟩⟩)]
    exact hZ
  rintro σ3 H4 ⟨rfl, rfl, n2⟩
  refine ⟨fun σ' H' => σ' = [some (.str z), some v, some w, some (.ref Z), some (.ref O)] ∧ H' = H4 ∧ ¬ (b = exZ ∧ z ≠ "+" ∧ z ≠ "-" ∧ z ≠ "="), ?_, ?_⟩
  · refine ⟨_, rfl, _, rfl, b.dat, exZ.dat, hw.dp, hZ.dp, sb, shZ.1, _, rfl, ite2 (fun c1 => ⟨_, rfl, rfl, _, rfl, ite2 (fun c2 => ⟨_, rfl, rfl, _, rfl, ite2 (fun c3 => ⟨_, rfl, rfl, _, rfl, ite2 (fun c4 => ?_) (fun c4 => ⟨rfl, rfl, fun h => h.2.2.2 (ne_f c4)⟩)⟩) (fun c3 => ⟨rfl, rfl, fun h => h.2.2.1 (ne_f c3)⟩)⟩) (fun c2 => ⟨rfl, rfl, fun h => h.2.1 (ne_f c2)⟩)⟩) (fun c1 => ⟨rfl, rfl, fun h => nec on op wb c1 h.1⟩)⟩
    refine ⟨_, rfl, q _ _ (Same.refl _) ?_⟩
    rw [fp2 n0 n1' (.inr (.inl ⟨eqc on op wb c1, (k3 hz).mp ⟨ne_t c2, ne_t c3, ne_t c4⟩⟩))]
    exact hZ
  rintro σ4 H5 ⟨rfl, rfl, n3⟩
  refine ⟨fun σ' H' => σ' = [some (.str z), some v, some w, some (.ref Z), some (.ref O)] ∧ H' = H5 ∧ ¬ (b = exO ∧ z = "mod"), ?_, ?_⟩
  · refine ⟨_, rfl, _, rfl, b.dat, exO.dat, hw.dp, hO.dp, sb, shZ.2, _, rfl, ite2 (fun c1 => ⟨_, rfl, rfl, _, rfl, ite2 (fun c2 => ?_) (fun c2 => ⟨rfl, rfl, fun h => c2 (decide_eq_true (congrArg V.str h.2))⟩)⟩) (fun c1 => ⟨rfl, rfl, fun h => nec on op wb c1 h.1⟩)⟩
    refine ⟨_, rfl, q _ _ (Same.refl _) ?_⟩
    rw [fp2 n0 n1' (.inr (.inr ⟨eqc on op wb c1, str_eq c2⟩))]
    exact hZ
  rintro σ5 H6 ⟨rfl, rfl, n4⟩
  have nz : ¬ isZ z a b := fun h => h.elim (fun h => n2 ⟨h.1, (k2 hz).mpr h.2⟩) fun h => h.elim (fun h => n3 ⟨h.1, (k3 hz).mpr h.2⟩) n4
  refine ⟨fun σ' H' => σ' = [some (.str z), some v, some w, some (.ref Z), some (.ref O)] ∧ H' = H6 ∧ ¬ ((z = "+" ∧ a = exZ) ∨ (z = "*" ∧ a = exO)), ?_, ?_⟩
  · have out : ((z = "+" ∧ a = exZ) ∨ (z = "*" ∧ a = exO)) → Q w H6 := fun h => q _ _ (Same.refl _) (by rw [fp3 n0 n1' nz h]; exact hw)
    exact ⟨_, rfl, _, rfl, a.dat, exZ.dat, hv.dp, hZ.dp, sa, shZ.1, _, rfl, ite2 (fun c1 => ⟨_, rfl, rfl, _, rfl, ite2 (fun c2 => ⟨_, rfl, out (.inl ⟨str_eq c2, eqc on op wa c1⟩)⟩) (fun c2 => ⟨_, rfl, _, rfl, a.dat, exO.dat, hv.dp, hO.dp, sa, shZ.2, _, rfl, ite2 (fun c3 => ⟨_, rfl, rfl, _, rfl, ite2 (fun c4 => ⟨_, rfl, out (.inr ⟨str_eq c4, eqc on op wa c3⟩)⟩) (fun c4 => ⟨rfl, rfl, fun h => h.elim (fun h => c2 (decide_eq_true (congrArg V.str h.1))) (fun h => c4 (decide_eq_true (congrArg V.str h.1)))⟩)⟩) (fun c3 => ⟨rfl, rfl, fun h => h.elim (fun h => c2 (decide_eq_true (congrArg V.str h.1))) (fun h => nec on op wa c3 h.2)⟩)⟩)⟩) (fun c1 => ⟨_, rfl, _, rfl, a.dat, exO.dat, hv.dp, hO.dp, sa, shZ.2, _, rfl, ite2 (fun c3 => ⟨_, rfl, rfl, _, rfl, ite2 (fun c4 => ⟨_, rfl, out (.inr ⟨str_eq c4, eqc on op wa c3⟩)⟩) (fun c4 => ⟨rfl, rfl, fun h => h.elim (fun h => nec on op wa c1 h.2) (fun h => c4 (decide_eq_true (congrArg V.str h.1)))⟩)⟩) (fun c3 => ⟨rfl, rfl, fun h => h.elim (fun h => nec on op wa c1 h.2) (fun h => nec on op wa c3 h.2)⟩)⟩)⟩
  rintro σ6 H7 ⟨rfl, rfl, n5⟩
  refine ⟨fun σ' H' => σ' = [some (.str z), some v, some w, some (.ref Z), some (.ref O)] ∧ H' = H7 ∧ ¬ ((z ∈ (["+", "-"] : List Str) ∧ b = exZ) ∨ (z ∈ (["*", "/"] : List Str) ∧ b = exO)), ?_, ?_⟩
  · have out : ((z ∈ (["+", "-"] : List Str) ∧ b = exZ) ∨ (z ∈ (["*", "/"] : List Str) ∧ b = exO)) → Q v H7 := fun h => q _ _ (Same.refl _) (by rw [fp4 n0 n1' nz n5 h]; exact hv)
    exact ⟨_, rfl, _, rfl, b.dat, exZ.dat, hw.dp, hZ.dp, sb, shZ.1, _, rfl, ite2 (fun c1 => ⟨_, rfl, rfl, _, rfl, ite2 (fun c2 => ⟨_, rfl, out (.inl ⟨k4.mpr (.inl (str_eq c2)), eqc on op wb c1⟩)⟩) (fun c2 => ⟨_, rfl, rfl, _, rfl, ite2 (fun c6 => ⟨_, rfl, out (.inl ⟨k4.mpr (.inr (str_eq c6)), eqc on op wb c1⟩)⟩) (fun c6 => ⟨_, rfl, _, rfl, b.dat, exO.dat, hw.dp, hO.dp, sb, shZ.2, _, rfl, ite2 (fun c3 => ⟨_, rfl, rfl, _, rfl, ite2 (fun c4 => ⟨_, rfl, out (.inr ⟨k4.mpr (.inl (str_eq c4)), eqc on op wb c3⟩)⟩) (fun c4 => ⟨_, rfl, rfl, _, rfl, ite2 (fun c5 => ⟨_, rfl, out (.inr ⟨k4.mpr (.inr (str_eq c5)), eqc on op wb c3⟩)⟩) (fun c5 => ⟨rfl, rfl, fun h => h.elim (fun h => (k4.mp h.1).elim (fun e => c2 (decide_eq_true (congrArg V.str e))) (fun e => c6 (decide_eq_true (congrArg V.str e)))) (fun h => (k4.mp h.1).elim (fun e => c4 (decide_eq_true (congrArg V.str e))) (fun e => c5 (decide_eq_true (congrArg V.str e))))⟩)⟩)⟩) (fun c3 => ⟨rfl, rfl, fun h => h.elim (fun h => (k4.mp h.1).elim (fun e => c2 (decide_eq_true (congrArg V.str e))) (fun e => c6 (decide_eq_true (congrArg V.str e)))) (fun h => nec on op wb c3 h.2)⟩)⟩)⟩)⟩) (fun c1 => ⟨_, rfl, _, rfl, b.dat, exO.dat, hw.dp, hO.dp, sb, shZ.2, _, rfl, ite2 (fun c3 => ⟨_, rfl, rfl, _, rfl, ite2 (fun c4 => ⟨_, rfl, out (.inr ⟨k4.mpr (.inl (str_eq c4)), eqc on op wb c3⟩)⟩) (fun c4 => ⟨_, rfl, rfl, _, rfl, ite2 (fun c5 => ⟨_, rfl, out (.inr ⟨k4.mpr (.inr (str_eq c5)), eqc on op wb c3⟩)⟩) (fun c5 => ⟨rfl, rfl, fun h => h.elim (fun h => nec on op wb c1 h.2) (fun h => (k4.mp h.1).elim (fun e => c4 (decide_eq_true (congrArg V.str e))) (fun e => c5 (decide_eq_true (congrArg V.str e))))⟩)⟩)⟩) (fun c3 => ⟨rfl, rfl, fun h => h.elim (fun h => nec on op wb c1 h.2) (fun h => nec on op wb c3 h.2)⟩)⟩)⟩
  rintro σ7 H8 ⟨rfl, rfl, n6⟩
  refine ⟨_, rfl, _, rfl, _, rfl, by show 3 ≤ sizeLine; decide, fun t ft => ?_⟩
  have sf := same_upd (o := .tup [V.str z, v, w]) ft
  refine q _ _ sf ?_
  rw [fp5 n0 n1' nz n5 n6]
  exact .op (.inl upd_same) (hv.keep (keepT_of sf)) (hw.keep (keepT_of sf))
/-! ### _law_fold -/
def sp_law_fold (T : Txt K mg) (n : Nat) : Sp := fun vs H Q _ => ∃ (v : V) (o : Addr) (e : Ex) (ns ps : List Str) (on : Str → Bool) (ko : List (Key × V)), vs = [v, .ref o] ∧ EvK K H v e ∧ e.deep ≤ n ∧ n ≤ 13 ∧ e.Wf ns ps ∧ Oks ns ∧ Oks ps ∧ H o = some (.dK ko) ∧ (∀ x ∈ ps, valV ko (.inr x) = some (.bl (on x))) ∧
  ∀ (u : V) (H' : Hp), Same H H' → EvK K H' u (foldE on e) → Q u H'
theorem no_law_fold (T : Txt K mg) : ∀ vs H Q E, ¬ sp_law_fold T 0 vs H Q E := fun vs H Q E ⟨_, _, e, _, _, _, _, _, _, h, _⟩ => absurd (deep_pos e) (by omega)

theorem step_law_fold (T : Txt K mg) {n : Nat} (G : FnOk P w K mg base CX0 (2 + n) T.a_law_fold T.d_law_fold ["due", "on"] (sp_law_fold T n)) : FnOk P w K mg base CX0 (2 + n + 1) T.a_law_fold T.d_law_fold ["due", "on"] (sp_law_fold T (n + 1)) := by
  refine T.F_law_fold.ok sc_law_fold (fun vs H Q E h => ?_) (fun cdv A outer s H vs Q E hr h => ?_)
  · obtain ⟨v, o, e, ns, ps, on, ko, rfl, _⟩ := h
    rfl
  obtain ⟨v, o, e, ns, ps, on, ko, rfl, hv, hd, h13, hw, oks, okp, ho, hov, q⟩ := h
  refine ⟨_, (pss_cons (ps_if (PW.pt (pw_or (pt_cmpR op_eq (pe_ix ix_tup (pv 0) pe_int (fun _ _ => rfl)) pe_str (nomark _)) (pw_or (pt_cmpR op_eq (pe_ix ix_tup (pv 0) pe_int (fun _ _ => rfl)) pe_str (nomark _)) (pw_or1 (pt_cmpR op_eq (pe_ix ix_tup (pv 0) pe_int (fun _ _ => rfl)) pe_str (nomark _)))))) (pss_one (ps_ret (pv 0))) pss_nil)
      (pss_cons (ps_if (pt_cmpR op_eq (pe_ix ix_tup (pv 0) pe_int (fun _ _ => rfl)) pe_str (nomark _)) (pss_one (ps_ret (pe_call G hr (by rfl) T.m_law_fold T.F_law_fold.kp T.b_law_fold .nil pass0 (pa_cons (pe_ix ix_tup (pv 0) (pe_op op_sub pe_int (pe_callTy call_int1 (by rfl) T.z_int (by first | exact PySem.boot_int | decide +kernel) (pa_cons (pe_dget (d_room hr) (pv 1) (pe_ix ix_tup (pv 0) pe_int (fun _ _ => rfl)) (fun _ _ => rfl)) pa_nil))) (fun _ _ => rfl)) (pa_cons (pv 1) pa_nil))))) pss_nil)
      (pss_cons (ps_if (pt_cmpR op_eq (pe_ix ix_tup (pv 0) pe_int (fun _ _ => rfl)) pe_str (nomark _)) (pss_one (ps_ret (pe_tup (pa_cons pe_str (pa_cons (pe_call G hr (by rfl) T.m_law_fold T.F_law_fold.kp T.b_law_fold .nil pass0 (pa_cons (pe_ix ix_tup (pv 0) pe_int (fun _ _ => rfl)) (pa_cons (pv 1) pa_nil))) pa_nil))))) pss_nil)
      (pss_one (ps_ret (pe_call (ok_law_fold_pair T) (hr.mono (by omega)) (by rfl) T.m_law_fold_pair T.F_law_fold_pair.kp T.b_law_fold_pair .nil pass0 (pa_cons (pe_ix ix_tup (pv 0) pe_int (fun _ _ => rfl)) (pa_cons (pe_call G hr (by rfl) T.m_law_fold T.F_law_fold.kp T.b_law_fold .nil pass0 (pa_cons (pe_ix ix_tup (pv 0) pe_int (fun _ _ => rfl)) (pa_cons (pv 1) pa_nil))) (pa_cons (pe_call G hr (by rfl) T.m_law_fold T.F_law_fold.kp T.b_law_fold .nil pass0 (pa_cons (pe_ix ix_tup (pv 0) pe_int (fun _ _ => rfl)) (pa_cons (pv 1) pa_nil))) pa_nil))))))))), ?_⟩
  obtain ⟨n1, n2, n3, n4, n5, n6, n7, n8, n9, n10⟩ := num_ne
  cases hv with
  | @num a m ha =>
    exact ⟨_, rfl, a, _, 0, .str "number", rfl, rfl, ha.sq, atI_nat (j := 0) rfl, rfl, _, rfl, iteS ⟨_, rfl, q _ _ (Same.refl _) (.num ha)⟩⟩
  | @var a x ha =>
    refine ⟨_, rfl, a, _, 0, .str "variable", rfl, rfl, ha.sq, atI_nat (j := 0) rfl, rfl, _, rfl, iteN n1 ?_⟩
    exact ⟨_, rfl, a, _, 0, .str "variable", rfl, rfl, ha.sq, atI_nat (j := 0) rfl, rfl, _, rfl, iteS ⟨_, rfl, q _ _ (Same.refl _) (.var ha)⟩⟩
  | @long a ha =>
    refine ⟨_, rfl, a, _, 0, .str "long", rfl, rfl, ha.sq, atI_nat (j := 0) rfl, rfl, _, rfl, iteN n2 ?_⟩
    refine ⟨_, rfl, a, _, 0, .str "long", rfl, rfl, ha.sq, atI_nat (j := 0) rfl, rfl, _, rfl, iteN n5 ?_⟩
    exact ⟨_, rfl, a, _, 0, .str "long", rfl, rfl, ha.sq, atI_nat (j := 0) rfl, rfl, _, rfl, iteS ⟨_, rfl, q _ _ (Same.refl _) (.long ha)⟩⟩
  | @view a v e ha hv =>
    have hd' : e.deep ≤ n := by
      have : e.deep + 1 ≤ n + 1 := hd
      omega
    refine ⟨_, rfl, a, _, 0, .str "view", rfl, rfl, ha.sq, atI_nat (j := 0) rfl, rfl, _, rfl, iteN n3 ?_⟩
    refine ⟨_, rfl, a, _, 0, .str "view", rfl, rfl, ha.sq, atI_nat (j := 0) rfl, rfl, _, rfl, iteN n6 ?_⟩
    refine ⟨_, rfl, a, _, 0, .str "view", rfl, rfl, ha.sq, atI_nat (j := 0) rfl, rfl, _, rfl, iteN n8 ?_⟩
    refine ⟨_, rfl, a, _, 0, .str "view", rfl, rfl, ha.sq, atI_nat (j := 0) rfl, rfl, _, rfl, iteN n10.symm ?_⟩
    refine ⟨_, rfl, a, _, 0, .str "view", rfl, rfl, ha.sq, atI_nat (j := 0) rfl, rfl, _, rfl, iteS ?_⟩
    refine ⟨_, rfl, a, _, 1, v, rfl, rfl, ha.sq, atI_nat (j := 1) rfl, _, rfl, v, o, e, ns, ps, on, ko, rfl, hv, hd', by omega, hw, oks, okp, ho, hov, fun u H1 s1 hu => ⟨by show 2 ≤ sizeLine; decide, fun t ft => ?_⟩⟩
    exact q _ _ (s1.trans (same_upd ft)) (.view (.inl upd_same) (hu.keep (keepT_of (same_upd ft))))
  | @pick a x v w e f ha hv hv2 =>
    have hd' : max e.deep f.deep + 1 ≤ n + 1 := hd
    refine ⟨_, rfl, a, _, 0, .str "pick", rfl, rfl, ha.sq, atI_nat (j := 0) rfl, rfl, _, rfl, iteN n4 ?_⟩
    refine ⟨_, rfl, a, _, 0, .str "pick", rfl, rfl, ha.sq, atI_nat (j := 0) rfl, rfl, _, rfl, iteN n7 ?_⟩
    refine ⟨_, rfl, a, _, 0, .str "pick", rfl, rfl, ha.sq, atI_nat (j := 0) rfl, rfl, _, rfl, iteN n9 ?_⟩
    refine ⟨_, rfl, a, _, 0, .str "pick", rfl, rfl, ha.sq, atI_nat (j := 0) rfl, rfl, _, rfl, iteS ?_⟩
    have q' : ∀ (u : V) (H' : Hp), Same H H' → EvK K H' u (if on x = true then foldE on e else foldE on f) → Q u H' := q
    obtain ⟨u, g, gi, gv, gd, gw, gq⟩ : ∃ (u : V) (g : Ex), atI [V.str "pick", .str x, v, w] (3 - (if on x = true then 1 else 0)) = some u ∧ EvK K H u g ∧ g.deep ≤ n ∧ g.Wf ns ps ∧ (if on x = true then foldE on e else foldE on f) = foldE on g := by
      by_cases c : on x = true
      · exact ⟨v, e, by rw [if_pos c]; exact atI_nat (j := 2) rfl, hv, by omega, hw.2.1, if_pos c⟩
      · exact ⟨w, f, by rw [if_neg c]; exact atI_nat (j := 3) rfl, hv2, by omega, hw.2.2, if_neg c⟩
    rw [gq] at q'
    exact ⟨_, rfl, _, rfl, _, rfl, a, _, 1, .str x, rfl, rfl, ha.sq, atI_nat (j := 1) rfl, o, _, rfl, dget_of ho (hov x hw.1), .inr ⟨_, rfl, _, _, rfl, rfl, a, _, _, u, rfl, rfl, ha.sq, gi, _, rfl, u, o, g, ns, ps, on, ko, rfl, gv, gd, by omega, gw, oks, okp, ho, hov, q'⟩⟩
  | @op a z v w e f ha hv hv2 =>
    have hd' : max e.deep f.deep + 1 ≤ n + 1 := hd
    obtain ⟨m1, m2, m3, m4, m5⟩ := opL_ne hw.1
    refine ⟨_, rfl, a, _, 0, .str z, rfl, rfl, ha.sq, atI_nat (j := 0) rfl, rfl, _, rfl, iteN m1 ?_⟩
    refine ⟨_, rfl, a, _, 0, .str z, rfl, rfl, ha.sq, atI_nat (j := 0) rfl, rfl, _, rfl, iteN m2 ?_⟩
    refine ⟨_, rfl, a, _, 0, .str z, rfl, rfl, ha.sq, atI_nat (j := 0) rfl, rfl, _, rfl, iteN m3 ?_⟩
    refine ⟨_, rfl, a, _, 0, .str z, rfl, rfl, ha.sq, atI_nat (j := 0) rfl, rfl, _, rfl, iteN m5 ?_⟩
    refine ⟨_, rfl, a, _, 0, .str z, rfl, rfl, ha.sq, atI_nat (j := 0) rfl, rfl, _, rfl, iteN m4 ?_⟩
    refine ⟨_, rfl, a, _, 0, .str z, rfl, rfl, ha.sq, atI_nat (j := 0) rfl, ?_⟩
    refine ⟨_, rfl, a, _, 1, v, rfl, rfl, ha.sq, atI_nat (j := 1) rfl, _, rfl, v, o, e, ns, ps, on, ko, rfl, hv, by omega, by omega, hw.2.1, oks, okp, ho, hov, fun u H1 s1 hu => ?_⟩
    have ha1 := ha.keep (keepT_of s1)
    refine ⟨_, rfl, a, _, 2, w, rfl, rfl, ha1.sq, atI_nat (j := 2) rfl, _, rfl, w, o, f, ns, ps, on, ko, rfl, hv2.keep (keepT_of s1), by omega, by omega, hw.2.2, oks, okp, s1 _ _ ho, hov, fun u2 H2 s2 hu2 => ?_⟩
    have de := fold_deep (on := on) e
    have df := fold_deep (on := on) f
    exact ⟨z, u, u2, _, _, ns, ps, rfl, hw.1, hu.keep (keepT_of s2), hu2, fold_wf e hw.2.1, fold_wf f hw.2.2, oks, okp, by omega, by omega, fun r H3 s3 hr3 => q r H3 ((s1.trans s2).trans s3) hr3⟩
theorem ok_law_fold (T : Txt K mg) : ∀ n, FnOk P w K mg base CX0 (2 + n) T.a_law_fold T.d_law_fold ["due", "on"] (sp_law_fold T n)
  | 0 => ⟨fun vs H Q E h => absurd h (no_law_fold T vs H Q E), fun A outer s H args us vs Q E _ _ _ _ h => absurd h (no_law_fold T vs H Q E)⟩
  | n + 1 => step_law_fold T (ok_law_fold T n)
/-! ### _law_statement -/
def sp_law_block (T : Txt K mg) (n : Nat) : Sp := fun vs H Q _ => ∃ (p c pn pp d : Addr) (ns ps : List Str) (deep b : Int), vs = [.ref p, .ref pn, .ref pp, .int deep, .ref d] ∧ 0 ≤ deep ∧ deep < n ∧ Pool H p c b ∧ pn ≠ p ∧ pp ≠ p ∧ d ≠ p ∧ d ≠ c ∧ pn ≠ d ∧ pp ≠ d ∧ H pn = some (.lst (ns.map V.str)) ∧ H pp = some (.lst (ps.map V.str)) ∧
  ns.length ≤ 100 ∧ ps.length ≤ 100 ∧ Stt H d ∧ ∀ (v : V) (ss : List St) (H' : Hp) (b' : Int), Bk K H' v ss → (lvL ss : Int) ≤ deep → szL ss ≤ 5 * szC deep.toNat → WfL ns ps ss → B2 p d H H' → Pool H' p c b' → Stt H' d → Q v H'
theorem no_law_block (T : Txt K mg) : ∀ vs H Q E, ¬ sp_law_block T 0 vs H Q E := fun vs H Q E ⟨_, _, _, _, _, _, _, _, _, _, h1, h2, _⟩ => by omega

def sp_law_statement (T : Txt K mg) (n : Nat) : Sp := fun vs H Q _ => ∃ (p c pn pp d : Addr) (ns ps : List Str) (deep b : Int), vs = [.ref p, .ref pn, .ref pp, .int deep, .ref d] ∧ 0 ≤ deep ∧ deep ≤ n ∧ Pool H p c b ∧ pn ≠ p ∧ pp ≠ p ∧ d ≠ p ∧ d ≠ c ∧ pn ≠ d ∧ pp ≠ d ∧ H pn = some (.lst (ns.map V.str)) ∧ H pp = some (.lst (ps.map V.str)) ∧
  ns.length ≤ 100 ∧ ps.length ≤ 100 ∧ Stt H d ∧ ∀ (v : V) (z : St) (H' : Hp) (b' : Int), Sv K H' v z → (z.lv : Int) ≤ deep → z.sz ≤ szC deep.toNat → z.Wf ns ps → B2 p d H H' → Pool H' p c b' → Stt H' d → Q v H'

theorem ok_law_statement (T : Txt K mg) {n : Nat} (G : FnOk P w K mg base CX0 (15 + 2 * n) T.a_law_block T.d_law_block ["pool", "names", "picks", "deep", "state"] (sp_law_block T n)) : FnOk P w K mg base CX0 (15 + 2 * n + 1) T.a_law_statement T.d_law_statement ["pool", "names", "picks", "deep", "state"] (sp_law_statement T n) := by
  refine T.F_law_statement.ok sc_law_statement (fun vs H Q E h => ?_) (fun cdv A outer s H vs Q E hr h => ?_)
  · obtain ⟨p, c, pn, pp, d, ns, ps, deep, b, rfl, _⟩ := h
    rfl
  obtain ⟨p, c, pn, pp, d, ns, ps, deep, b, rfl, d0, d1, hP, npn, npp, nd, ndc, nnd, npd, hn, hp, ln, lp, hS, q⟩ := h
  refine ⟨_, (pss_cons (ps_set (i := 5) sc_law_statement.nd rfl (by first | exact Or.inl rfl | exact Or.inr rfl) (pe_call (ok_law_draw T) (hr.mono (by omega)) (by rfl) T.m_law_draw T.F_law_draw.kp T.b_law_draw .nil pass0 (pa_cons (pv 0) (pa_cons pe_int pa_nil))))
      (C8.pss_cut (ps_if (PW.pt (pw_and (pt_cmpR op_lt (pv 5) pe_int (nomark _)) (pw_and1 (pt_cmpR op_gt (pv 3) pe_int (nomark _))))) (pss_cons (ps_set (i := 6) sc_law_statement.nd rfl (by first | exact Or.inl rfl | exact Or.inr rfl) (pe_ix ix_list (pv 4) pe_int (fun _ _ => rfl)))
      (pss_cons (ps_set (i := 7) sc_law_statement.nd rfl (by first | exact Or.inl rfl | exact Or.inr rfl) (pe_call G (hr.mono (by omega)) (by rfl) T.m_law_block T.F_law_block.kp T.b_law_block .nil pass0 (pa_cons (pv 0) (pa_cons (pv 1) (pa_cons (pv 2) (pa_cons (pe_op op_sub (pv 3) pe_int) (pa_cons (pv 4) pa_nil)))))))
      (pss_cons (ps_set (i := 8) sc_law_statement.nd rfl (by first | exact Or.inl rfl | exact Or.inr rfl) (pv 7))
      (C8.pss_cut (ps_if (PW.pt (pw_or (pt_cmpR op_ne (pv 5) pe_int (nomark _)) (pw_or1 (pt_cmpR op_gt (pe_ix ix_list (pv 4) pe_int (fun _ _ => rfl)) (pv 6) (nomark _))))) (pss_one (ps_set (i := 8) sc_law_statement.nd rfl (by first | exact Or.inl rfl | exact Or.inr rfl) (pe_call G (hr.mono (by omega)) (by rfl) T.m_law_block T.F_law_block.kp T.b_law_block .nil pass0 (pa_cons (pv 0) (pa_cons (pv 1) (pa_cons (pv 2) (pa_cons (pe_op op_sub (pv 3) pe_int) (pa_cons (pv 4) pa_nil)))))))) pss_nil)
      (C8.pss_cut (ps_if (PW.pt (pw_and (pt_cmpR op_lt (pv 5) pe_int (nomark _)) (pw_and1 (pt_truth (pv 2) (fun _ => rfl))))) (pss_one (ps_ret (pe_tup (pa_cons pe_str (pa_cons (pe_ix ix_list (pv 2) (pe_call (ok_law_draw T) (hr.mono (by omega)) (by rfl) T.m_law_draw T.F_law_draw.kp T.b_law_draw .nil pass0 (pa_cons (pv 0) (pa_cons (pe_callB call_len_seq (by rfl) T.z_len (by first | exact PySem.boot_len | decide +kernel) (pa_cons (pv 2) pa_nil)) pa_nil))) (fun _ _ => rfl)) (pa_cons (pv 7) (pa_cons (pv 8) pa_nil))))))) pss_nil)
      (pss_one (ps_ret (pe_tup (pa_cons pe_str (pa_cons (pe_call (ok_law_expression T 13) (hr.mono (by omega)) (by rfl) T.m_law_expression T.F_law_expression.kp T.b_law_expression .nil pass0 (pa_cons (pv 0) (pa_cons (pv 1) (pa_cons (pv 2) (pa_cons pe_int pa_nil))))) (pa_cons (pv 7) (pa_cons (pv 8) pa_nil)))))))))))) pss_nil)
      (C8.pss_cut (ps_if (PW.pt (pw_and (pt_cmpR op_lt (pv 5) pe_int (nomark _)) (pw_and1 (pt_truth (pv 1) (fun _ => rfl))))) (pss_cons (ps_set (i := 9) sc_law_statement.nd rfl (by first | exact Or.inl rfl | exact Or.inr rfl) (pe_ix ix_list (pv 1) (pe_call (ok_law_draw T) (hr.mono (by omega)) (by rfl) T.m_law_draw T.F_law_draw.kp T.b_law_draw .nil pass0 (pa_cons (pv 0) (pa_cons (pe_callB call_len_seq (by rfl) T.z_len (by first | exact PySem.boot_len | decide +kernel) (pa_cons (pv 1) pa_nil)) pa_nil))) (fun _ _ => rfl)))
      (C8.pss_cut (ps_if (PW.pt (pw_and (pt_cmpR op_eq (pv 5) pe_int (nomark _)) (pw_and1 (pt_cmpR op_lt (pe_ix ix_list (pv 4) pe_int (fun _ _ => rfl)) pe_int (nomark _))))) (pss_cons (ps_asg (pe_op op_add (pe_ix ix_list (pv 4) pe_int (fun _ _ => rfl)) pe_int) (pg_sub (pv 4) pe_int set_list))
      (pss_cons (ps_asg (pe_op op_add (pe_ix ix_list (pv 4) pe_int (fun _ _ => rfl)) pe_int) (pg_sub (pv 4) pe_int set_list))
      (pss_one (ps_ret (pe_tup (pa_cons pe_str (pa_cons (pe_op op_add pe_int (pe_call (ok_law_draw T) (hr.mono (by omega)) (by rfl) T.m_law_draw T.F_law_draw.kp T.b_law_draw .nil pass0 (pa_cons (pv 0) (pa_cons pe_int pa_nil)))) (pa_cons (pv 9) (pa_cons (pe_op op_add pe_int (pe_call (ok_law_draw T) (hr.mono (by omega)) (by rfl) T.m_law_draw T.F_law_draw.kp T.b_law_draw .nil pass0 (pa_cons (pv 0) (pa_cons pe_int pa_nil)))) (pa_cons (pe_op op_sub (pe_ix ix_list (pv 4) pe_int (fun _ _ => rfl)) pe_int) pa_nil)))))))))) pss_nil)
      (C8.pss_cut (ps_if (pt_cmpR op_eq (pe_call (ok_law_draw T) (hr.mono (by omega)) (by rfl) T.m_law_draw T.F_law_draw.kp T.b_law_draw .nil pass0 (pa_cons (pv 0) (pa_cons pe_int pa_nil))) pe_int (nomark _)) (pss_one (ps_ret (pe_tup (pa_cons pe_str (pa_cons (pv 9) (pa_cons (pe_tup (pa_cons pe_str (pa_cons (pv 9) pa_nil))) pa_nil)))))) pss_nil)
      (pss_one (ps_ret (pe_tup (pa_cons pe_str (pa_cons (pv 9) (pa_cons (pe_call (ok_law_expression T 13) (hr.mono (by omega)) (by rfl) T.m_law_expression T.F_law_expression.kp T.b_law_expression .nil pass0 (pa_cons (pv 0) (pa_cons (pv 1) (pa_cons (pv 2) (pa_cons pe_int pa_nil))))) pa_nil))))))))) pss_nil)
      (C8.pss_cut (ps_if (pt_cmpR op_eq (pv 5) pe_int (nomark _)) (pss_one (ps_ret (pe_tup (pa_cons pe_str (pa_cons (pe_call (ok_law_draw T) (hr.mono (by omega)) (by rfl) T.m_law_draw T.F_law_draw.kp T.b_law_draw .nil pass0 (pa_cons (pv 0) (pa_cons pe_int pa_nil))) (pa_cons (pe_call (ok_law_expression T 13) (hr.mono (by omega)) (by rfl) T.m_law_expression T.F_law_expression.kp T.b_law_expression .nil pass0 (pa_cons (pv 0) (pa_cons (pv 1) (pa_cons (pv 2) (pa_cons pe_int pa_nil))))) pa_nil)))))) pss_nil)
      (C8.pss_cut (ps_if (PW.pt (pw_and (pt_cmpR op_eq (pv 5) pe_int (nomark _)) (pw_and (pt_truth (pv 1) (fun _ => rfl)) (pw_and1 (pt_cmpR op_lt (pe_ix ix_list (pv 4) pe_int (fun _ _ => rfl)) pe_int (nomark _)))))) (pss_cons (ps_asg (pe_op op_add (pe_ix ix_list (pv 4) pe_int (fun _ _ => rfl)) pe_int) (pg_sub (pv 4) pe_int set_list))
      (pss_one (ps_ret (pe_tup (pa_cons pe_str (pa_cons (pe_ix ix_list (pv 1) (pe_call (ok_law_draw T) (hr.mono (by omega)) (by rfl) T.m_law_draw T.F_law_draw.kp T.b_law_draw .nil pass0 (pa_cons (pv 0) (pa_cons (pe_callB call_len_seq (by rfl) T.z_len (by first | exact PySem.boot_len | decide +kernel) (pa_cons (pv 1) pa_nil)) pa_nil))) (fun _ _ => rfl)) (pa_cons (pe_op op_add pe_int (pe_call (ok_law_draw T) (hr.mono (by omega)) (by rfl) T.m_law_draw T.F_law_draw.kp T.b_law_draw .nil pass0 (pa_cons (pv 0) (pa_cons pe_int pa_nil)))) pa_nil))))))) pss_nil)
      (pss_one (ps_ret (pe_tup (pa_cons (pe_ix ix_tup (pe_tup (pa_cons pe_str (pa_cons pe_str pa_nil))) (pe_op op_mod (pe_callTy call_int1 (by rfl) T.z_int (by first | exact PySem.boot_int | decide +kernel) (pa_cons (pv 5) pa_nil)) pe_int) (fun _ _ => rfl)) (pa_cons (pe_call (ok_law_expression T 13) (hr.mono (by omega)) (by rfl) T.m_law_expression T.F_law_expression.kp T.b_law_expression .nil pass0 (pa_cons (pv 0) (pa_cons (pv 1) (pa_cons (pv 2) (pa_cons pe_int pa_nil))))) pa_nil)))))))))), ?_⟩
  have cz : 1 ≤ szC deep.toNat := by
    cases deep.toNat with
    | zero => exact Nat.le_refl _
    | succ m => show 1 ≤ 1 + 10 * szC m; omega
  refine ⟨_, rfl, p, c, 12, b, rfl, by decide, by decide, hP, fun k H1 h0 h1 b1 P1 => ?_⟩
  have S1 := hS.but b1 nd
  have w1 : B2 p d H H1 := b1.two
  clear b1
  -- one statement is made at U
  have out : ∀ (z : St) (U : Addr) (xs : List V) (H3 : Hp) (b3 : Int), H3 U = none → Sv K (upd H3 U (.tup xs)) (.ref U) z → z.lv = 0 → z.sz = 1 → z.Wf ns ps → B2 p d H H3 → Pool H3 p c b3 → Stt H3 d → Q (.ref U) (upd H3 U (.tup xs)) := fun z U xs H3 b3 f v l sz w k P S =>
    q _ z _ b3 v (by rw [l]; exact d0) (by rw [sz]; exact cz) w (k.trans (b2_of (same_upd f))) (P.upd (P.ne f) (P.ne2 f) _) (S.same (same_upd f))
  refine ⟨fun σ' H' => ∃ (y6 y7 y8 y9 : Option V) (b' : Int), σ' = [some (.ref p), some (.ref pn), some (.ref pp), some (.int deep), some (.ref d), some (.int k), y6, y7, y8, y9] ∧ B2 p d H H' ∧ Pool H' p c b' ∧ Stt H' d, ?_, ?_⟩
  · refine ⟨_, rfl, _, _, rfl, rfl, _, rfl, ite2 (fun c1 => ?_) (fun _ => ⟨_, _, _, _, b, rfl, w1, P1, S1⟩)⟩
    refine ⟨_, rfl, _, _, rfl, rfl, _, rfl, ite2 (fun c2 => ?_) (fun _ => ⟨_, _, _, _, b, rfl, w1, P1, S1⟩)⟩
    have c2' : (0 : Int) < deep := of_decide_eq_true c2
    have dn : deep.toNat = (deep - 1).toNat + 1 := by omega
    have cs : szC deep.toNat = 1 + 10 * szC (deep - 1).toNat := by rw [dn]; rfl
    obtain ⟨x0, y0, es⟩ := id S1
    refine ⟨_, rfl, d, _, 1, .int y0, rfl, rfl, SqL.of es, atI_nat (j := 1) rfl, ?_⟩
    refine ⟨_, rfl, _, rfl, _, rfl, _, rfl, _, _, rfl, rfl, _, rfl, p, c, pn, pp, d, ns, ps, deep - 1, b, rfl, by omega, by omega, P1, npn, npp, nd, ndc, nnd, npd, w1 _ _ npn nnd hn, w1 _ _ npp npd hp, ln, lp, S1,  fun v1 ss1 H2 b2 g1 l1 z1 f1 w2 P2 S2 => ?_⟩
    refine ⟨_, rfl, ?_⟩
    have w12 := w1.trans w2
    refine ⟨fun σ' H' => ∃ (y9 : Option V) (v2 : V) (ss2 : List St) (b' : Int), σ' = [some (.ref p), some (.ref pn), some (.ref pp), some (.int deep), some (.ref d), some (.int k), some (.int y0), some v1, some v2, y9] ∧ B2 p d H H' ∧ Pool H' p c b' ∧ Stt H' d ∧ Bk K H' v1 ss1 ∧ Bk K H' v2 ss2 ∧ (lvL ss2 : Int) ≤ deep - 1 ∧ szL ss2 ≤ 5 * szC (deep - 1).toNat ∧ WfL ns ps ss2, ?_, ?_⟩
    · obtain ⟨x2, y2, es2⟩ := id S2
      refine ⟨_, rfl, rfl, _, rfl, ite2 (fun _ => ?_) (fun _ => ⟨_, rfl, d, _, 1, .int y2, rfl, rfl, SqL.of es2, atI_nat (j := 1) rfl, _, rfl, _, _, rfl, rfl, _, rfl, ite2 (fun _ => ?_) (fun _ => ⟨_, v1, ss1, b2, rfl, w12, P2, S2, g1, g1, l1, z1, f1⟩)⟩)⟩
      · exact ⟨_, rfl, _, rfl, _, rfl, _, rfl, _, _, rfl, rfl, _, rfl, p, c, pn, pp, d, ns, ps, deep - 1, b2, rfl, by omega, by omega, P2, npn, npp, nd, ndc, nnd, npd, w12 _ _ npn nnd hn, w12 _ _ npp npd hp, ln, lp, S2,  fun v2 ss2 H3 b3 g2 l2 z2 f2 w3 P3 S3 => ⟨_, v2, ss2, b3, rfl, w12.trans w3, P3, S3, g1.keep (w3.keepT P2 S2), g2, l2, z2, f2⟩⟩
      · exact ⟨_, rfl, _, rfl, _, rfl, _, rfl, _, _, rfl, rfl, _, rfl, p, c, pn, pp, d, ns, ps, deep - 1, b2, rfl, by omega, by omega, P2, npn, npp, nd, ndc, nnd, npd, w12 _ _ npn nnd hn, w12 _ _ npp npd hp, ln, lp, S2,  fun v2 ss2 H3 b3 g2 l2 z2 f2 w3 P3 S3 => ⟨_, v2, ss2, b3, rfl, w12.trans w3, P3, S3, g1.keep (w3.keepT P2 S2), g2, l2, z2, f2⟩⟩
    clear g1 P2 S2 w2 w12
    rintro σ3 H3 ⟨y9, v2, ss2, b3, rfl, w3, P3, S3, g1, g2, l2, z2, f2⟩
    refine ⟨fun σ' H' => σ' = [some (.ref p), some (.ref pn), some (.ref pp), some (.int deep), some (.ref d), some (.int k), some (.int y0), some v1, some v2, y9] ∧ H' = H3, ?_, ?_⟩
    · have hp3 := w3 _ _ npp npd hp
      refine ⟨_, rfl, _, _, rfl, rfl, _, rfl, ite2 (fun c4 => ⟨_, rfl, _, .inl ⟨_, SqL.of hp3, rfl⟩, ite2 (fun c5 => ?_) (fun _ => ⟨rfl, rfl⟩)⟩) (fun _ => ⟨rfl, rfl⟩)⟩
      have lpos : 0 < ps.length := by
        cases ps with
        | nil => cases c5
        | cons x r => exact Nat.succ_pos _
      refine ⟨_, rfl, _, rfl, _, rfl, pp, _, rfl, .inl (SqL.of hp3), p, c, ((ps.map V.str).length : Int), b3, rfl, by rw [List.length_map]; omega, by rw [List.length_map]; omega, P3, fun j H4 j0 j1 b4 P4 => ?_⟩
      rw [List.length_map] at j1
      obtain ⟨x, mx, ax⟩ := pick j0 j1
      have kk := P3.keepT b4
      obtain ⟨q1, vs1, e1, t1, B1⟩ := g1.keep kk
      obtain ⟨q2, vs2, e2, t2, B2'⟩ := g2.keep kk
      subst e1 e2
      refine ⟨pp, _, j, _, rfl, rfl, SqL.of (b4 _ _ npp hp3), ax, _, rfl, _, rfl, by show 4 ≤ sizeLine; decide, fun U hU => ?_⟩
      have sU := same_upd (o := .tup [V.str "when", .str x, .ref q1, .ref q2]) hU
      have ku := keepT_of sU
      refine q _ (.whn x ss1 ss2) _ b3 (.whn (.inl upd_same) (t1.keep ku) (B1.keep ku) (t2.keep ku) (B2'.keep ku)) ?_ ?_ ⟨mx, f1, f2⟩ ((w3.trans b4.two).trans (b2_of sU)) (P4.upd (P4.ne hU) (P4.ne2 hU) _) ((S3.but b4 nd).same sU)
      · show ((max (lvL ss1) (lvL ss2) + 1 : Nat) : Int) ≤ deep
        omega
      · show 1 + szL ss1 + szL ss2 ≤ _
        omega
    rintro σ4 H4 ⟨rfl, rfl⟩
    refine ⟨_, rfl, _, rfl, _, rfl, p, c, pn, pp, ns, ps, 4, b3, rfl, by decide, by decide, P3, npn, npp, w3 _ _ npn nnd hn, w3 _ _ npp npd hp, ln, lp, fun ve ee Hx bx ev ed ew bt Px =>  ?_⟩
    have kk := P3.keepT bt
    obtain ⟨q1, vs1, e1, t1, B1⟩ := g1.keep kk
    obtain ⟨q2, vs2, e2, t2, B2'⟩ := g2.keep kk
    subst e1 e2
    refine ⟨_, rfl, _, rfl, by show 4 ≤ sizeLine; decide, fun U hU => ?_⟩
    have sU := same_upd (o := .tup [V.str "if", ve, .ref q1, .ref q2]) hU
    have ku := keepT_of sU
    refine q _ (.ite ee ss1 ss2) _ bx (.ite (.inl upd_same) (ev.toK.keep ku) (t1.keep ku) (B1.keep ku) (t2.keep ku) (B2'.keep ku)) ?_ ?_ ⟨⟨ew, by omega⟩, f1, f2⟩ ((w3.trans bt.two).trans (b2_of sU)) (Px.upd (Px.ne hU) (Px.ne2 hU) _) ((S3.but bt nd).same sU)
    · show ((max (lvL ss1) (lvL ss2) + 1 : Nat) : Int) ≤ deep
      omega
    · show 1 + szL ss1 + szL ss2 ≤ _
      omega
  clear P1 S1 w1
  rintro σ1 H1 ⟨y6, y7, y8, y9, b1, rfl, w1, P1, S1⟩
  refine ⟨fun σ' H' => ∃ (y6 y7 y8 y9 : Option V) (b' : Int), σ' = [some (.ref p), some (.ref pn), some (.ref pp), some (.int deep), some (.ref d), some (.int k), y6, y7, y8, y9] ∧ B2 p d H H' ∧ Pool H' p c b' ∧ Stt H' d, ?_, ?_⟩
  · have hn1 := w1 _ _ npn nnd hn
    refine ⟨_, rfl, _, _, rfl, rfl, _, rfl, ite2 (fun c1 => ⟨_, rfl, _, .inl ⟨_, SqL.of hn1, rfl⟩, ite2 (fun c5 => ?_) (fun _ => ⟨_, _, _, _, b1, rfl, w1, P1, S1⟩)⟩) (fun _ => ⟨_, _, _, _, b1, rfl, w1, P1, S1⟩)⟩
    have lpos : 0 < ns.length := by
      cases ns with
      | nil => cases c5
      | cons x r => exact Nat.succ_pos _
    refine ⟨_, rfl, _, rfl, _, rfl, pn, _, rfl, .inl (SqL.of hn1), p, c, ((ns.map V.str).length : Int), b1, rfl, by rw [List.length_map]; omega, by rw [List.length_map]; omega, P1, fun j H2 j0 j1 b2 P2 => ?_⟩
    rw [List.length_map] at j1
    obtain ⟨x, mx, ax⟩ := pick j0 j1
    refine ⟨pn, _, j, _, rfl, rfl, SqL.of (b2 _ _ npn hn1), ax, ?_⟩
    have w2 := w1.trans b2.two
    have S2 := S1.but b2 nd
    clear P1 S1 w1 hn1
    refine ⟨fun σ' H' => σ' = [some (.ref p), some (.ref pn), some (.ref pp), some (.int deep), some (.ref d), some (.int k), y6, y7, y8, some (.str x)] ∧ H' = H2, ?_, ?_⟩
    · obtain ⟨x0, y0, es⟩ := id S2
      refine ⟨_, rfl, rfl, _, rfl, ite2 (fun _ => ⟨_, rfl, d, _, 1, .int y0, rfl, rfl, SqL.of es, atI_nat (j := 1) rfl, _, _, rfl, rfl, _, rfl, ite2 (fun _ => ?_) (fun _ => ⟨rfl, rfl⟩)⟩) (fun _ => ⟨rfl, rfl⟩)⟩
      refine ⟨_, rfl, d, _, 0, .int x0, rfl, rfl, SqL.of es, atI_nat (j := 0) rfl, _, _, rfl, rfl, _, rfl, d, _, 0, 0, rfl, rfl, es, rfl, ?_⟩
      refine ⟨_, rfl, d, [.int (x0 + 1), .int y0], 1, .int y0, rfl, rfl, SqL.of upd_same, atI_nat (j := 1) rfl, _, _, rfl, rfl, _, rfl, d, [.int (x0 + 1), .int y0], 1, 1, rfl, rfl, upd_same, rfl, ?_⟩
      rw [upd_upd]
      have w3 : B2 p d H (upd H2 d (.lst [.int (x0 + 1), .int (y0 + 1)])) := w2.trans b2_upd
      have P3 : Pool (upd H2 d (.lst [.int (x0 + 1), .int (y0 + 1)])) p c b1 := P2.upd nd ndc _
      have e3 : upd H2 d (.lst [.int (x0 + 1), .int (y0 + 1)]) d = some (.lst [.int (x0 + 1), .int (y0 + 1)]) := upd_same
      refine ⟨_, rfl, p, c, 2, b1, rfl, by decide, by decide, P3, fun m1 H4 m0 m2 b4 P4 => ⟨_, _, rfl, rfl, _, rfl, _, rfl, p, c, 8, b1, rfl, by decide, by decide, P4, fun n1 H5 n0 n2 b5 P5 => ⟨_, _, rfl, rfl, ?_⟩⟩⟩
      have e5 := (b4.trans b5) _ _ nd e3
      refine ⟨_, rfl, d, _, 0, .int (x0 + 1), rfl, rfl, SqL.of e5, atI_nat (j := 0) rfl, _, _, rfl, rfl, by show 5 ≤ sizeLine; decide, fun U hU => ?_⟩
      exact out (.move _ x _ _) U _ H5 b1 hU (.move (.inl upd_same)) rfl rfl mx (w3.trans (b4.trans b5).two) P5 ⟨_, _, e5⟩
    rintro σ3 H3 ⟨rfl, rfl⟩
    refine ⟨fun σ' H' => ∃ b', σ' = [some (.ref p), some (.ref pn), some (.ref pp), some (.int deep), some (.ref d), some (.int k), y6, y7, y8, some (.str x)] ∧ B2 p d H H' ∧ Pool H' p c b' ∧ Stt H' d, ?_, ?_⟩
    · refine ⟨_, rfl, p, c, 4, b1, rfl, by decide, by decide, P2, fun m1 H4 m0 m2 b4 P4 => ⟨rfl, _, rfl, ite2 (fun _ => ?_) (fun _ => ⟨b1, rfl, w2.trans b4.two, P4, S2.but b4 nd⟩)⟩⟩
      refine ⟨_, rfl, _, rfl, by show 2 ≤ sizeLine; decide, fun U1 f1 => ⟨by show 3 ≤ sizeLine; decide, fun U hU => ?_⟩⟩
      have x1 := same_upd (o := .tup [V.str "variable", .str x]) f1
      exact out (.set x (.var x)) U _ _ b1 hU (.set (.inl upd_same) (.var (.inl ((same_upd hU) _ _ upd_same)))) rfl rfl ⟨mx, mx, by show 1 ≤ 13; decide⟩ ((w2.trans b4.two).trans (b2_of x1)) (P4.same x1) ((S2.but b4 nd).same x1)
    clear P2 S2 w2
    rintro σ4 H4 ⟨b4, rfl, w2, P2, S2⟩
    refine ⟨_, rfl, _, rfl, _, rfl, _, rfl, p, c, pn, pp, ns, ps, 4, b4, rfl, by decide, by decide, P2, npn, npp, w2 _ _ npn nnd hn, w2 _ _ npp npd hp, ln, lp, fun ve ee Hx bx ev ed ew bt Px =>  ⟨by show 3 ≤ sizeLine; decide, fun U hU => ?_⟩⟩
    exact out (.set x ee) U _ _ bx hU (.set (.inl upd_same) (ev.toK.keep (keepT_of (same_upd hU)))) rfl rfl ⟨mx, ew, by omega⟩ (w2.trans bt.two) Px (S2.but bt nd)
  clear P1 S1 w1
  rintro σ2 H2 ⟨y6, y7, y8, y9, b2, rfl, w2, P2, S2⟩
  refine ⟨fun σ' H' => σ' = [some (.ref p), some (.ref pn), some (.ref pp), some (.int deep), some (.ref d), some (.int k), y6, y7, y8, y9] ∧ H' = H2, ?_, ?_⟩
  · refine ⟨_, rfl, rfl, _, rfl, ite2 (fun _ => ?_) (fun _ => ⟨rfl, rfl⟩)⟩
    refine ⟨_, rfl, p, c, 3, b2, rfl, by decide, by decide, P2, fun m1 H4 m0 m2 b4 P4 => ?_⟩
    have w4 := w2.trans b4.two
    have S4 := S2.but b4 nd
    refine ⟨_, rfl, _, rfl, _, rfl, p, c, pn, pp, ns, ps, 4, b2, rfl, by decide, by decide, P4, npn, npp, w4 _ _ npn nnd hn, w4 _ _ npp npd hp, ln, lp, fun ve ee Hx bx ev ed ew bt Px =>  ⟨by show 3 ≤ sizeLine; decide, fun U hU => ?_⟩⟩
    exact out (.show m1 ee) U _ _ bx hU (.show (.inl upd_same) (ev.toK.keep (keepT_of (same_upd hU)))) rfl rfl ⟨ew, by omega⟩ (w4.trans bt.two) Px (S4.but bt nd)
  rintro σ3 H3 ⟨rfl, rfl⟩
  have hn2 := w2 _ _ npn nnd hn
  refine ⟨fun σ' H' => σ' = [some (.ref p), some (.ref pn), some (.ref pp), some (.int deep), some (.ref d), some (.int k), y6, y7, y8, y9] ∧ H' = H3, ?_, ?_⟩
  · obtain ⟨x0, y0, es⟩ := id S2
    refine ⟨_, rfl, rfl, _, rfl, ite2 (fun _ => ⟨_, rfl, _, .inl ⟨_, SqL.of hn2, rfl⟩, ite2 (fun c5 => ⟨_, rfl, d, _, 1, .int y0, rfl, rfl, SqL.of es, atI_nat (j := 1) rfl, _, _, rfl, rfl, _, rfl, ite2 (fun _ => ?_) (fun _ => ⟨rfl, rfl⟩)⟩) (fun _ => ⟨rfl, rfl⟩)⟩) (fun _ => ⟨rfl, rfl⟩)⟩
    have lpos : 0 < ns.length := by
      cases ns with
      | nil => cases c5
      | cons x r => exact Nat.succ_pos _
    refine ⟨_, rfl, d, _, 1, .int y0, rfl, rfl, SqL.of es, atI_nat (j := 1) rfl, _, _, rfl, rfl, _, rfl, d, _, 1, 1, rfl, rfl, es, rfl, ?_⟩
    have w3 : B2 p d H (upd H3 d (.lst [.int x0, .int (y0 + 1)])) := w2.trans b2_upd
    have P3 : Pool (upd H3 d (.lst [.int x0, .int (y0 + 1)])) p c b2 := P2.upd nd ndc _
    have e3 : upd H3 d (.lst [.int x0, .int (y0 + 1)]) d = some (.lst [.int x0, .int (y0 + 1)]) := upd_same
    have n3 : upd H3 d (.lst [.int x0, .int (y0 + 1)]) pn = some (.lst (ns.map V.str)) := by rw [upd_ne nnd]; exact hn2
    refine ⟨_, rfl, _, rfl, _, rfl, pn, _, rfl, .inl (SqL.of n3), p, c, ((ns.map V.str).length : Int), b2, rfl, by rw [List.length_map]; omega, by rw [List.length_map]; omega, P3, fun j H5 j0 j1 b5 P5 => ?_⟩
    rw [List.length_map] at j1
    obtain ⟨x, mx, ax⟩ := pick j0 j1
    refine ⟨pn, _, j, _, rfl, rfl, SqL.of (b5 _ _ npn n3), ax, ?_⟩
    refine ⟨_, rfl, p, c, 64, b2, rfl, by decide, by decide, P5, fun n1 H6 n0 n2 b6 P6 => ⟨_, _, rfl, rfl, by show 3 ≤ sizeLine; decide, fun U hU => ?_⟩⟩
    exact out (.draw x _) U _ H6 b2 hU (.draw (.inl upd_same)) rfl rfl mx (w3.trans (b5.trans b6).two) P6 ⟨_, _, (b5.trans b6) _ _ nd e3⟩
  rintro σ4 H4 ⟨rfl, rfl⟩
  have k20 : 0 ≤ k % 2 := Int.emod_nonneg _ (by decide)
  have k21 : k % 2 < 2 := Int.emod_lt_of_pos _ (by decide)
  obtain ⟨z, hz, az⟩ : ∃ z : Str, (z = "pay" ∨ z = "take") ∧ atI [V.str "pay", .str "take"] (k % 2) = some (.str z) := by
    by_cases y : k % 2 = 0
    · exact ⟨"pay", .inl rfl, by rw [y]; exact atI_nat (j := 0) rfl⟩
    · exact ⟨"take", .inr rfl, by rw [show k % 2 = 1 by omega]; exact atI_nat (j := 1) rfl⟩
  refine ⟨by show 2 ≤ sizeLine; decide, fun U0 f0 => ?_⟩
  have s0 := same_upd (o := .tup [V.str "pay", .str "take"]) f0
  have w4 := w2.trans (b2_of s0)
  have P4 := P2.same s0
  have S4 := S2.same s0
  refine ⟨_, rfl, .inl ⟨_, rfl, _, _, rfl, rfl, (by show (0 : Int) < 2; decide), U0, _, _, .str z, rfl, rfl, SqT.of upd_same, az, ?_⟩⟩
  refine ⟨_, rfl, _, rfl, _, rfl, p, c, pn, pp, ns, ps, 4, b2, rfl, by decide, by decide, P4, npn, npp, w4 _ _ npn nnd hn, w4 _ _ npp npd hp, ln, lp, fun ve ee Hx bx ev ed ew bt Px =>  ⟨by show 2 ≤ sizeLine; decide, fun U hU => ?_⟩⟩
  exact out (.pay z ee) U _ _ bx hU (.pay (.inl upd_same) (ev.toK.keep (keepT_of (same_upd hU)))) rfl rfl ⟨hz, ew, by omega⟩ (w4.trans bt.two) Px (S4.but bt nd)
/-! ### _law_block -/
theorem step_law_block (T : Txt K mg) {n : Nat} (G : FnOk P w K mg base CX0 (15 + 2 * n) T.a_law_block T.d_law_block ["pool", "names", "picks", "deep", "state"] (sp_law_block T n)) : FnOk P w K mg base CX0 (15 + 2 * n + 2) T.a_law_block T.d_law_block ["pool", "names", "picks", "deep", "state"] (sp_law_block T (n + 1)) := by
  refine T.F_law_block.ok sc_law_block (fun vs H Q E h => ?_) (fun cdv A outer s H vs Q E hr h => ?_)
  · obtain ⟨p, c, pn, pp, d, ns, ps, deep, b, rfl, _⟩ := h
    rfl
  obtain ⟨p, c, pn, pp, d, ns, ps, deep, b, rfl, d0, d1, hP, npn, npp, nd, ndc, nnd, npd, hn, hp, ln, lp, hS, q⟩ := h
  refine ⟨_, (pss_cons (ps_set (i := 5) sc_law_block.nd rfl (by first | exact Or.inl rfl | exact Or.inr rfl) (pe_lst pa_nil))
      (pss_cons (ps_for PassesOwn.never rfl (pi_range1 (by rfl) T.z_range (pa_cons (pe_call (ok_law_few T) (hr.mono (by omega)) (by rfl) T.m_law_few T.F_law_few.kp T.b_law_few .nil pass0 (pa_cons (pv 0) (pa_cons pe_int pa_nil))) pa_nil)) (pg_name (i := 6) sc_law_block.nd rfl (by first | exact Or.inl rfl | exact Or.inr rfl)) (pss_one (ps_if (pt_truth (pe_call (ok_law_spend T) (hr.mono (by omega)) (by rfl) T.m_law_spend T.F_law_spend.kp T.b_law_spend .nil pass0 (pa_cons (pv 0) pa_nil)) (fun _ => rfl)) (pss_one (ps_expr (pe_bm PySem.F.plainAttrs_list PySem.F.slot_list_append PySem.F.type_list_append mt_append (pv 5) (pa_cons (pe_call (ok_law_statement T G) (hr.mono (by omega)) (by rfl) T.m_law_statement T.F_law_statement.kp T.b_law_statement .nil pass0 (pa_cons (pv 0) (pa_cons (pv 1) (pa_cons (pv 2) (pa_cons (pv 3) (pa_cons (pv 4) pa_nil)))))) pa_nil)))) pss_nil)))
      (pss_one (ps_ret (pe_callTy call_tuple_of (by rfl) T.z_tuple (by first | exact PySem.boot_tuple | decide +kernel) (pa_cons (pv 5) pa_nil)))))), ?_⟩
  refine ⟨by show 0 ≤ sizeLine; decide, fun W fW => ?_⟩
  have nW := hP.ne fW
  have nW2 := hP.ne2 fW
  have nWd := hS.ne fW
  have sW := same_upd (o := .lst []) fW
  refine ⟨_, rfl, p, c, 5, b, rfl, by decide, by decide, hP.same sW, fun m H2 m0 m1 b2 P2 => ?_⟩
  refine ⟨m, rfl, by omega, by omega, for_range (fun i σ' H' => ∃ (y : Option V) (ws : List V) (ss : List St) (b' : Int), σ' = [some (.ref p), some (.ref pn), some (.ref pp), some (.int deep), some (.ref d), some (.ref W), y] ∧ B2 p d H H' ∧ Pool H' p c b' ∧ Stt H' d ∧ H' W = some (.lst ws) ∧ Bv K H' ws ss ∧ WfL ns ps ss ∧ (lvL ss : Int) ≤ deep ∧ szL ss ≤ i * szC deep.toNat ∧ ss.length ≤ i)
    ⟨_, [], [], b, rfl, (b2_of sW).trans b2.two, P2, (hS.same sW).but b2 nd, b2 _ _ nW upd_same, .nil, trivial, d0, Nat.zero_le _, Nat.le_refl _⟩ ?_ ?_⟩
  · rintro i σ3 H3 hi ⟨y, ws, ss, b3, rfl, w3, P3, S3, e3, B3, f3, l3, z3, n3⟩
    refine ⟨_, rfl, p, c, b3, rfl, P3, fun kk H4 b4' b4 P4 => ⟨_, rfl, ite2 (fun _ => ?_) (fun _ => ⟨_, ws, ss, b4', rfl, w3.trans b4.two, P4, S3.but b4 nd, b4 _ _ nW e3, B3.keep (P3.keepT b4), f3, l3, by rw [Nat.succ_mul]; omega, by omega⟩)⟩⟩
    have w4 := w3.trans b4.two
    have S4 := S3.but b4 nd
    have e4 := b4 _ _ nW e3
    refine ⟨_, rfl, .inl ⟨rfl, _, SqL.of e4⟩, _, rfl, _, rfl, _, rfl, _, rfl, _, rfl, p, c, pn, pp, d, ns, ps, deep, b4', rfl, d0, by omega, P4, npn, npp, nd, ndc, nnd, npd, w4 _ _ npn nnd hn, w4 _ _ npp npd hp, ln, lp, S4, fun v z H5 b5' hv hl hz hw w5 P5 S5 => ?_⟩
    have e5 := w5 _ _ nW nWd e4
    have k5 := (P3.keepT b4).trans (w5.keepT P4 S4)
    have kl := keepT_lst (ys := ws ++ [v]) e5
    have bl := B3.len
    refine ⟨W, _, _, rfl, rfl, e5, small1000 (by omega), ⟨_, ws ++ [v], ss ++ [z], b5', rfl, (w4.trans w5).at fW, P5.upd nW nW2 _, S5.upd nWd, upd_same, ((B3.keep k5).keep kl).app (.one (hv.keep kl)), wfL_app f3 ⟨hw, trivial⟩, ?_, ?_, ?_⟩⟩
    · rw [lvL_app]
      show ((max (lvL ss) (max z.lv 0) : Nat) : Int) ≤ deep
      omega
    · rw [szL_app, Nat.succ_mul]
      show szL ss + (z.sz + 0) ≤ _
      omega
    · rw [List.length_append]
      show ss.length + 1 ≤ i + 1
      omega
  · rintro σ3 H3 ⟨y, ws, ss, b3, rfl, w3, P3, S3, e3, B3, f3, l3, z3, n3⟩
    refine ⟨_, rfl, W, ws, rfl, .inl ⟨SqL.of e3, fun r fr => ?_⟩⟩
    have sr := same_upd (o := .tup ws) fr
    refine q _ ss _ b3 (.mk upd_same (B3.keep (keepT_of sr))) l3 ?_ f3 (w3.trans (b2_of sr)) (P3.same sr) (S3.same sr)
    have : m.toNat ≤ 5 := by omega
    exact Nat.le_trans z3 (Nat.mul_le_mul_right _ (by omega))
theorem ok_law_block (T : Txt K mg) : ∀ n, FnOk P w K mg base CX0 (15 + 2 * n) T.a_law_block T.d_law_block ["pool", "names", "picks", "deep", "state"] (sp_law_block T n)
  | 0 => ⟨fun vs H Q E h => absurd h (no_law_block T vs H Q E), fun A outer s H args us vs Q E _ _ _ _ h => absurd h (no_law_block T vs H Q E)⟩
  | n + 1 => step_law_block T (ok_law_block T n)
/-! ### _law_fold_statement -/
def sp_law_fold_block (T : Txt K mg) (n : Nat) : Sp := fun vs H Q _ => ∃ (v : V) (o : Addr) (ss : List St) (ns ps : List Str) (on : Str → Bool) (ko : List (Key × V)), vs = [v, .ref o] ∧ Bk K H v ss ∧ lvL ss < n ∧ n ≤ 8 ∧ szL ss ≤ 1000000 ∧ WfL ns ps ss ∧ Oks ns ∧ Oks ps ∧ H o = some (.dK ko) ∧ (∀ x ∈ ps, valV ko (.inr x) = some (.bl (on x))) ∧
  ∀ (u : V) (H' : Hp), Same H H' → Bk K H' u (foldB on ss) → Q u H'
theorem no_law_fold_block (T : Txt K mg) : ∀ vs H Q E, ¬ sp_law_fold_block T 0 vs H Q E := fun vs H Q E ⟨_, _, e, _, _, _, _, _, _, h, _⟩ => absurd h (Nat.not_lt_zero _)
theorem wfL_take {ns ps : List Str} {ss : List St} (hw : WfL ns ps ss) (i : Nat) : WfL ns ps (ss.take i) ∧ szL (ss.take i) ≤ szL ss := by
  have e := List.take_append_drop i ss
  have sp : ∀ {a c : List St}, WfL ns ps (a ++ c) → WfL ns ps a := by
    intro a
    induction a with
    | nil => intro c _; exact trivial
    | cons x r ih => intro c h; exact ⟨h.1, ih h.2⟩
  refine ⟨sp (c := ss.drop i) (by rw [e]; exact hw), ?_⟩
  have := szL_app (ss.take i) (ss.drop i)
  rw [e] at this
  omega

def sp_law_fold_statement (T : Txt K mg) (n : Nat) : Sp := fun vs H Q _ => ∃ (v : V) (o : Addr) (z : St) (ns ps : List Str) (on : Str → Bool) (ko : List (Key × V)), vs = [v, .ref o] ∧ Sv K H v z ∧ z.lv ≤ n ∧ n < 8 ∧ z.sz ≤ 1000000 ∧ z.Wf ns ps ∧ Oks ns ∧ Oks ps ∧ H o = some (.dK ko) ∧ (∀ x ∈ ps, valV ko (.inr x) = some (.bl (on x))) ∧
  ∀ (u : V) (H' : Hp), Same H H' → Bk K H' u (foldS on z) → Q u H'

theorem ok_law_fold_statement (T : Txt K mg) {n : Nat} (G : FnOk P w K mg base CX0 (15 + 2 * n) T.a_law_fold_block T.d_law_fold_block ["block", "on"] (sp_law_fold_block T n)) : FnOk P w K mg base CX0 (15 + 2 * n + 1) T.a_law_fold_statement T.d_law_fold_statement ["due", "on"] (sp_law_fold_statement T n) := by
  refine T.F_law_fold_statement.ok sc_law_fold_statement (fun vs H Q E h => ?_) (fun cdv A outer s H vs Q E hr h => ?_)
  · obtain ⟨v, o, z, ns, ps, on, ko, rfl, _⟩ := h
    rfl
  obtain ⟨v, o, z, ns, ps, on, ko, rfl, hv, hl, h8, hz, hw, oks, okp, ho, hov, q⟩ := h
  refine ⟨_, (C8.pss_cut (ps_if (PW.pt (pw_or (pt_cmpR op_eq (pe_ix ix_tup (pv 0) pe_int (fun _ _ => rfl)) pe_str (nomark _)) (pw_or1 (pt_cmpR op_eq (pe_ix ix_tup (pv 0) pe_int (fun _ _ => rfl)) pe_str (nomark _))))) (pss_one (ps_ret (pe_tup (pa_cons (pv 0) pa_nil)))) pss_nil)
      (C8.pss_cut (ps_if (pt_cmpR op_eq (pe_ix ix_tup (pv 0) pe_int (fun _ _ => rfl)) pe_str (nomark _)) (pss_one (ps_ret (pe_call G (hr.mono (by omega)) (by rfl) T.m_law_fold_block T.F_law_fold_block.kp T.b_law_fold_block .nil pass0 (pa_cons (pe_ix ix_tup (pv 0) (pe_op op_sub pe_int (pe_callTy call_int1 (by rfl) T.z_int (by first | exact PySem.boot_int | decide +kernel) (pa_cons (pe_dget (d_room hr) (pv 1) (pe_ix ix_tup (pv 0) pe_int (fun _ _ => rfl)) (fun _ _ => rfl)) pa_nil))) (fun _ _ => rfl)) (pa_cons (pv 1) pa_nil))))) pss_nil)
      (C8.pss_cut (ps_if (pt_cmpR op_eq (pe_ix ix_tup (pv 0) pe_int (fun _ _ => rfl)) pe_str (nomark _)) (pss_cons (ps_set (i := 2) sc_law_fold_statement.nd rfl (by first | exact Or.inl rfl | exact Or.inr rfl) (pe_call (ok_law_fold T 13) (hr.mono (by omega)) (by rfl) T.m_law_fold T.F_law_fold.kp T.b_law_fold .nil pass0 (pa_cons (pe_ix ix_tup (pv 0) pe_int (fun _ _ => rfl)) (pa_cons (pv 1) pa_nil))))
      (pss_cons (ps_set (i := 3) sc_law_fold_statement.nd rfl (by first | exact Or.inl rfl | exact Or.inr rfl) (pe_call G (hr.mono (by omega)) (by rfl) T.m_law_fold_block T.F_law_fold_block.kp T.b_law_fold_block .nil pass0 (pa_cons (pe_ix ix_tup (pv 0) pe_int (fun _ _ => rfl)) (pa_cons (pv 1) pa_nil))))
      (pss_cons (ps_set (i := 4) sc_law_fold_statement.nd rfl (by first | exact Or.inl rfl | exact Or.inr rfl) (pe_call G (hr.mono (by omega)) (by rfl) T.m_law_fold_block T.F_law_fold_block.kp T.b_law_fold_block .nil pass0 (pa_cons (pe_ix ix_tup (pv 0) pe_int (fun _ _ => rfl)) (pa_cons (pv 1) pa_nil))))
      (C8.pss_cut (ps_if (PW.pt (pw_or (PW.pt (pw_and (pt_cmpR op_eq (pe_ix ix_tup (pv 2) pe_int (fun _ _ => rfl)) pe_str (nomark _)) (pw_and1 (pt_cmpR op_eq (pe_ix ix_tup (pv 2) pe_int (fun _ _ => rfl)) pe_int (nomark _))))) (pw_or1 (pt_cmpR (op_eqD (eq_room hr)) (pv 3) (pv 4) (nomark _))))) (pss_one (ps_ret (pv 4))) pss_nil)
      (pss_cons (ps_if (pt_cmpR op_eq (pe_ix ix_tup (pv 2) pe_int (fun _ _ => rfl)) pe_str (nomark _)) (pss_one (ps_ret (pv 3))) pss_nil)
      (pss_one (ps_ret (pe_tup (pa_cons (pe_tup (pa_cons pe_str (pa_cons (pv 2) (pa_cons (pv 3) (pa_cons (pv 4) pa_nil))))) pa_nil))))))))) pss_nil)
      (pss_cons (ps_set (i := 5) sc_law_fold_statement.nd rfl (by first | exact Or.inl rfl | exact Or.inr rfl) (pe_call (ok_law_fold T 13) (hr.mono (by omega)) (by rfl) T.m_law_fold T.F_law_fold.kp T.b_law_fold .nil pass0 (pa_cons (pe_ix ix_tup (pv 0) (pe_op op_sub (pe_callB call_len_seq (by rfl) T.z_len (by first | exact PySem.boot_len | decide +kernel) (pa_cons (pv 0) pa_nil)) pe_int) (fun _ _ => rfl)) (pa_cons (pv 1) pa_nil))))
      (pss_cons (ps_if (pt_cmpR op_eq (pe_ix ix_tup (pv 0) pe_int (fun _ _ => rfl)) pe_str (nomark _)) (pss_one (ps_ret (pe_tup (pa_cons (pe_tup (pa_cons pe_str (pa_cons (pe_ix ix_tup (pv 0) pe_int (fun _ _ => rfl)) (pa_cons (pv 5) pa_nil)))) pa_nil)))) pss_nil)
      (pss_cons (ps_if (pt_cmpR op_eq (pe_ix ix_tup (pv 0) pe_int (fun _ _ => rfl)) pe_str (nomark _)) (pss_cons (ps_if (pt_cmpR (op_eqD (eq_room hr)) (pv 5) (pe_tup (pa_cons pe_str (pa_cons (pe_ix ix_tup (pv 0) pe_int (fun _ _ => rfl)) pa_nil))) (nomark _)) (pss_one (ps_ret (pe_tup pa_nil))) pss_nil)
      (pss_one (ps_ret (pe_tup (pa_cons (pe_tup (pa_cons pe_str (pa_cons (pe_ix ix_tup (pv 0) pe_int (fun _ _ => rfl)) (pa_cons (pv 5) pa_nil)))) pa_nil))))) pss_nil)
      (pss_cons (ps_if (pt_cmpR (op_eqD (eq_room hr)) (pv 5) (pe_tup (pa_cons pe_str (pa_cons pe_int pa_nil))) (nomark _)) (pss_one (ps_ret (pe_tup pa_nil))) pss_nil)
      (pss_one (ps_ret (pe_tup (pa_cons (pe_tup (pa_cons (pe_ix ix_tup (pv 0) pe_int (fun _ _ => rfl)) (pa_cons (pv 5) pa_nil))) pa_nil))))))))))), ?_⟩
  obtain ⟨m1, m2, m3, m4, m5, m6, m7, m8, m9, m10, m11, m12, m13, m14, m15, m16, m17, m18, m19, m20, m21, m22, m23, m24, m25, m26, m27, m28, m29, m30, m31, m32, m33, m34, m35, m36, m37, m38, m39, m40⟩ := stag_ne
  obtain ⟨a, xs, ea, qa, ia⟩ := hv.hd
  subst ea
  refine ⟨fun σ' H' => σ' = [some (.ref a), some (.ref o), none, none, none, none] ∧ H' = H ∧ z.tag ≠ "draw" ∧ z.tag ≠ "move", ?_, ?_⟩
  · have out : z.tag = "draw" ∨ z.tag = "move" → foldS on z = [z] := fun h => by
      cases z with
      | draw x n => rw [foldS]
      | move p x n k => rw [foldS]
      | set x e => exact h.elim (fun z => absurd z m30) (fun z => absurd z m29)
      | ite e t f => exact h.elim (fun z => absurd z m33) (fun z => absurd z m34)
      | whn e t f => exact h.elim (fun z => absurd z m35) (fun z => absurd z m36)
      | «show» a e => exact h.elim (fun z => absurd z m32) (fun z => absurd z m31)
      | pay s e =>
        have : s = "draw" ∨ s = "move" := h
        rcases hw.1 with rfl | rfl
        · exact this.elim (fun z => absurd z m37) (fun z => absurd z m38)
        · exact this.elim (fun z => absurd z m39) (fun z => absurd z m40)
    refine ⟨_, rfl, a, xs, 0, .str z.tag, rfl, rfl, qa, atI_nat (j := 0) ia, rfl, _, rfl, ite2 (fun c1 => ?_) (fun c1 => ⟨_, rfl, a, xs, 0, .str z.tag, rfl, rfl, qa, atI_nat (j := 0) ia, rfl, _, rfl, ite2 (fun c2 => ?_) (fun c2 => ⟨rfl, rfl, fun e => c1 (decide_eq_true (congrArg V.str e)), fun e => c2 (decide_eq_true (congrArg V.str e))⟩)⟩)⟩
    · refine ⟨_, rfl, by show 1 ≤ sizeLine; decide, fun r fr => ?_⟩
      refine q _ _ (same_upd fr) ?_
      rw [out (.inl (str_eq c1))]
      exact .mk upd_same (.one (hv.keep (keepT_of (same_upd fr))))
    · refine ⟨_, rfl, by show 1 ≤ sizeLine; decide, fun r fr => ?_⟩
      refine q _ _ (same_upd fr) ?_
      rw [out (.inr (str_eq c2))]
      exact .mk upd_same (.one (hv.keep (keepT_of (same_upd fr))))
  rintro σ1 H1 ⟨rfl, rfl, n1, n2⟩
  cases hv with
  | draw h => exact absurd rfl n1
  | move h => exact absurd rfl n2
  | @whn a b c x vs ws t f ha hb hB hc hC =>
    have hl' : max (lvL t) (lvL f) + 1 ≤ n := hl
    have hz' : 1 + szL t + szL f ≤ 1000000 := hz
    rw [foldS] at q
    refine ⟨fun _ _ => False, ?_, fun _ _ z => z.elim⟩
    refine ⟨_, rfl, a, _, 0, .str "when", rfl, rfl, ha.sq, atI_nat (j := 0) rfl, rfl, _, rfl, iteS ?_⟩
    obtain ⟨u, g, gi, gv, gd, gz, gw, gq⟩ : ∃ (u : V) (g : List St), atI [V.str "when", .str x, .ref b, .ref c] (3 - (if on x = true then 1 else 0)) = some u ∧ Bk K H1 u g ∧ lvL g < n ∧ szL g ≤ 1000000 ∧ WfL ns ps g ∧ (if on x = true then foldB on t else foldB on f) = foldB on g := by
      by_cases c' : on x = true
      · exact ⟨_, t, by rw [if_pos c']; exact atI_nat (j := 2) rfl, ⟨b, vs, rfl, hb, hB⟩, by omega, by omega, hw.2.1, if_pos c'⟩
      · exact ⟨_, f, by rw [if_neg c']; exact atI_nat (j := 3) rfl, ⟨c, ws, rfl, hc, hC⟩, by omega, by omega, hw.2.2, if_neg c'⟩
    rw [gq] at q
    exact ⟨_, rfl, _, rfl, _, rfl, a, _, 1, .str x, rfl, rfl, ha.sq, atI_nat (j := 1) rfl, o, _, rfl, dget_of ho (hov x hw.1), .inr ⟨_, rfl, _, _, rfl, rfl, a, _, _, u, rfl, rfl, ha.sq, gi, _, rfl, u, o, g, ns, ps, on, ko, rfl, gv, gd, by omega, gz, gw, oks, okp, ho, hov, q⟩⟩
  | @ite a b c v e vs ws t f ha he hb hB hc hC =>
    have hl' : max (lvL t) (lvL f) + 1 ≤ n := hl
    have hz' : 1 + szL t + szL f ≤ 1000000 := hz
    refine ⟨fun σ' H' => σ' = [some (.ref a), some (.ref o), none, none, none, none] ∧ H' = H1, ⟨_, rfl, a, _, 0, .str "if", rfl, rfl, ha.sq, atI_nat (j := 0) rfl, rfl, _, rfl, iteN m22.symm ⟨rfl, rfl⟩⟩, ?_⟩
    rintro σ2 H2 ⟨rfl, rfl⟩
    refine ⟨fun _ _ => False, ?_, fun _ _ z => z.elim⟩
    refine ⟨_, rfl, a, _, 0, .str "if", rfl, rfl, ha.sq, atI_nat (j := 0) rfl, rfl, _, rfl, iteS ?_⟩
    refine ⟨_, rfl, a, _, 1, v, rfl, rfl, ha.sq, atI_nat (j := 1) rfl, _, rfl, v, o, e, ns, ps, on, ko, rfl, he, hw.1.2, by decide, hw.1.1, oks, okp, ho, hov, fun u1 H1 s1 g1 => ?_⟩
    have k1 := keepT_of s1
    refine ⟨_, rfl, a, _, 2, .ref b, rfl, rfl, (ha.keep k1).sq, atI_nat (j := 2) rfl, _, rfl, .ref b, o, t, ns, ps, on, ko, rfl, ⟨b, vs, rfl, hb.keep k1, hB.keep k1⟩, by omega, by omega, by omega, hw.2.1, oks, okp, s1 _ _ ho, hov, fun u2 H2 s2 g2 => ?_⟩
    have k2 := k1.trans (keepT_of s2)
    refine ⟨_, rfl, a, _, 3, .ref c, rfl, rfl, (ha.keep k2).sq, atI_nat (j := 3) rfl, _, rfl, .ref c, o, f, ns, ps, on, ko, rfl, ⟨c, ws, rfl, hc.keep k2, hC.keep k2⟩, by omega, by omega, by omega, hw.2.2, oks, okp, s2 _ _ (s1 _ _ ho), hov, fun u3 H3 s3 g3 => ?_⟩
    replace g1 := g1.keep (keepT_of (s2.trans s3))
    replace g2 := g2.keep (keepT_of s3)
    have sA := (s1.trans s2).trans s3
    have fw := fold_wf (on := on) e hw.1.1
    obtain ⟨tw, tl, tz⟩ := foldB_ok (on := on) t hw.2.1
    obtain ⟨fw2, fl, fz⟩ := foldB_ok (on := on) f hw.2.2
    have q : ∀ (u : V) (H' : Hp), Same _ H' → Bk K H' u (fif (foldE on e) (foldB on t) (foldB on f)) → Q u H' := fun u H' s g => q u H' s (by rw [foldS]; exact g)
    have bt := bk_shaped oks okp tw (by omega)
    have bf := bk_shaped oks okp fw2 (by omega)
    obtain ⟨a1, xs1, e1, q1, i1⟩ := g1.hd
    subst e1
    refine ⟨fun σ' H' => σ' = [some (.ref a), some (.ref o), some (.ref a1), some u2, some u3, none] ∧ H' = H3 ∧ foldE on e ≠ exZ ∧ foldB on t ≠ foldB on f, ?_, ?_⟩
    · have eqs : ∀ (c3 : PyData.eqv (.tuple (datL (foldB on t))) (.tuple (datL (foldB on f))) = true), Bk K H3 u3 (fif (foldE on e) (foldB on t) (foldB on f)) := fun c3 => by
        have e3 := (bk_eq oks okp tw fw2).mp c3
        unfold fif
        split
        · exact g3
        · rw [if_pos (.inr e3), e3]
          exact g3
      refine ⟨_, rfl, a1, xs1, 0, .str (foldE on e).tag, rfl, rfl, q1, atI_nat (j := 0) i1, rfl, _, rfl, ite2 (fun c1 => ?_) (fun c1 => ?_)⟩
      · obtain ⟨m, em⟩ := tag_num fw (str_eq c1)
        have g1' := g1
        rw [em] at g1'
        obtain ⟨_, ee, gq⟩ := g1'.nm
        cases ee
        refine ⟨_, rfl, a1, _, 1, .int m, rfl, rfl, gq, atI_nat (j := 1) rfl, rfl, _, rfl, ite2 (fun c2 => ?_) (fun c2 => ?_)⟩
        · have m0 : m = 0 := V.int.inj (of_decide_eq_true c2)
          refine ⟨_, rfl, q _ _ sA ?_⟩
          unfold fif
          rw [if_pos (show foldE on e = exZ by rw [em, m0])]
          exact g3
        · have mn : foldE on e ≠ exZ := fun z => c2 (decide_eq_true (congrArg V.int (Ex.num.inj (em.symm.trans z))))
          refine ⟨_, rfl, _, rfl, _, _, g2.dp, g3.dp, bt, bf, _, rfl, ite2 (fun c3 => ⟨_, rfl, q _ _ sA (eqs c3)⟩) (fun c3 => ⟨rfl, rfl, mn, fun z => c3 ((bk_eq oks okp tw fw2).mpr z)⟩)⟩
      · have mn : foldE on e ≠ exZ := fun z => c1 (by rw [z]; exact decide_eq_true rfl)
        refine ⟨_, rfl, _, rfl, _, _, g2.dp, g3.dp, bt, bf, _, rfl, ite2 (fun c3 => ⟨_, rfl, q _ _ sA (eqs c3)⟩) (fun c3 => ⟨rfl, rfl, mn, fun z => c3 ((bk_eq oks okp tw fw2).mpr z)⟩)⟩
    rintro σ4 H4 ⟨rfl, rfl, mn, nt⟩
    refine ⟨_, rfl, a1, xs1, 0, .str (foldE on e).tag, rfl, rfl, q1, atI_nat (j := 0) i1, rfl, _, rfl, ite2 (fun c1 => ?_) (fun c1 => ?_)⟩
    · refine ⟨_, rfl, q _ _ sA ?_⟩
      unfold fif
      rw [if_neg mn, if_pos (.inl (str_eq c1))]
      exact g2
    have c1' : (foldE on e).tag ≠ "number" := fun z => c1 (decide_eq_true (congrArg V.str z))
    obtain ⟨b2, vs2, e2, t2, w2⟩ := g2
    obtain ⟨b3, vs3, e3, t3, w3⟩ := g3
    subst e2 e3
    refine ⟨_, rfl, _, rfl, _, rfl, by show 4 ≤ sizeLine; decide, fun p fp => ⟨by show 1 ≤ sizeLine; decide, fun r fr => ?_⟩⟩
    have x1 := same_upd (o := .tup [V.str "if", .ref a1, .ref b2, .ref b3]) fp
    have x2 := same_upd (o := .tup [V.ref p]) fr
    have kx := keepT_of (x1.trans x2)
    refine q _ _ ((sA.trans x1).trans x2) ?_
    unfold fif
    rw [if_neg mn, if_neg (fun z => z.elim c1' nt)]
    exact .mk upd_same (.one (.ite (.inl (x2 _ _ upd_same)) (g1.keep kx) (t2.keep kx) (w2.keep kx) (t3.keep kx) (w3.keep kx)))
  | @set a x v e ha he =>
    rw [foldS] at q
    refine ⟨fun σ' H' => σ' = [some (.ref a), some (.ref o), none, none, none, none] ∧ H' = H1, ⟨_, rfl, a, _, 0, .str "set", rfl, rfl, ha.sq, atI_nat (j := 0) rfl, rfl, _, rfl, iteN m2 ⟨rfl, rfl⟩⟩, ?_⟩
    rintro σ2 H2 ⟨rfl, rfl⟩
    refine ⟨fun σ' H' => σ' = [some (.ref a), some (.ref o), none, none, none, none] ∧ H' = H2, ⟨_, rfl, a, _, 0, .str "set", rfl, rfl, ha.sq, atI_nat (j := 0) rfl, rfl, _, rfl, iteN m1 ⟨rfl, rfl⟩⟩, ?_⟩
    rintro σ3 H3 ⟨rfl, rfl⟩
    refine ⟨_, rfl, _, rfl, a, _, rfl, .inr ha.sq, _, _, rfl, rfl, a, _, _, v, rfl, rfl, ha.sq, atI_nat (j := 2) rfl, _, rfl, v, o, e, ns, ps, on, ko, rfl, he, hw.2.2, by decide, hw.2.1, oks, okp, ho, hov, fun u1 H1 s1 g1 => ?_⟩
    have fw := fold_wf (on := on) e hw.2.1
    have fd := fold_deep (on := on) e
    have xw : (Ex.var x).Wf ns ps := hw.1
    have sh := dat_shaped oks okp fw (by have := hw.2.2; omega)
    have sx := dat_shaped oks okp xw (show 1 ≤ 64 by decide)
    have ha1 := ha.keep (keepT_of s1)
    refine ⟨_, rfl, a, _, 0, .str "set", rfl, rfl, ha1.sq, atI_nat (j := 0) rfl, rfl, _, rfl, iteN m13.symm ?_⟩
    refine ⟨_, rfl, a, _, 0, .str "set", rfl, rfl, ha1.sq, atI_nat (j := 0) rfl, rfl, _, rfl, iteS ?_⟩
    refine ⟨_, rfl, _, rfl, a, _, 1, .str x, rfl, rfl, ha1.sq, atI_nat (j := 1) rfl, by show 2 ≤ sizeLine; decide, fun p fp => ?_⟩
    have x1 := same_upd (o := .tup [V.str "variable", .str x]) fp
    have hx : EvK K (upd H1 p (.tup [V.str "variable", .str x])) (.ref p) (.var x) := .var (.inl upd_same)
    refine ⟨(foldE on e).dat, (Ex.var x).dat, (g1.keep (keepT_of x1)).dp, hx.dp, sh, sx, _, rfl, ite2 (fun c1 => ?_) (fun c1 => ?_)⟩
    · rw [if_pos (eqc oks okp fw c1)] at q
      refine ⟨by show 0 ≤ sizeLine; decide, fun r fr => ?_⟩
      exact q _ _ ((s1.trans x1).trans (same_upd fr)) (.mk upd_same .nil)
    · rw [if_neg (nec oks okp fw c1)] at q
      refine ⟨_, rfl, a, _, 1, .str x, rfl, rfl, (ha1.keep (keepT_of x1)).sq, atI_nat (j := 1) rfl, _, rfl, by show 3 ≤ sizeLine; decide, fun r fr => ⟨by show 1 ≤ sizeLine; decide, fun w fw2 => ?_⟩⟩
      have x2 := same_upd (o := .tup [V.str "set", .str x, u1]) fr
      have x3 := same_upd (o := .tup [V.ref r]) fw2
      exact q _ _ (((s1.trans x1).trans x2).trans x3) (.mk upd_same (.one (.set (.inl (x3 _ _ upd_same)) (g1.keep (keepT_of ((x1.trans x2).trans x3))))))
  | @«show» a m v e ha he =>
    rw [foldS] at q
    refine ⟨fun σ' H' => σ' = [some (.ref a), some (.ref o), none, none, none, none] ∧ H' = H1, ⟨_, rfl, a, _, 0, .str "show", rfl, rfl, ha.sq, atI_nat (j := 0) rfl, rfl, _, rfl, iteN m12 ⟨rfl, rfl⟩⟩, ?_⟩
    rintro σ2 H2 ⟨rfl, rfl⟩
    refine ⟨fun σ' H' => σ' = [some (.ref a), some (.ref o), none, none, none, none] ∧ H' = H2, ⟨_, rfl, a, _, 0, .str "show", rfl, rfl, ha.sq, atI_nat (j := 0) rfl, rfl, _, rfl, iteN m11 ⟨rfl, rfl⟩⟩, ?_⟩
    rintro σ3 H3 ⟨rfl, rfl⟩
    refine ⟨_, rfl, _, rfl, a, _, rfl, .inr ha.sq, _, _, rfl, rfl, a, _, _, v, rfl, rfl, ha.sq, atI_nat (j := 2) rfl, _, rfl, v, o, e, ns, ps, on, ko, rfl, he, hw.2, by decide, hw.1, oks, okp, ho, hov, fun u1 H1 s1 g1 => ?_⟩
    have ha1 := ha.keep (keepT_of s1)
    refine ⟨_, rfl, a, _, 0, .str "show", rfl, rfl, ha1.sq, atI_nat (j := 0) rfl, rfl, _, rfl, iteS ?_⟩
    refine ⟨_, rfl, a, _, 1, .int m, rfl, rfl, ha1.sq, atI_nat (j := 1) rfl, _, rfl, by show 3 ≤ sizeLine; decide, fun r fr => ⟨by show 1 ≤ sizeLine; decide, fun w fw2 => ?_⟩⟩
    have x2 := same_upd (o := .tup [V.str "show", .int m, u1]) fr
    have x3 := same_upd (o := .tup [V.ref r]) fw2
    exact q _ _ ((s1.trans x2).trans x3) (.mk upd_same (.one (.show (.inl (x3 _ _ upd_same)) (g1.keep (keepT_of (x2.trans x3))))))
  | @pay a s v e ha he =>
    rw [foldS] at q
    have dd : s ≠ "if" ∧ s ≠ "when" ∧ s ≠ "set" ∧ s ≠ "show" := by
      rcases hw.1 with rfl | rfl
      · exact ⟨m14, m15, m16, m17⟩
      · exact ⟨m18, m19, m20, m21⟩
    obtain ⟨d1, d2, d3, d4⟩ := dd
    refine ⟨fun σ' H' => σ' = [some (.ref a), some (.ref o), none, none, none, none] ∧ H' = H1, ⟨_, rfl, a, _, 0, .str s, rfl, rfl, ha.sq, atI_nat (j := 0) rfl, rfl, _, rfl, iteN d2 ⟨rfl, rfl⟩⟩, ?_⟩
    rintro σ2 H2 ⟨rfl, rfl⟩
    refine ⟨fun σ' H' => σ' = [some (.ref a), some (.ref o), none, none, none, none] ∧ H' = H2, ⟨_, rfl, a, _, 0, .str s, rfl, rfl, ha.sq, atI_nat (j := 0) rfl, rfl, _, rfl, iteN d1 ⟨rfl, rfl⟩⟩, ?_⟩
    rintro σ3 H3 ⟨rfl, rfl⟩
    refine ⟨_, rfl, _, rfl, a, _, rfl, .inr ha.sq, _, _, rfl, rfl, a, _, _, v, rfl, rfl, ha.sq, atI_nat (j := 1) rfl, _, rfl, v, o, e, ns, ps, on, ko, rfl, he, hw.2.2, by decide, hw.2.1, oks, okp, ho, hov, fun u1 H1 s1 g1 => ?_⟩
    have fw := fold_wf (on := on) e hw.2.1
    have fd := fold_deep (on := on) e
    have sh := dat_shaped oks okp fw (by have := hw.2.2; omega)
    have ha1 := ha.keep (keepT_of s1)
    refine ⟨_, rfl, a, _, 0, .str s, rfl, rfl, ha1.sq, atI_nat (j := 0) rfl, rfl, _, rfl, iteN d4 ?_⟩
    refine ⟨_, rfl, a, _, 0, .str s, rfl, rfl, ha1.sq, atI_nat (j := 0) rfl, rfl, _, rfl, iteN d3 ?_⟩
    refine ⟨_, rfl, by show 2 ≤ sizeLine; decide, fun p fp => ?_⟩
    have x1 := same_upd (o := .tup [V.str "number", .int 0]) fp
    have hx : EvK K (upd H1 p (.tup [V.str "number", .int 0])) (.ref p) exZ := .num (.inl upd_same)
    refine ⟨(foldE on e).dat, exZ.dat, (g1.keep (keepT_of x1)).dp, hx.dp, sh, shZ.1, _, rfl, ite2 (fun c1 => ?_) (fun c1 => ?_)⟩
    · rw [if_pos (eqc oks okp fw c1)] at q
      refine ⟨by show 0 ≤ sizeLine; decide, fun r fr => ?_⟩
      exact q _ _ ((s1.trans x1).trans (same_upd fr)) (.mk upd_same .nil)
    · rw [if_neg (nec oks okp fw c1)] at q
      refine ⟨_, rfl, a, _, 0, .str s, rfl, rfl, (ha1.keep (keepT_of x1)).sq, atI_nat (j := 0) rfl, _, rfl, by show 2 ≤ sizeLine; decide, fun r fr => ⟨by show 1 ≤ sizeLine; decide, fun w fw2 => ?_⟩⟩
      have x2 := same_upd (o := .tup [V.str s, u1]) fr
      have x3 := same_upd (o := .tup [V.ref r]) fw2
      exact q _ _ (((s1.trans x1).trans x2).trans x3) (.mk upd_same (.one (.pay (.inl (x3 _ _ upd_same)) (g1.keep (keepT_of ((x1.trans x2).trans x3))))))
/-! ### _law_fold_block -/
theorem step_law_fold_block (T : Txt K mg) {n : Nat} (G : FnOk P w K mg base CX0 (15 + 2 * n) T.a_law_fold_block T.d_law_fold_block ["block", "on"] (sp_law_fold_block T n)) : FnOk P w K mg base CX0 (15 + 2 * n + 2) T.a_law_fold_block T.d_law_fold_block ["block", "on"] (sp_law_fold_block T (n + 1)) := by
  refine T.F_law_fold_block.ok sc_law_fold_block (fun vs H Q E h => ?_) (fun cdv A outer s H vs Q E hr h => ?_)
  · obtain ⟨v, o, ss, ns, ps, on, ko, rfl, _⟩ := h
    rfl
  obtain ⟨v, o, ss, ns, ps, on, ko, rfl, hv, hl, h8, hz, hw, oks, okp, ho, hov, q⟩ := h
  refine ⟨_, (pss_cons (ps_set (i := 2) sc_law_fold_block.nd rfl (by first | exact Or.inl rfl | exact Or.inr rfl) (pe_tup pa_nil))
      (pss_cons (ps_for PassesOwn.never rfl (pi_tup (pv 0)) (pg_name (i := 3) sc_law_fold_block.nd rfl (by first | exact Or.inl rfl | exact Or.inr rfl)) (pss_one (ps_set (i := 2) sc_law_fold_block.nd rfl (by first | exact Or.inl rfl | exact Or.inr rfl) (pe_op op_catA (pv 2) (pe_call (ok_law_fold_statement T G) (hr.mono (by omega)) (by rfl) T.m_law_fold_statement T.F_law_fold_statement.kp T.b_law_fold_statement .nil pass0 (pa_cons (pv 3) (pa_cons (pv 1) pa_nil)))))))
      (pss_one (ps_ret (pv 2))))), ?_⟩
  obtain ⟨b, vs, rfl, hb, hB⟩ := hv
  have hlen := hB.len
  refine ⟨by show 0 ≤ sizeLine; decide, fun F0 f0 => ?_⟩
  have s0 := same_upd (o := .tup []) f0
  refine ⟨_, rfl, b, rfl, ⟨_, (hb.keep (keepT_of s0)).sq⟩, for_tup (K := K) (a := b) (xs := vs) (fun i σ' H' => ∃ (y : Option V) (u : V), σ' = [some (.ref b), some (.ref o), some u, y] ∧ Same H H' ∧ Bk K H' u (foldB on (ss.take i)))
    ⟨_, .ref F0, rfl, s0, by rw [List.take_zero, foldB]; exact .mk upd_same .nil⟩ ?_ ?_ ?_⟩
  · rintro i σ' H' _ ⟨y, u, rfl, s1, _⟩
    exact (hb.keep (keepT_of s1)).sq
  · rintro i x σ' H' hi ⟨y, u, rfl, s1, w1⟩
    obtain ⟨z, hz1, hs1⟩ := hB.get hi
    have zw := wfL_get hw hz1
    have zl := lvL_get hz1
    have zz := szL_get hz1
    have k1 := keepT_of s1
    refine ⟨_, rfl, _, rfl, _, rfl, x, o, z, ns, ps, on, ko, rfl, hs1.keep k1, by omega, by omega, by omega, zw, oks, okp, s1 _ _ ho, hov, fun u2 H2 s2 hu => ?_⟩
    obtain ⟨c, us, rfl, hc, hC⟩ := hu
    obtain ⟨f, ws, rfl, hf, hF⟩ := w1.keep (keepT_of s2)
    have l1 := hF.len
    have l2 := hC.len
    have l3 := len_sz (foldB on (ss.take i))
    have l4 := len_sz (foldS on z)
    have l5 := (foldS_ok (on := on) z zw).2.2
    have l6 := (foldB_ok (on := on) _ (wfL_take hw i).1).2.2
    have l7 := (wfL_take hw i).2
    have eT := foldB_take (on := on) hz1
    refine ⟨f, c, ws, us, rfl, rfl, hf.sq, hc.sq, by rw [sizeLine_eq]; omega, fun e => ⟨_, _, rfl, s1.trans s2, ?_⟩, fun _ e => ⟨_, _, rfl, s1.trans s2, ?_⟩, fun _ _ r fr => ⟨_, _, rfl, (s1.trans s2).trans (same_upd fr), ?_⟩⟩
    · rw [eT]
      subst e
      cases hg : foldB on (ss.take i) with
      | nil => exact ⟨c, us, rfl, hc, hC⟩
      | cons x r => rw [hg] at l1; cases l1
    · rw [eT]
      subst e
      cases hg : foldS on z with
      | nil =>
        rw [List.append_nil]
        exact ⟨f, ws, rfl, hf, hF⟩
      | cons x r => rw [hg] at l2; cases l2
    · rw [eT]
      have kr := keepT_of (same_upd (o := .tup (ws ++ us)) fr)
      exact .mk upd_same ((hF.keep kr).app (hC.keep kr))
  · rintro σ' H' ⟨y, u, rfl, s1, w1⟩
    rw [List.take_of_length_le (by omega)] at w1
    exact ⟨_, rfl, q _ _ s1 w1⟩
theorem ok_law_fold_block (T : Txt K mg) : ∀ n, FnOk P w K mg base CX0 (15 + 2 * n) T.a_law_fold_block T.d_law_fold_block ["block", "on"] (sp_law_fold_block T n)
  | 0 => ⟨fun vs H Q E h => absurd h (no_law_fold_block T vs H Q E), fun A outer s H args us vs Q E _ _ _ _ h => absurd h (no_law_fold_block T vs H Q E)⟩
  | n + 1 => step_law_fold_block T (ok_law_fold_block T n)
/-! ### law -/
def sp_law (T : Txt K mg) : Sp := spLaw K

theorem ok_law (T : Txt K mg) : FnOk P w K mg base CX0 41 T.a_law T.d_law ["script"] (sp_law T) := by
  refine T.F_law.ok sc_law (fun vs H Q E h => ?_) (fun cdv A outer s H vs Q E hr h => ?_)
  · obtain ⟨a, ns, rfl, _⟩ := h
    rfl
  obtain ⟨a, ns0, rfl, hS, h63, q⟩ := h
  refine ⟨_, (pss_cons (ps_set (i := 1) sc_law.nd rfl (by first | exact Or.inl rfl | exact Or.inr rfl) (pe_call (ok_law_pool T) (hr.mono (by decide)) (by rfl) T.m_law_pool T.F_law_pool.kp T.b_law_pool .nil pass0 (pa_cons (pv 0) (pa_cons pe_int pa_nil))))
      (pss_cons (ps_set (i := 2) sc_law.nd rfl (by first | exact Or.inl rfl | exact Or.inr rfl) (pe_call (ok_law_names T) (hr.mono (by decide)) (by rfl) T.m_law_names T.F_law_names.kp T.b_law_names .nil pass0 (pa_cons (pv 1) (pa_cons pe_int pa_nil))))
      (pss_cons (ps_set (i := 3) sc_law.nd rfl (by first | exact Or.inl rfl | exact Or.inr rfl) (pe_call (ok_law_names T) (hr.mono (by decide)) (by rfl) T.m_law_names T.F_law_names.kp T.b_law_names .nil pass0 (pa_cons (pv 1) (pa_cons pe_int pa_nil))))
      (pss_cons (ps_set (i := 4) sc_law.nd rfl (by first | exact Or.inl rfl | exact Or.inr rfl) pe_dnewK)
      (pss_cons (ps_for PassesOwn.never rfl (pi_list (pv 3)) (pg_name (i := 5) sc_law.nd rfl (by first | exact Or.inl rfl | exact Or.inr rfl)) (pss_one (ps_asg (pe_cmpR op_eq (pe_call (ok_law_draw T) (hr.mono (by decide)) (by rfl) T.m_law_draw T.F_law_draw.kp T.b_law_draw .nil pass0 (pa_cons (pv 1) (pa_cons pe_int pa_nil))) pe_int (nomark _)) (pg_sub (pv 4) (pv 5) (set_dict (d_room hr))))))
      (pss_cons (ps_set (i := 6) sc_law.nd rfl (by first | exact Or.inl rfl | exact Or.inr rfl) (pe_call (ok_law_block T 7) (hr.mono (by decide)) (by rfl) T.m_law_block T.F_law_block.kp T.b_law_block .nil pass0 (pa_cons (pv 1) (pa_cons (pv 2) (pa_cons (pv 3) (pa_cons pe_int (pa_cons (pe_lst (pa_cons pe_int (pa_cons pe_int pa_nil))) pa_nil)))))))
      (pss_cons (ps_set (i := 7) sc_law.nd rfl (by first | exact Or.inl rfl | exact Or.inr rfl) (pe_call (ok_law_fold_block T 8) (hr.mono (by decide)) (by rfl) T.m_law_fold_block T.F_law_fold_block.kp T.b_law_fold_block .nil pass0 (pa_cons (pv 6) (pa_cons (pv 4) pa_nil))))
      (pss_cons (ps_set (i := 8) sc_law.nd rfl (by first | exact Or.inl rfl | exact Or.inr rfl) (pe_call (ok_fold_block T 8) (hr.mono (by decide)) (by rfl) T.m_fold_block T.F_fold_block.kp T.b_fold_block .nil pass0 (pa_cons (pv 6) (pa_cons (pv 4) pa_nil))))
      (pss_one (ps_ret (pe_and (pe_call (ok_law_same T 40) (hr.mono (by decide)) (by rfl) T.m_law_same T.F_law_same.kp T.b_law_same .nil pass0 (pa_cons (pv 8) (pa_cons (pv 7) pa_nil))) (pe_one (pe_call (ok_law_same T 40) (hr.mono (by decide)) (by rfl) T.m_law_same T.F_law_same.kp T.b_law_same .nil pass0 (pa_cons (pe_call (ok_fold_block T 8) (hr.mono (by decide)) (by rfl) T.m_fold_block T.F_fold_block.kp T.b_fold_block .nil pass0 (pa_cons (pv 8) (pa_cons (pv 4) pa_nil))) (pa_cons (pv 7) pa_nil))))))))))))))), ?_⟩
  refine ⟨_, rfl, a, ns0, 50, rfl, hS, fun p c H1 s1 np nc P1 => ?_⟩
  refine ⟨_, rfl, p, c, 4, 50, rfl, by decide, by decide, P1, fun pn ns H2 b2 P2 fn en nl nn ndd => ?_⟩
  have npn := P1.ne fn
  refine ⟨_, rfl, p, c, 3, 50, rfl, by decide, by decide, P2, fun pp ps H3 b3 P3 fp ep pl pnm pd => ?_⟩
  have npp := P2.ne fp
  have en3 := b3 _ _ npn en
  have oks : Oks ns := fun x m => (nn x m).1.ok
  have okp : Oks ps := fun x m => (pnm x m).1.ok
  clear s1 b2 b3 P1 P2 fn fp hS
  refine fun o fo => ?_
  have so := same_upd (o := .dK []) fo
  have no := P3.ne fo
  have no2 := P3.ne2 fo
  refine ⟨_, rfl, pp, rfl, ⟨_, SqL.of (so _ _ ep)⟩, for_list (K := K) (a := pp) (xs := ps.map V.str) (fun i σ' H' => ∃ (y : Option V) (ko : List (Key × V)), σ' = [some (.ref a), some (.ref p), some (.ref pn), some (.ref pp), some (.ref o), y, none, none, none] ∧ H' pn = some (.lst (ns.map V.str)) ∧ H' pp = some (.lst (ps.map V.str)) ∧ Pool H' p c 50 ∧ H' o = some (.dK ko) ∧ TI GB ko (ps.take i))
    ⟨_, [], rfl, so _ _ en3, so _ _ ep, P3.same so, upd_same, by rw [List.take_zero]; exact TI.nil _⟩ ?_ ?_ ?_⟩
  · rintro i σ' H' _ ⟨y, ko, rfl, _, e1, _⟩
    exact SqL.of e1
  · rintro i x σ' H' hi ⟨y, ko, rfl, e1, e2, P5, e4, oi⟩
    obtain ⟨z, hz, rfl⟩ := str_of_map hi
    refine ⟨_, rfl, p, c, 2, 50, rfl, by decide, by decide, P5, fun n H5 n0 n1 b5 P6 => ?_⟩
    have f4 := b5 _ _ no e4
    have f1 := b5 _ _ npn e1
    have f2 := b5 _ _ npp e2
    have tl := oi.len
    rw [List.length_take] at tl
    refine ⟨rfl, _, rfl, _, rfl, o, _, rfl, DPut.k (k := .inr z) f4 (small1000 (by omega)), ⟨_, _, rfl, ?_, ?_, P6.upd no no2 _, upd_same, ?_⟩⟩
    · rw [upd_ne (ne_of_none en3 fo)]
      exact f1
    · rw [upd_ne (ne_of_none ep fo)]
      exact f2
    · rw [take_snoc hz]
      exact oi.put ⟨_, rfl⟩
  rintro σ5 H5 ⟨y5, ko, rfl, en5, ep5, P5, eo5, oi⟩
  rw [List.length_map, List.take_of_length_le (Nat.le_refl _)] at oi
  clear so no2 fo en3 ep P3
  refine ⟨_, rfl, _, rfl, _, rfl, by show 2 ≤ sizeLine; decide, fun d fd => ?_⟩
  have sd := same_upd (o := .lst [V.int 0, .int 0]) fd
  refine ⟨p, c, pn, pp, d, ns, ps, 5, 50, rfl, by decide, by decide, P5.same sd, npn, npp, P5.ne fd, P5.ne2 fd, ne_of_none en5 fd, ne_of_none ep5 fd, sd _ _ en5, sd _ _ ep5, by omega, by omega, ⟨0, 0, upd_same⟩, fun v ss H6 b6 hv hl hz hw w6 P6 S6 => ?_⟩
  have eo6 := w6 _ _ no (ne_of_none eo5 fd) (sd _ _ eo5)
  have z5 : 5 * szC (5 : Int).toNat ≤ 1000000 := by decide
  have hz := Nat.le_trans hz z5
  clear P5 en5 ep5 eo5 sd fd w6
  refine ⟨_, rfl, _, rfl, v, o, ss, ns, ps, onOf ko, ko, rfl, hv, by omega, by decide, hz, hw, oks, okp, eo6, on_of oi, fun u1 H7 s7 g1 => ?_⟩
  refine ⟨_, rfl, _, rfl, v, o, ss, ns, ps, onOf ko, ko, rfl, hv.keep (keepT_of s7), by omega, by decide, hz, hw, oks, okp, s7 _ _ eo6, on_of oi, fun u2 H8 s8 g2 => ?_⟩
  obtain ⟨fw, fl, fz⟩ := foldB_ok (on := onOf ko) ss hw
  have dd := ldat_depth (foldB (onOf ko) ss) fw
  have wd : wide (.tuple (datL (foldB (onOf ko) ss))) = true := by
    have l := len_sz (foldB (onOf ko) ss)
    simp only [wide, ldat_wide _ (show szL (foldB (onOf ko) ss) ≤ 1000000 by omega), Bool.and_true]
    exact decide_eq_true (by rw [datL_len]; omega)
  have pd : (PyData.tuple (datL (foldB (onOf ko) ss))).depth < 40 := by
    simp only [PyData.depth]
    omega
  refine ⟨_, rfl, _, rfl, u2, u1, _, rfl, g2.da, (g1.keep (keepT_of s8)).da, pd, wd, _, rfl, iteT ?_⟩
  refine ⟨_, rfl, _, rfl, u2, o, foldB (onOf ko) ss, ns, ps, onOf ko, ko, rfl, g2, by omega, by decide, by omega, fw, oks, okp, s8 _ _ (s7 _ _ eo6), on_of oi, fun u3 H9 s9 g3 => ?_⟩
  rw [(foldB_nb ss).fold] at g3
  exact ⟨_, rfl, u3, u1, _, rfl, g3.da, (g1.keep (keepT_of (s8.trans s9))).da, pd, wd, q _⟩
end
/-! ### what the top has written -/
theorem all_mk {l : PySem.W.OpenLaw} {w : World} {K : PySem.W.Frag} {h : Heap} {mg : Str → Option Value} {fa : Addr} (X : K.In h) (G : h.Ns mainGlobals mg) (hfa : mg "law" = some (.ref fa))
    {tk_MODULUS : Tok}
    {A_ONE : Addr} {tr_ONE : Nat} {tu_ONE : Array (Option Value)} {tk_ONE_0 tk_ONE_1 : Tok}
    {A_ZERO : Addr} {tr_ZERO : Nat} {tu_ZERO : Array (Option Value)} {tk_ZERO_0 tk_ZERO_1 : Tok}
    {f1 : Addr} {od1 an1 : Option Addr} {sl1 : Array (Option Value)} {oc1 kV1 dc1 pm1 cd1 ct1 : Value}
    {f2 : Addr} {od2 an2 : Option Addr} {sl2 : Array (Option Value)} {oc2 kV2 dc2 pm2 cd2 ct2 : Value}
    {f3 : Addr} {od3 an3 : Option Addr} {sl3 : Array (Option Value)} {oc3 kV3 dc3 pm3 cd3 ct3 : Value}
    {f4 : Addr} {od4 an4 : Option Addr} {sl4 : Array (Option Value)} {oc4 kV4 dc4 pm4 cd4 ct4 : Value}
    {f5 : Addr} {od5 an5 : Option Addr} {sl5 : Array (Option Value)} {oc5 kV5 dc5 pm5 cd5 ct5 : Value}
    {f6 : Addr} {od6 an6 : Option Addr} {sl6 : Array (Option Value)} {oc6 kV6 dc6 pm6 cd6 ct6 : Value}
    {f7 : Addr} {od7 an7 : Option Addr} {sl7 : Array (Option Value)} {oc7 kV7 dc7 pm7 cd7 ct7 : Value}
    {f8 : Addr} {od8 an8 : Option Addr} {sl8 : Array (Option Value)} {oc8 kV8 dc8 pm8 cd8 ct8 : Value}
    {f9 : Addr} {od9 an9 : Option Addr} {sl9 : Array (Option Value)} {oc9 kV9 dc9 pm9 cd9 ct9 : Value}
    {f10 : Addr} {od10 an10 : Option Addr} {sl10 : Array (Option Value)} {oc10 kV10 dc10 pm10 cd10 ct10 : Value}
    {f11 : Addr} {od11 an11 : Option Addr} {sl11 : Array (Option Value)} {oc11 kV11 dc11 pm11 cd11 ct11 : Value}
    {f12 : Addr} {od12 an12 : Option Addr} {sl12 : Array (Option Value)} {oc12 kV12 dc12 pm12 cd12 ct12 : Value}
    {f13 : Addr} {od13 an13 : Option Addr} {sl13 : Array (Option Value)} {oc13 kV13 dc13 pm13 cd13 ct13 : Value}
    {f14 : Addr} {od14 an14 : Option Addr} {sl14 : Array (Option Value)} {oc14 kV14 dc14 pm14 cd14 ct14 : Value}
    {f15 : Addr} {od15 an15 : Option Addr} {sl15 : Array (Option Value)} {oc15 kV15 dc15 pm15 cd15 ct15 : Value}
    {f16 : Addr} {od16 an16 : Option Addr} {sl16 : Array (Option Value)} {oc16 kV16 dc16 pm16 cd16 ct16 : Value}
    {f17 : Addr} {od17 an17 : Option Addr} {sl17 : Array (Option Value)} {oc17 kV17 dc17 pm17 cd17 ct17 : Value}
    {f18 : Addr} {od18 an18 : Option Addr} {sl18 : Array (Option Value)} {oc18 kV18 dc18 pm18 cd18 ct18 : Value}
    {f19 : Addr} {od19 an19 : Option Addr} {sl19 : Array (Option Value)} {oc19 kV19 dc19 pm19 cd19 ct19 : Value}
    {f20 : Addr} {od20 an20 : Option Addr} {sl20 : Array (Option Value)} {oc20 kV20 dc20 pm20 cd20 ct20 : Value}
    {f21 : Addr} {od21 an21 : Option Addr} {sl21 : Array (Option Value)} {oc21 kV21 dc21 pm21 cd21 ct21 : Value}
    {f22 : Addr} {od22 an22 : Option Addr} {sl22 : Array (Option Value)} {oc22 kV22 dc22 pm22 cd22 ct22 : Value}
    {f23 : Addr} {od23 an23 : Option Addr} {sl23 : Array (Option Value)} {oc23 kV23 dc23 pm23 cd23 ct23 : Value}
    {f24 : Addr} {od24 an24 : Option Addr} {sl24 : Array (Option Value)} {oc24 kV24 dc24 pm24 cd24 ct24 : Value}
    {f25 : Addr} {od25 an25 : Option Addr} {sl25 : Array (Option Value)} {oc25 kV25 dc25 pm25 cd25 ct25 : Value}
    (ac_MODULUS : PySem.W.nsIn K mainGlobals "MODULUS" = some (some (.int 65536 tk_MODULUS)))
    (ac_ONE : PySem.W.nsIn K mainGlobals "ONE" = some (some (.ref A_ONE)))
    (lk_ONE : K.lookup A_ONE = some ⟨.type "tuple", none, .seq #[.str "number" tk_ONE_0, .int 1 tk_ONE_1] tr_ONE, tu_ONE⟩)
    (ac_ZERO : PySem.W.nsIn K mainGlobals "ZERO" = some (some (.ref A_ZERO)))
    (lk_ZERO : K.lookup A_ZERO = some ⟨.type "tuple", none, .seq #[.str "number" tk_ZERO_0, .int 0 tk_ZERO_1] tr_ZERO, tu_ZERO⟩)
    (a1 : PySem.W.nsIn K mainGlobals "combine" = some (some (.ref f1)))
    (l1 : K.lookup f1 = some ⟨oc1, od1, .func (PySem.W.fnOf "combine" "combine" (defArgs s_combine) (defBody s_combine) (defScope s_combine) .none kV1 dc1 pm1 an1 cd1 ct1), sl1⟩)
    (c1 : PySem.W.codeIn K cd1 "combine" = true)
    (k1 : PySem.W.keepIn K (.ref f1) = true)
    (a2 : PySem.W.nsIn K mainGlobals "_is_zero" = some (some (.ref f2)))
    (l2 : K.lookup f2 = some ⟨oc2, od2, .func (PySem.W.fnOf "_is_zero" "_is_zero" (defArgs s_is_zero) (defBody s_is_zero) (defScope s_is_zero) .none kV2 dc2 pm2 an2 cd2 ct2), sl2⟩)
    (c2 : PySem.W.codeIn K cd2 "_is_zero" = true)
    (k2 : PySem.W.keepIn K (.ref f2) = true)
    (a3 : PySem.W.nsIn K mainGlobals "_fold_operator" = some (some (.ref f3)))
    (l3 : K.lookup f3 = some ⟨oc3, od3, .func (PySem.W.fnOf "_fold_operator" "_fold_operator" (defArgs s_fold_operator) (defBody s_fold_operator) (defScope s_fold_operator) .none kV3 dc3 pm3 an3 cd3 ct3), sl3⟩)
    (c3 : PySem.W.codeIn K cd3 "_fold_operator" = true)
    (k3 : PySem.W.keepIn K (.ref f3) = true)
    (a4 : PySem.W.nsIn K mainGlobals "fold_expression" = some (some (.ref f4)))
    (l4 : K.lookup f4 = some ⟨oc4, od4, .func (PySem.W.fnOf "fold_expression" "fold_expression" (defArgs s_fold_expression) (defBody s_fold_expression) (defScope s_fold_expression) .none kV4 dc4 pm4 an4 cd4 ct4), sl4⟩)
    (c4 : PySem.W.codeIn K cd4 "fold_expression" = true)
    (k4 : PySem.W.keepIn K (.ref f4) = true)
    (a5 : PySem.W.nsIn K mainGlobals "_fold_if" = some (some (.ref f5)))
    (l5 : K.lookup f5 = some ⟨oc5, od5, .func (PySem.W.fnOf "_fold_if" "_fold_if" (defArgs s_fold_if) (defBody s_fold_if) (defScope s_fold_if) .none kV5 dc5 pm5 an5 cd5 ct5), sl5⟩)
    (c5 : PySem.W.codeIn K cd5 "_fold_if" = true)
    (k5 : PySem.W.keepIn K (.ref f5) = true)
    (a6 : PySem.W.nsIn K mainGlobals "_fold_statement" = some (some (.ref f6)))
    (l6 : K.lookup f6 = some ⟨oc6, od6, .func (PySem.W.fnOf "_fold_statement" "_fold_statement" (defArgs s_fold_statement) (defBody s_fold_statement) (defScope s_fold_statement) .none kV6 dc6 pm6 an6 cd6 ct6), sl6⟩)
    (c6 : PySem.W.codeIn K cd6 "_fold_statement" = true)
    (k6 : PySem.W.keepIn K (.ref f6) = true)
    (a7 : PySem.W.nsIn K mainGlobals "fold_block" = some (some (.ref f7)))
    (l7 : K.lookup f7 = some ⟨oc7, od7, .func (PySem.W.fnOf "fold_block" "fold_block" (defArgs s_fold_block) (defBody s_fold_block) (defScope s_fold_block) .none kV7 dc7 pm7 an7 cd7 ct7), sl7⟩)
    (c7 : PySem.W.codeIn K cd7 "fold_block" = true)
    (k7 : PySem.W.keepIn K (.ref f7) = true)
    (a8 : PySem.W.nsIn K mainGlobals "_law_pool" = some (some (.ref f8)))
    (l8 : K.lookup f8 = some ⟨oc8, od8, .func (PySem.W.fnOf "_law_pool" "_law_pool" (defArgs s_law_pool) (defBody s_law_pool) (defScope s_law_pool) .none kV8 dc8 pm8 an8 cd8 ct8), sl8⟩)
    (c8 : PySem.W.codeIn K cd8 "_law_pool" = true)
    (k8 : PySem.W.keepIn K (.ref f8) = true)
    (a9 : PySem.W.nsIn K mainGlobals "_law_draw" = some (some (.ref f9)))
    (l9 : K.lookup f9 = some ⟨oc9, od9, .func (PySem.W.fnOf "_law_draw" "_law_draw" (defArgs s_law_draw) (defBody s_law_draw) (defScope s_law_draw) .none kV9 dc9 pm9 an9 cd9 ct9), sl9⟩)
    (c9 : PySem.W.codeIn K cd9 "_law_draw" = true)
    (k9 : PySem.W.keepIn K (.ref f9) = true)
    (a10 : PySem.W.nsIn K mainGlobals "_law_spend" = some (some (.ref f10)))
    (l10 : K.lookup f10 = some ⟨oc10, od10, .func (PySem.W.fnOf "_law_spend" "_law_spend" (defArgs s_law_spend) (defBody s_law_spend) (defScope s_law_spend) .none kV10 dc10 pm10 an10 cd10 ct10), sl10⟩)
    (c10 : PySem.W.codeIn K cd10 "_law_spend" = true)
    (k10 : PySem.W.keepIn K (.ref f10) = true)
    (a11 : PySem.W.nsIn K mainGlobals "_law_few" = some (some (.ref f11)))
    (l11 : K.lookup f11 = some ⟨oc11, od11, .func (PySem.W.fnOf "_law_few" "_law_few" (defArgs s_law_few) (defBody s_law_few) (defScope s_law_few) .none kV11 dc11 pm11 an11 cd11 ct11), sl11⟩)
    (c11 : PySem.W.codeIn K cd11 "_law_few" = true)
    (k11 : PySem.W.keepIn K (.ref f11) = true)
    (a12 : PySem.W.nsIn K mainGlobals "_law_number" = some (some (.ref f12)))
    (l12 : K.lookup f12 = some ⟨oc12, od12, .func (PySem.W.fnOf "_law_number" "_law_number" (defArgs s_law_number) (defBody s_law_number) (defScope s_law_number) .none kV12 dc12 pm12 an12 cd12 ct12), sl12⟩)
    (c12 : PySem.W.codeIn K cd12 "_law_number" = true)
    (k12 : PySem.W.keepIn K (.ref f12) = true)
    (a13 : PySem.W.nsIn K mainGlobals "_law_same" = some (some (.ref f13)))
    (l13 : K.lookup f13 = some ⟨oc13, od13, .func (PySem.W.fnOf "_law_same" "_law_same" (defArgs s_law_same) (defBody s_law_same) (defScope s_law_same) .none kV13 dc13 pm13 an13 cd13 ct13), sl13⟩)
    (c13 : PySem.W.codeIn K cd13 "_law_same" = true)
    (k13 : PySem.W.keepIn K (.ref f13) = true)
    (a14 : PySem.W.nsIn K mainGlobals "_law_keys" = some (some (.ref f14)))
    (l14 : K.lookup f14 = some ⟨oc14, od14, .func (PySem.W.fnOf "_law_keys" "_law_keys" (defArgs s_law_keys) (defBody s_law_keys) (defScope s_law_keys) .none kV14 dc14 pm14 an14 cd14 ct14), sl14⟩)
    (c14 : PySem.W.codeIn K cd14 "_law_keys" = true)
    (k14 : PySem.W.keepIn K (.ref f14) = true)
    (a15 : PySem.W.nsIn K mainGlobals "_law_name" = some (some (.ref f15)))
    (l15 : K.lookup f15 = some ⟨oc15, od15, .func (PySem.W.fnOf "_law_name" "_law_name" (defArgs s_law_name) (defBody s_law_name) (defScope s_law_name) .none kV15 dc15 pm15 an15 cd15 ct15), sl15⟩)
    (c15 : PySem.W.codeIn K cd15 "_law_name" = true)
    (k15 : PySem.W.keepIn K (.ref f15) = true)
    (a16 : PySem.W.nsIn K mainGlobals "_law_names" = some (some (.ref f16)))
    (l16 : K.lookup f16 = some ⟨oc16, od16, .func (PySem.W.fnOf "_law_names" "_law_names" (defArgs s_law_names) (defBody s_law_names) (defScope s_law_names) .none kV16 dc16 pm16 an16 cd16 ct16), sl16⟩)
    (c16 : PySem.W.codeIn K cd16 "_law_names" = true)
    (k16 : PySem.W.keepIn K (.ref f16) = true)
    (a17 : PySem.W.nsIn K mainGlobals "_law_expression" = some (some (.ref f17)))
    (l17 : K.lookup f17 = some ⟨oc17, od17, .func (PySem.W.fnOf "_law_expression" "_law_expression" (defArgs s_law_expression) (defBody s_law_expression) (defScope s_law_expression) .none kV17 dc17 pm17 an17 cd17 ct17), sl17⟩)
    (c17 : PySem.W.codeIn K cd17 "_law_expression" = true)
    (k17 : PySem.W.keepIn K (.ref f17) = true)
    (a18 : PySem.W.nsIn K mainGlobals "_law_combine" = some (some (.ref f18)))
    (l18 : K.lookup f18 = some ⟨oc18, od18, .func (PySem.W.fnOf "_law_combine" "_law_combine" (defArgs s_law_combine) (defBody s_law_combine) (defScope s_law_combine) .none kV18 dc18 pm18 an18 cd18 ct18), sl18⟩)
    (c18 : PySem.W.codeIn K cd18 "_law_combine" = true)
    (k18 : PySem.W.keepIn K (.ref f18) = true)
    (a19 : PySem.W.nsIn K mainGlobals "_law_fold_pair" = some (some (.ref f19)))
    (l19 : K.lookup f19 = some ⟨oc19, od19, .func (PySem.W.fnOf "_law_fold_pair" "_law_fold_pair" (defArgs s_law_fold_pair) (defBody s_law_fold_pair) (defScope s_law_fold_pair) .none kV19 dc19 pm19 an19 cd19 ct19), sl19⟩)
    (c19 : PySem.W.codeIn K cd19 "_law_fold_pair" = true)
    (k19 : PySem.W.keepIn K (.ref f19) = true)
    (a20 : PySem.W.nsIn K mainGlobals "_law_fold" = some (some (.ref f20)))
    (l20 : K.lookup f20 = some ⟨oc20, od20, .func (PySem.W.fnOf "_law_fold" "_law_fold" (defArgs s_law_fold) (defBody s_law_fold) (defScope s_law_fold) .none kV20 dc20 pm20 an20 cd20 ct20), sl20⟩)
    (c20 : PySem.W.codeIn K cd20 "_law_fold" = true)
    (k20 : PySem.W.keepIn K (.ref f20) = true)
    (a21 : PySem.W.nsIn K mainGlobals "_law_statement" = some (some (.ref f21)))
    (l21 : K.lookup f21 = some ⟨oc21, od21, .func (PySem.W.fnOf "_law_statement" "_law_statement" (defArgs s_law_statement) (defBody s_law_statement) (defScope s_law_statement) .none kV21 dc21 pm21 an21 cd21 ct21), sl21⟩)
    (c21 : PySem.W.codeIn K cd21 "_law_statement" = true)
    (k21 : PySem.W.keepIn K (.ref f21) = true)
    (a22 : PySem.W.nsIn K mainGlobals "_law_block" = some (some (.ref f22)))
    (l22 : K.lookup f22 = some ⟨oc22, od22, .func (PySem.W.fnOf "_law_block" "_law_block" (defArgs s_law_block) (defBody s_law_block) (defScope s_law_block) .none kV22 dc22 pm22 an22 cd22 ct22), sl22⟩)
    (c22 : PySem.W.codeIn K cd22 "_law_block" = true)
    (k22 : PySem.W.keepIn K (.ref f22) = true)
    (a23 : PySem.W.nsIn K mainGlobals "_law_fold_block" = some (some (.ref f23)))
    (l23 : K.lookup f23 = some ⟨oc23, od23, .func (PySem.W.fnOf "_law_fold_block" "_law_fold_block" (defArgs s_law_fold_block) (defBody s_law_fold_block) (defScope s_law_fold_block) .none kV23 dc23 pm23 an23 cd23 ct23), sl23⟩)
    (c23 : PySem.W.codeIn K cd23 "_law_fold_block" = true)
    (k23 : PySem.W.keepIn K (.ref f23) = true)
    (a24 : PySem.W.nsIn K mainGlobals "_law_fold_statement" = some (some (.ref f24)))
    (l24 : K.lookup f24 = some ⟨oc24, od24, .func (PySem.W.fnOf "_law_fold_statement" "_law_fold_statement" (defArgs s_law_fold_statement) (defBody s_law_fold_statement) (defScope s_law_fold_statement) .none kV24 dc24 pm24 an24 cd24 ct24), sl24⟩)
    (c24 : PySem.W.codeIn K cd24 "_law_fold_statement" = true)
    (k24 : PySem.W.keepIn K (.ref f24) = true)
    (a25 : PySem.W.nsIn K mainGlobals "law" = some (some (.ref f25)))
    (l25 : K.lookup f25 = some ⟨oc25, od25, .func (PySem.W.fnOf "law" "law" (defArgs s_law) (defBody s_law) (defScope s_law) .none kV25 dc25 pm25 an25 cd25 ct25), sl25⟩)
    (c25 : PySem.W.codeIn K cd25 "law" = true)
    (k25 : PySem.W.keepIn K (.ref f25) = true)
    (z_bool : PySem.W.nsIn K mainGlobals "bool" = some none)
    (z_int : PySem.W.nsIn K mainGlobals "int" = some none)
    (z_isinstance : PySem.W.nsIn K mainGlobals "isinstance" = some none)
    (z_len : PySem.W.nsIn K mainGlobals "len" = some none)
    (z_list : PySem.W.nsIn K mainGlobals "list" = some none)
    (z_max : PySem.W.nsIn K mainGlobals "max" = some none)
    (z_min : PySem.W.nsIn K mainGlobals "min" = some none)
    (z_range : PySem.W.nsIn K mainGlobals "range" = some none)
    (z_str : PySem.W.nsIn K mainGlobals "str" = some none)
    (z_tuple : PySem.W.nsIn K mainGlobals "tuple" = some none) :
    ∃ fd : FuncData, (∀ (s : Shared) (v : Value), BindsTo s fd ⟨[v], []⟩ [("script", v)]) ∧ ∀ base : Heap, K.In base → base.Ns mainGlobals mg → FnOk l.prog w K mg base CX0 41 fa fd ["script"] (spLaw K) := by
  have e := hfa.symm.trans (PySem.W.mg_of X G a25)
  cases e
  let T : Txt K mg := { v_MODULUS := _, g_MODULUS := PySem.W.mg_of X G ac_MODULUS, r_MODULUS := ⟨_, rfl⟩, A_ONE := A_ONE, g_ONE := PySem.W.mg_of X G ac_ONE, q_ONE := fun H => .inr ⟨_, _, _, lk_ONE, rfl, rfl, by show 2 ≤ sizeLine; decide, (.cons (by first | exact ⟨_, rfl⟩ | rfl) (.cons (by first | exact ⟨_, rfl⟩ | rfl) .nil))⟩, qd_ONE := ⟨_, lk_ONE, rfl, rfl⟩, A_ZERO := A_ZERO, g_ZERO := PySem.W.mg_of X G ac_ZERO, q_ZERO := fun H => .inr ⟨_, _, _, lk_ZERO, rfl, rfl, by show 2 ≤ sizeLine; decide, (.cons (by first | exact ⟨_, rfl⟩ | rfl) (.cons (by first | exact ⟨_, rfl⟩ | rfl) .nil))⟩, qd_ZERO := ⟨_, lk_ZERO, rfl, rfl⟩, a_combine := f1, d_combine := _, F_combine := fun_mk (st := s_combine) l1 c1 k1, b_combine := (fun_mk (st := s_combine) l1 c1 k1).binds (ps := ["sign", "left", "right"]) (fun _ _ _ _ _ _ us hl => match us, hl with | [_, _, _], _ => rfl), m_combine := PySem.W.mg_of X G a1, a_is_zero := f2, d_is_zero := _, F_is_zero := fun_mk (st := s_is_zero) l2 c2 k2, b_is_zero := (fun_mk (st := s_is_zero) l2 c2 k2).binds (ps := ["sign", "left", "right"]) (fun _ _ _ _ _ _ us hl => match us, hl with | [_, _, _], _ => rfl), m_is_zero := PySem.W.mg_of X G a2, a_fold_operator := f3, d_fold_operator := _, F_fold_operator := fun_mk (st := s_fold_operator) l3 c3 k3, b_fold_operator := (fun_mk (st := s_fold_operator) l3 c3 k3).binds (ps := ["sign", "left", "right"]) (fun _ _ _ _ _ _ us hl => match us, hl with | [_, _, _], _ => rfl), m_fold_operator := PySem.W.mg_of X G a3, a_fold_expression := f4, d_fold_expression := _, F_fold_expression := fun_mk (st := s_fold_expression) l4 c4 k4, b_fold_expression := (fun_mk (st := s_fold_expression) l4 c4 k4).binds (ps := ["expression", "on"]) (fun _ _ _ _ _ _ us hl => match us, hl with | [_, _], _ => rfl), m_fold_expression := PySem.W.mg_of X G a4, a_fold_if := f5, d_fold_if := _, F_fold_if := fun_mk (st := s_fold_if) l5 c5 k5, b_fold_if := (fun_mk (st := s_fold_if) l5 c5 k5).binds (ps := ["statement", "on"]) (fun _ _ _ _ _ _ us hl => match us, hl with | [_, _], _ => rfl), m_fold_if := PySem.W.mg_of X G a5, a_fold_statement := f6, d_fold_statement := _, F_fold_statement := fun_mk (st := s_fold_statement) l6 c6 k6, b_fold_statement := (fun_mk (st := s_fold_statement) l6 c6 k6).binds (ps := ["statement", "on"]) (fun _ _ _ _ _ _ us hl => match us, hl with | [_, _], _ => rfl), m_fold_statement := PySem.W.mg_of X G a6, a_fold_block := f7, d_fold_block := _, F_fold_block := fun_mk (st := s_fold_block) l7 c7 k7, b_fold_block := (fun_mk (st := s_fold_block) l7 c7 k7).binds (ps := ["block", "on"]) (fun _ _ _ _ _ _ us hl => match us, hl with | [_, _], _ => rfl), m_fold_block := PySem.W.mg_of X G a7, a_law_pool := f8, d_law_pool := _, F_law_pool := fun_mk (st := s_law_pool) l8 c8 k8, b_law_pool := (fun_mk (st := s_law_pool) l8 c8 k8).binds (ps := ["script", "budget"]) (fun _ _ _ _ _ _ us hl => match us, hl with | [_, _], _ => rfl), m_law_pool := PySem.W.mg_of X G a8, a_law_draw := f9, d_law_draw := _, F_law_draw := fun_mk (st := s_law_draw) l9 c9 k9, b_law_draw := (fun_mk (st := s_law_draw) l9 c9 k9).binds (ps := ["pool", "size"]) (fun _ _ _ _ _ _ us hl => match us, hl with | [_, _], _ => rfl), m_law_draw := PySem.W.mg_of X G a9, a_law_spend := f10, d_law_spend := _, F_law_spend := fun_mk (st := s_law_spend) l10 c10 k10, b_law_spend := (fun_mk (st := s_law_spend) l10 c10 k10).binds (ps := ["pool"]) (fun _ _ _ _ _ _ us hl => match us, hl with | [_], _ => rfl), m_law_spend := PySem.W.mg_of X G a10, a_law_few := f11, d_law_few := _, F_law_few := fun_mk (st := s_law_few) l11 c11 k11, b_law_few := (fun_mk (st := s_law_few) l11 c11 k11).binds (ps := ["pool", "most"]) (fun _ _ _ _ _ _ us hl => match us, hl with | [_, _], _ => rfl), m_law_few := PySem.W.mg_of X G a11, a_law_number := f12, d_law_number := _, F_law_number := fun_mk (st := s_law_number) l12 c12 k12, b_law_number := (fun_mk (st := s_law_number) l12 c12 k12).binds (ps := ["pool"]) (fun _ _ _ _ _ _ us hl => match us, hl with | [_], _ => rfl), m_law_number := PySem.W.mg_of X G a12, a_law_same := f13, d_law_same := _, F_law_same := fun_mk (st := s_law_same) l13 c13 k13, b_law_same := (fun_mk (st := s_law_same) l13 c13 k13).binds (ps := ["actual", "due"]) (fun _ _ _ _ _ _ us hl => match us, hl with | [_, _], _ => rfl), m_law_same := PySem.W.mg_of X G a13, a_law_keys := f14, d_law_keys := _, F_law_keys := fun_mk (st := s_law_keys) l14 c14 k14, b_law_keys := (fun_mk (st := s_law_keys) l14 c14 k14).binds (ps := []) (fun _ _ _ _ _ _ us hl => match us, hl with | [], _ => rfl), m_law_keys := PySem.W.mg_of X G a14, a_law_name := f15, d_law_name := _, F_law_name := fun_mk (st := s_law_name) l15 c15 k15, b_law_name := (fun_mk (st := s_law_name) l15 c15 k15).binds (ps := ["pool", "taken"]) (fun _ _ _ _ _ _ us hl => match us, hl with | [_, _], _ => rfl), m_law_name := PySem.W.mg_of X G a15, a_law_names := f16, d_law_names := _, F_law_names := fun_mk (st := s_law_names) l16 c16 k16, b_law_names := (fun_mk (st := s_law_names) l16 c16 k16).binds (ps := ["pool", "most"]) (fun _ _ _ _ _ _ us hl => match us, hl with | [_, _], _ => rfl), m_law_names := PySem.W.mg_of X G a16, a_law_expression := f17, d_law_expression := _, F_law_expression := fun_mk (st := s_law_expression) l17 c17 k17, b_law_expression := (fun_mk (st := s_law_expression) l17 c17 k17).binds (ps := ["pool", "names", "picks", "deep"]) (fun _ _ _ _ _ _ us hl => match us, hl with | [_, _, _, _], _ => rfl), m_law_expression := PySem.W.mg_of X G a17, a_law_combine := f18, d_law_combine := _, F_law_combine := fun_mk (st := s_law_combine) l18 c18 k18, b_law_combine := (fun_mk (st := s_law_combine) l18 c18 k18).binds (ps := ["sign", "a", "b"]) (fun _ _ _ _ _ _ us hl => match us, hl with | [_, _, _], _ => rfl), m_law_combine := PySem.W.mg_of X G a18, a_law_fold_pair := f19, d_law_fold_pair := _, F_law_fold_pair := fun_mk (st := s_law_fold_pair) l19 c19 k19, b_law_fold_pair := (fun_mk (st := s_law_fold_pair) l19 c19 k19).binds (ps := ["sign", "a", "b"]) (fun _ _ _ _ _ _ us hl => match us, hl with | [_, _, _], _ => rfl), m_law_fold_pair := PySem.W.mg_of X G a19, a_law_fold := f20, d_law_fold := _, F_law_fold := fun_mk (st := s_law_fold) l20 c20 k20, b_law_fold := (fun_mk (st := s_law_fold) l20 c20 k20).binds (ps := ["due", "on"]) (fun _ _ _ _ _ _ us hl => match us, hl with | [_, _], _ => rfl), m_law_fold := PySem.W.mg_of X G a20, a_law_statement := f21, d_law_statement := _, F_law_statement := fun_mk (st := s_law_statement) l21 c21 k21, b_law_statement := (fun_mk (st := s_law_statement) l21 c21 k21).binds (ps := ["pool", "names", "picks", "deep", "state"]) (fun _ _ _ _ _ _ us hl => match us, hl with | [_, _, _, _, _], _ => rfl), m_law_statement := PySem.W.mg_of X G a21, a_law_block := f22, d_law_block := _, F_law_block := fun_mk (st := s_law_block) l22 c22 k22, b_law_block := (fun_mk (st := s_law_block) l22 c22 k22).binds (ps := ["pool", "names", "picks", "deep", "state"]) (fun _ _ _ _ _ _ us hl => match us, hl with | [_, _, _, _, _], _ => rfl), m_law_block := PySem.W.mg_of X G a22, a_law_fold_block := f23, d_law_fold_block := _, F_law_fold_block := fun_mk (st := s_law_fold_block) l23 c23 k23, b_law_fold_block := (fun_mk (st := s_law_fold_block) l23 c23 k23).binds (ps := ["block", "on"]) (fun _ _ _ _ _ _ us hl => match us, hl with | [_, _], _ => rfl), m_law_fold_block := PySem.W.mg_of X G a23, a_law_fold_statement := f24, d_law_fold_statement := _, F_law_fold_statement := fun_mk (st := s_law_fold_statement) l24 c24 k24, b_law_fold_statement := (fun_mk (st := s_law_fold_statement) l24 c24 k24).binds (ps := ["due", "on"]) (fun _ _ _ _ _ _ us hl => match us, hl with | [_, _], _ => rfl), m_law_fold_statement := PySem.W.mg_of X G a24, a_law := fa, d_law := _, F_law := fun_mk (st := s_law) l25 c25 k25, b_law := (fun_mk (st := s_law) l25 c25 k25).binds (ps := ["script"]) (fun _ _ _ _ _ _ us hl => match us, hl with | [_], _ => rfl), m_law := PySem.W.mg_of X G a25, z_bool := PySem.W.mg_none_of X G z_bool, z_int := PySem.W.mg_none_of X G z_int, z_isinstance := PySem.W.mg_none_of X G z_isinstance, z_len := PySem.W.mg_none_of X G z_len, z_list := PySem.W.mg_none_of X G z_list, z_max := PySem.W.mg_none_of X G z_max, z_min := PySem.W.mg_none_of X G z_min, z_range := PySem.W.mg_none_of X G z_range, z_str := PySem.W.mg_none_of X G z_str, z_tuple := PySem.W.mg_none_of X G z_tuple }
  exact ⟨T.d_law, fun s v => .of_eq rfl, fun base _ _ => ok_law T⟩
end Own
open PySem PySem.W PyProof.Rows
set_option maxHeartbeats 0 in
theorem PySem.Challenge.cw_sureplay_k24_folded_statements_holds : PySem.Challenge.rw_sureplay_k24_folded_statements.Holds := by
  w_on; o_law; k_head; (case hw => w_witness2)
  k_fill
  refine L2.walk_of (l := PySem.Challenge.rw_sureplay_k24_folded_statements) (n := 63) (k := 41) (x := "script") (CX := fun _ => L2.CX0) (sp := fun w => Own.spLaw _) rfl (by decide) rfl ⟨rfl, by decide, by decide⟩ (fun w h Y => PySem.W.kIn_of Y) ?F (fun _ _ a ns hl _ hS => ⟨a, ns, rfl, hS, hl, fun _ => rfl⟩) (fun _ _ _ _ _ h => h)
  case F =>
    intro w mg fa h KX G hmg
    refine' Own.all_mk KX G hmg ?ac_MODULUS ?ac_ONE ?lk_ONE ?ac_ZERO ?lk_ZERO ?a1 ?l1 ?c1 ?k1 ?a2 ?l2 ?c2 ?k2 ?a3 ?l3 ?c3 ?k3 ?a4 ?l4 ?c4 ?k4 ?a5 ?l5 ?c5 ?k5 ?a6 ?l6 ?c6 ?k6 ?a7 ?l7 ?c7 ?k7 ?a8 ?l8 ?c8 ?k8 ?a9 ?l9 ?c9 ?k9 ?a10 ?l10 ?c10 ?k10 ?a11 ?l11 ?c11 ?k11 ?a12 ?l12 ?c12 ?k12 ?a13 ?l13 ?c13 ?k13 ?a14 ?l14 ?c14 ?k14 ?a15 ?l15 ?c15 ?k15 ?a16 ?l16 ?c16 ?k16 ?a17 ?l17 ?c17 ?k17 ?a18 ?l18 ?c18 ?k18 ?a19 ?l19 ?c19 ?k19 ?a20 ?l20 ?c20 ?k20 ?a21 ?l21 ?c21 ?k21 ?a22 ?l22 ?c22 ?k22 ?a23 ?l23 ?c23 ?k23 ?a24 ?l24 ?c24 ?k24 ?a25 ?l25 ?c25 ?k25 ?z_bool ?z_int ?z_isinstance ?z_len ?z_list ?z_max ?z_min ?z_range ?z_str ?z_tuple
    (case ac_MODULUS => k_is)
    (case ac_ONE => k_is)
    (case ac_ZERO => k_is)
    (case lk_ONE => k_is)
    (case lk_ZERO => k_is)
    (case a1 => k_is)
    (case l1 => k_is)
    (case c1 => k_is)
    (case k1 => k_is)
    (case a2 => k_is)
    (case l2 => k_is)
    (case c2 => k_is)
    (case k2 => k_is)
    (case a3 => k_is)
    (case l3 => k_is)
    (case c3 => k_is)
    (case k3 => k_is)
    (case a4 => k_is)
    (case l4 => k_is)
    (case c4 => k_is)
    (case k4 => k_is)
    (case a5 => k_is)
    (case l5 => k_is)
    (case c5 => k_is)
    (case k5 => k_is)
    (case a6 => k_is)
    (case l6 => k_is)
    (case c6 => k_is)
    (case k6 => k_is)
    (case a7 => k_is)
    (case l7 => k_is)
    (case c7 => k_is)
    (case k7 => k_is)
    (case a8 => k_is)
    (case l8 => k_is)
    (case c8 => k_is)
    (case k8 => k_is)
    (case a9 => k_is)
    (case l9 => k_is)
    (case c9 => k_is)
    (case k9 => k_is)
    (case a10 => k_is)
    (case l10 => k_is)
    (case c10 => k_is)
    (case k10 => k_is)
    (case a11 => k_is)
    (case l11 => k_is)
    (case c11 => k_is)
    (case k11 => k_is)
    (case a12 => k_is)
    (case l12 => k_is)
    (case c12 => k_is)
    (case k12 => k_is)
    (case a13 => k_is)
    (case l13 => k_is)
    (case c13 => k_is)
    (case k13 => k_is)
    (case a14 => k_is)
    (case l14 => k_is)
    (case c14 => k_is)
    (case k14 => k_is)
    (case a15 => k_is)
    (case l15 => k_is)
    (case c15 => k_is)
    (case k15 => k_is)
    (case a16 => k_is)
    (case l16 => k_is)
    (case c16 => k_is)
    (case k16 => k_is)
    (case a17 => k_is)
    (case l17 => k_is)
    (case c17 => k_is)
    (case k17 => k_is)
    (case a18 => k_is)
    (case l18 => k_is)
    (case c18 => k_is)
    (case k18 => k_is)
    (case a19 => k_is)
    (case l19 => k_is)
    (case c19 => k_is)
    (case k19 => k_is)
    (case a20 => k_is)
    (case l20 => k_is)
    (case c20 => k_is)
    (case k20 => k_is)
    (case a21 => k_is)
    (case l21 => k_is)
    (case c21 => k_is)
    (case k21 => k_is)
    (case a22 => k_is)
    (case l22 => k_is)
    (case c22 => k_is)
    (case k22 => k_is)
    (case a23 => k_is)
    (case l23 => k_is)
    (case c23 => k_is)
    (case k23 => k_is)
    (case a24 => k_is)
    (case l24 => k_is)
    (case c24 => k_is)
    (case k24 => k_is)
    (case a25 => k_is)
    (case l25 => k_is)
    (case c25 => k_is)
    (case k25 => k_is)
    (case z_bool => k_is)
    (case z_int => k_is)
    (case z_isinstance => k_is)
    (case z_len => k_is)
    (case z_list => k_is)
    (case z_max => k_is)
    (case z_min => k_is)
    (case z_range => k_is)
    (case z_str => k_is)
    (case z_tuple => k_is)
#print axioms PySem.Challenge.cw_sureplay_k24_folded_statements_holds
