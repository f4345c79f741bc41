import PyProof.Rows.All
import Wide.All
import OpenK.AllK
import Wide.FinOn
import HandS.TupAny
import HandS.ForMost
import HandS.IsInst
import HandS.Codes
import HandS.Defaults
import HandS.Walk
import HandS.Text
import HandS.Dict
import HandS.Small
import HandS.More
import HandS.DeepEq
import HandS.TupMul
import HandS.Zip
import HandS.DictComp
import HandS.ReCall
import HandS.Strs
import PySem.Challenge.RW_sureplay_k63_units_of_work
set_option Elab.async false
set_option linter.all false
set_option maxRecDepth 100000
set_option maxHeartbeats 4000000
namespace Own
open PySem PySem.Spec PyProof.Rows L2
def topS (i : Nat) : Stmt := PySem.Challenge.pw_sureplay_k63_units_of_work.main.body.getD i (.Pass ⟨0, 0, 0, 0⟩)
abbrev s_combine : Stmt := (topS 4)
abbrev N_combine : List Str := ["sign", "left", "right"]
theorem sc_combine : FnScope N_combine ["sign", "left", "right"] (defScope s_combine) := ⟨rfl, rfl, rfl, by decide +kernel, rfl, by decide +kernel, by decide +kernel⟩
abbrev s_value_of : Stmt := (topS 5)
abbrev N_value_of : List Str := ["expression", "table", "on", "seen", "kind", "index", "chosen", "left", "right"]
theorem sc_value_of : FnScope N_value_of ["expression", "table", "on", "seen"] (defScope s_value_of) := ⟨rfl, rfl, rfl, by decide +kernel, rfl, by decide +kernel, by decide +kernel⟩
abbrev s_view_numbers : Stmt := (topS 8)
abbrev N_view_numbers : List Str := ["view", "numbers", "event", "second"]
theorem sc_view_numbers : FnScope N_view_numbers ["view"] (defScope s_view_numbers) := ⟨rfl, rfl, rfl, by decide +kernel, rfl, by decide +kernel, by decide +kernel⟩
abbrev s_Thought_enter : Stmt := (inClass (topS 9) 5)
abbrev N_Thought_enter : List Str := ["self", "block"]
theorem sc_Thought_enter : FnScope N_Thought_enter ["self", "block"] (defScope s_Thought_enter) := ⟨rfl, rfl, rfl, by decide +kernel, rfl, by decide +kernel, by decide +kernel⟩
abbrev s_Thought_init : Stmt := (inClass (topS 9) 0)
abbrev N_Thought_init : List Str := ["self", "brain", "cells", "seen", "value", "name", "_"]
theorem sc_Thought_init : FnScope N_Thought_init ["self", "brain", "cells", "seen"] (defScope s_Thought_init) := ⟨rfl, rfl, rfl, by decide +kernel, rfl, by decide +kernel, by decide +kernel⟩
abbrev s_Thought_after : Stmt := (inClass (topS 9) 1)
abbrev N_Thought_after : List Str := ["self", "result", "thought"]
theorem sc_Thought_after : FnScope N_Thought_after ["self", "result"] (defScope s_Thought_after) := ⟨rfl, rfl, rfl, by decide +kernel, rfl, by decide +kernel, by decide +kernel⟩
abbrev s_Thought_give : Stmt := (inClass (topS 9) 4)
abbrev N_Thought_give : List Str := ["self", "kind", "cell", "value"]
theorem sc_Thought_give : FnScope N_Thought_give ["self", "kind", "cell", "value"] (defScope s_Thought_give) := ⟨rfl, rfl, rfl, by decide +kernel, rfl, by decide +kernel, by decide +kernel⟩
abbrev s_Thought_value : Stmt := (inClass (topS 9) 6)
abbrev N_Thought_value : List Str := ["self", "expression"]
theorem sc_Thought_value : FnScope N_Thought_value ["self", "expression"] (defScope s_Thought_value) := ⟨rfl, rfl, rfl, by decide +kernel, rfl, by decide +kernel, by decide +kernel⟩
abbrev s_Thought_do : Stmt := (inClass (topS 9) 3)
abbrev N_Thought_do : List Str := ["self", "statement", "kind"]
theorem sc_Thought_do : FnScope N_Thought_do ["self", "statement"] (defScope s_Thought_do) := ⟨rfl, rfl, rfl, by decide +kernel, rfl, by decide +kernel, by decide +kernel⟩
abbrev s_Thought_go_on : Stmt := (inClass (topS 9) 2)
abbrev N_Thought_go_on : List Str := ["self", "block", "at"]
theorem sc_Thought_go_on : FnScope N_Thought_go_on ["self"] (defScope s_Thought_go_on) := ⟨rfl, rfl, rfl, by decide +kernel, rfl, by decide +kernel, by decide +kernel⟩
abbrev s_Thought_move_and_cells : Stmt := (inClass (topS 9) 7)
abbrev N_Thought_move_and_cells : List Str := ["self", "count", "move", "name", "_"]
theorem sc_Thought_move_and_cells : FnScope N_Thought_move_and_cells ["self", "count"] (defScope s_Thought_move_and_cells) := ⟨rfl, rfl, rfl, by decide +kernel, rfl, by decide +kernel, by decide +kernel⟩
abbrev s_Tape_take : Stmt := (inClass (topS 14) 1)
abbrev N_Tape_take : List Str := ["self", "count", "at", "result"]
theorem sc_Tape_take : FnScope N_Tape_take ["self", "count"] (defScope s_Tape_take) := ⟨rfl, rfl, rfl, by decide +kernel, rfl, by decide +kernel, by decide +kernel⟩
abbrev s_think : Stmt := (topS 10)
abbrev N_think : List Str := ["brain", "cells", "view", "count", "tape", "thought"]
theorem sc_think : FnScope N_think ["brain", "cells", "view", "count", "tape"] (defScope s_think) := ⟨rfl, rfl, rfl, by decide +kernel, rfl, by decide +kernel, by decide +kernel⟩
abbrev s_Brain_init : Stmt := (inClass (topS 12) 0)
abbrev N_Brain_init : List Str := ["self", "units", "cells", "block", "answer", "name", "value"]
theorem sc_Brain_init : FnScope N_Brain_init ["self", "units", "cells", "block", "answer"] (defScope s_Brain_init) := ⟨rfl, rfl, rfl, by decide +kernel, rfl, by decide +kernel, by decide +kernel⟩
abbrev s_Tape_init : Stmt := (inClass (topS 14) 0)
abbrev N_Tape_init : List Str := ["self", "results"]
theorem sc_Tape_init : FnScope N_Tape_init ["self", "results"] (defScope s_Tape_init) := ⟨rfl, rfl, rfl, by decide +kernel, rfl, by decide +kernel, by decide +kernel⟩
abbrev s_law_pool : Stmt := (topS 16)
abbrev N_law_pool : List Str := ["script", "budget"]
theorem sc_law_pool : FnScope N_law_pool ["script", "budget"] (defScope s_law_pool) := ⟨rfl, rfl, rfl, by decide +kernel, rfl, by decide +kernel, by decide +kernel⟩
abbrev s_law_draw : Stmt := (topS 17)
abbrev N_law_draw : List Str := ["pool", "size", "cell", "value"]
theorem sc_law_draw : FnScope N_law_draw ["pool", "size"] (defScope s_law_draw) := ⟨rfl, rfl, rfl, by decide +kernel, rfl, by decide +kernel, by decide +kernel⟩
abbrev s_law_spend : Stmt := (topS 18)
abbrev N_law_spend : List Str := ["pool"]
theorem sc_law_spend : FnScope N_law_spend ["pool"] (defScope s_law_spend) := ⟨rfl, rfl, rfl, by decide +kernel, rfl, by decide +kernel, by decide +kernel⟩
abbrev s_law_few : Stmt := (topS 19)
abbrev N_law_few : List Str := ["pool", "most", "few"]
theorem sc_law_few : FnScope N_law_few ["pool", "most"] (defScope s_law_few) := ⟨rfl, rfl, rfl, by decide +kernel, rfl, by decide +kernel, by decide +kernel⟩
abbrev s_law_number : Stmt := (topS 20)
abbrev N_law_number : List Str := ["pool"]
theorem sc_law_number : FnScope N_law_number ["pool"] (defScope s_law_number) := ⟨rfl, rfl, rfl, by decide +kernel, rfl, by decide +kernel, by decide +kernel⟩
abbrev s_law_same : Stmt := (topS 21)
abbrev N_law_same : List Str := ["actual", "due", "k"]
theorem sc_law_same : FnScope N_law_same ["actual", "due"] (defScope s_law_same) := ⟨rfl, rfl, rfl, by decide +kernel, rfl, by decide +kernel, by decide +kernel⟩
abbrev s_law_keys : Stmt := (topS 22)
abbrev N_law_keys : List Str := ["text"]
theorem sc_law_keys : FnScope N_law_keys [] (defScope s_law_keys) := ⟨rfl, rfl, rfl, by decide +kernel, rfl, by decide +kernel, by decide +kernel⟩
abbrev s_law_name : Stmt := (topS 23)
abbrev N_law_name : List Str := ["pool", "taken", "signs", "name", "k"]
theorem sc_law_name : FnScope N_law_name ["pool", "taken"] (defScope s_law_name) := ⟨rfl, rfl, rfl, by decide +kernel, rfl, by decide +kernel, by decide +kernel⟩
abbrev s_law_names : Stmt := (topS 24)
abbrev N_law_names : List Str := ["pool", "most", "names", "k"]
theorem sc_law_names : FnScope N_law_names ["pool", "most"] (defScope s_law_names) := ⟨rfl, rfl, rfl, by decide +kernel, rfl, by decide +kernel, by decide +kernel⟩
abbrev s_law_expression : Stmt := (topS 25)
abbrev N_law_expression : List Str := ["pool", "names", "deep", "kind", "sign", "left"]
theorem sc_law_expression : FnScope N_law_expression ["pool", "names", "deep"] (defScope s_law_expression) := ⟨rfl, rfl, rfl, by decide +kernel, rfl, by decide +kernel, by decide +kernel⟩
abbrev s_law_thought : Stmt := (topS 27)
abbrev N_law_thought : List Str := ["pool", "names", "deep", "loops", "kind", "test", "then", "name"]
theorem sc_law_thought : FnScope N_law_thought ["pool", "names", "deep", "loops"] (defScope s_law_thought) := ⟨rfl, rfl, rfl, by decide +kernel, rfl, by decide +kernel, by decide +kernel⟩
abbrev s_law_thoughts : Stmt := (topS 26)
abbrev N_law_thoughts : List Str := ["pool", "names", "deep", "loops", "block", "k"]
theorem sc_law_thoughts : FnScope N_law_thoughts ["pool", "names", "deep", "loops"] (defScope s_law_thoughts) := ⟨rfl, rfl, rfl, by decide +kernel, rfl, by decide +kernel, by decide +kernel⟩
abbrev s_law_brain : Stmt := (topS 28)
abbrev N_law_brain : List Str := ["pool", "units", "loops", "names", "cells", "block", "name"]
theorem sc_law_brain : FnScope N_law_brain ["pool", "units", "loops"] (defScope s_law_brain) := ⟨rfl, rfl, rfl, by decide +kernel, rfl, by decide +kernel, by decide +kernel⟩
abbrev s_law_combine : Stmt := (topS 29)
abbrev N_law_combine : List Str := ["sign", "a", "b", "whole"]
theorem sc_law_combine : FnScope N_law_combine ["sign", "a", "b"] (defScope s_law_combine) := ⟨rfl, rfl, rfl, by decide +kernel, rfl, by decide +kernel, by decide +kernel⟩
abbrev s_law_value : Stmt := (topS 30)
abbrev N_law_value : List Str := ["due", "table", "on", "seen", "at", "left"]
theorem sc_law_value : FnScope N_law_value ["due", "table", "on", "seen"] (defScope s_law_value) := ⟨rfl, rfl, rfl, by decide +kernel, rfl, by decide +kernel, by decide +kernel⟩
abbrev s_law_seen : Stmt := (topS 31)
abbrev N_law_seen : List Str := ["view", "seen", "event", "rest"]
theorem sc_law_seen : FnScope N_law_seen ["view"] (defScope s_law_seen) := ⟨rfl, rfl, rfl, by decide +kernel, rfl, by decide +kernel, by decide +kernel⟩
abbrev s_law_fall : Stmt := (topS 32)
abbrev N_law_fall : List Str := ["results", "taken", "count", "result"]
theorem sc_law_fall : FnScope N_law_fall ["results", "taken", "count"] (defScope s_law_fall) := ⟨rfl, rfl, rfl, by decide +kernel, rfl, by decide +kernel, by decide +kernel⟩
abbrev s_law_unit : Stmt := (topS 33)
abbrev N_law_unit : List Str := ["run"]
theorem sc_law_unit : FnScope N_law_unit ["run"] (defScope s_law_unit) := ⟨rfl, rfl, rfl, by decide +kernel, rfl, by decide +kernel, by decide +kernel⟩
abbrev s_law_run : Stmt := (topS 34)
abbrev N_law_run : List Str := ["run", "block", "due", "k", "chosen", "value", "table"]
theorem sc_law_run : FnScope N_law_run ["run", "block"] (defScope s_law_run) := ⟨rfl, rfl, rfl, by decide +kernel, rfl, by decide +kernel, by decide +kernel⟩
abbrev s_law_think : Stmt := (topS 35)
abbrev N_law_think : List Str := ["brain", "cells", "view", "count", "results", "taken", "table", "k", "run", "answer", "row"]
theorem sc_law_think : FnScope N_law_think ["brain", "cells", "view", "count", "results", "taken"] (defScope s_law_think) := ⟨rfl, rfl, rfl, by decide +kernel, rfl, by decide +kernel, by decide +kernel⟩
abbrev s_law_view : Stmt := (topS 36)
abbrev N_law_view : List Str := ["pool", "view", "k", "kind", "many"]
theorem sc_law_view : FnScope N_law_view ["pool"] (defScope s_law_view) := ⟨rfl, rfl, rfl, by decide +kernel, rfl, by decide +kernel, by decide +kernel⟩
abbrev s_law : Stmt := (topS 37)
abbrev N_law : List Str := ["script", "pool", "brain", "cells", "view", "count", "results", "due", "k", "units", "taken", "told", "tape", "actual", "row"]
theorem sc_law : FnScope N_law ["script"] (defScope s_law) := ⟨rfl, rfl, rfl, by decide +kernel, rfl, by decide +kernel, by decide +kernel⟩
def spLaw (K : PySem.W.Frag) : Sp := fun vs H Q _ => ∃ (a : Addr) (ns : List Int), vs = [.ref a] ∧ SqL K H a (ns.map V.int) ∧ ns.length ≤ 63 ∧ ∀ H', Q (.bl true) H'
def cell (ns : List Int) (k : Int) : Int := ns.getD k.toNat 0
theorem same_upd {H : Hp} {p : Addr} {o : HO} (h : H p = none) : Same H (upd H p o) := fun b x e => by
  rw [upd_ne (ne_of_none e h)]
  exact e
theorem cut_from (xs : List V) (k : Nat) : cutV xs (some (k : Int)) none = xs.drop k := by
  unfold cutV
  rw [HT.sIx_nat, HT.sIx_none]
  by_cases h : k ≤ xs.length
  · rw [Nat.min_eq_left h]
    exact List.take_of_length_le (by rw [List.length_drop]; omega)
  · rw [Nat.min_eq_right (by omega), List.drop_eq_nil_of_le (by omega), List.drop_eq_nil_of_le (by omega)]
    simp
theorem cut_to (xs : List V) (k : Nat) : cutV xs none (some (k : Int)) = xs.take k := by
  unfold cutV
  rw [HT.sIx_nat, HT.sIx_none, List.drop_zero, Nat.sub_zero]
  by_cases h : k ≤ xs.length
  · rw [Nat.min_eq_left h]
  · rw [Nat.min_eq_right (by omega), List.take_of_length_le (Nat.le_refl _), List.take_of_length_le (by omega)]
theorem cut_to' (xs : List V) (k : Int) (h : 0 ≤ k) : cutV xs none (some k) = xs.take k.toNat := by
  obtain ⟨m, rfl⟩ := Int.eq_ofNat_of_zero_le h
  exact cut_to xs m
theorem cut_from' (xs : List V) (k : Int) (h : 0 ≤ k) : cutV xs (some k) none = xs.drop k.toNat := by
  obtain ⟨m, rfl⟩ := Int.eq_ofNat_of_zero_le h
  exact cut_from xs m
theorem small_le {n : Nat} (h : n ≤ 1000) : n ≤ sizeLine := Nat.le_of_lt (small1000 h)
theorem at_ofG {α : Type} {xs : List α} {z : Int} {j : Nat} {v : α} (e : z = (j : Int)) (h : xs[j]? = some v) : atI xs z = some v := by
  rw [e]
  exact atI_nat h
theorem int_of_map {ns : List Int} {i : Nat} {y : V} (hi : (ns.map V.int)[i]? = some y) : ∃ z, ns[i]? = some z ∧ y = V.int z := by
  rw [List.getElem?_map] at hi
  cases e : ns[i]? with
  | none => rw [e] at hi; cases hi
  | some u => rw [e] at hi; exact ⟨u, rfl, (Option.some.inj hi).symm⟩
theorem dp_ints {K : PySem.W.Frag} {H : Hp} : ∀ ns : List Int, DpAll K H (ns.map V.int) (ns.map PyData.int)
  | [] => .nil
  | n :: r => .cons (.int n) (dp_ints r)
theorem lay_ints : ∀ ns : List Int, PyData.canLayAll0 (ns.map PyData.int) = true ∧ PyData.depthAll (ns.map PyData.int) = 0
  | [] => ⟨by simp [PyData.canLayAll0], by simp [PyData.depthAll]⟩
  | n :: r => by
    have ih := lay_ints r
    exact ⟨by simp [PyData.canLayAll0, PyData.canLay0, ih.1], by simp [PyData.depthAll, PyData.depth, ih.2]⟩
theorem shaped_ints (ns : List Int) : SeqAt.shaped (.list (ns.map PyData.int)) = true := by
  have h := lay_ints ns
  unfold SeqAt.shaped
  simp [PyData.canLay0, PyData.depth, h.1, h.2]
theorem eqv_ints (ns : List Int) : PyData.eqv (.list (ns.map PyData.int)) (.list (ns.map PyData.int)) = true :=
  SeqAt.eqv_refl _ (by rw [PyData.canLay0]; exact (lay_ints ns).1)

mutual
/-- data that never changes: scalars and tracked tuples of such -/
inductive Im (H : Hp) : V → PyData → Prop
  | non : Im H .non .none
  | bl (b : Bool) : Im H (.bl b) (.bool b)
  | int (i : Int) : Im H (.int i) (.int i)
  | str (x : Str) : Im H (.str x) (.str x)
  | tup {a : Addr} {xs : List V} {ds : List PyData} : H a = some (.tup xs) → ImAll H xs ds → Im H (.ref a) (.tuple ds)
inductive ImAll (H : Hp) : List V → List PyData → Prop
  | nil : ImAll H [] []
  | cons {v : V} {vs : List V} {d : PyData} {ds : List PyData} : Im H v d → ImAll H vs ds → ImAll H (v :: vs) (d :: ds)
end
/-- the tracked tuples stay -/
def KeepT (H H' : Hp) : Prop := ∀ b xs, H b = some (.tup xs) → H' b = some (.tup xs)
theorem KeepT.refl (H : Hp) : KeepT H H := fun _ _ h => h
theorem KeepT.trans {H H1 H2 : Hp} (a : KeepT H H1) (b : KeepT H1 H2) : KeepT H H2 := fun c x h => b c x (a c x h)
theorem keepT_of {H H' : Hp} (s : Same H H') : KeepT H H' := fun b xs h => s b _ h
theorem keepT_lst {H : Hp} {p : Addr} {xs ys : List V} (h : H p = some (.lst xs)) : KeepT H (upd H p (.lst ys)) := fun b zs e => by
  have n : b ≠ p := fun q => by rw [q, h] at e; cases e
  rw [upd_ne n]
  exact e
mutual
theorem Im.keep {H H' : Hp} (k : KeepT H H') : ∀ {v : V} {d : PyData}, Im H v d → Im H' v d
  | _, _, .non => .non
  | _, _, .bl b => .bl b
  | _, _, .int i => .int i
  | _, _, .str x => .str x
  | _, _, .tup h a => .tup (k _ _ h) (ImAll.keep k a)
theorem ImAll.keep {H H' : Hp} (k : KeepT H H') : ∀ {vs : List V} {ds : List PyData}, ImAll H vs ds → ImAll H' vs ds
  | _, _, .nil => .nil
  | _, _, .cons h a => .cons (Im.keep k h) (ImAll.keep k a)
end
mutual
theorem Im.dp {K : PySem.W.Frag} {H : Hp} : ∀ {v : V} {d : PyData}, Im H v d → Dp K H v d
  | _, _, .non => .non
  | _, _, .bl b => .bl b
  | _, _, .int i => .int i
  | _, _, .str x => .str x
  | _, _, .tup h a => .tup (SqT.of h) (ImAll.dp a)
theorem ImAll.dp {K : PySem.W.Frag} {H : Hp} : ∀ {vs : List V} {ds : List PyData}, ImAll H vs ds → DpAll K H vs ds
  | _, _, .nil => .nil
  | _, _, .cons h a => .cons (Im.dp h) (ImAll.dp a)
end
theorem ImAll.len {H : Hp} : ∀ {vs : List V} {ds : List PyData}, ImAll H vs ds → vs.length = ds.length
  | _, _, .nil => rfl
  | _, _, .cons _ a => by rw [List.length_cons, List.length_cons, ImAll.len a]
theorem ImAll.append {H : Hp} : ∀ {vs us : List V} {ds es : List PyData}, ImAll H vs ds → ImAll H us es → ImAll H (vs ++ us) (ds ++ es)
  | _, _, _, _, .nil, b => b
  | _, _, _, _, .cons h a, b => .cons h (ImAll.append a b)
theorem ImAll.get {H : Hp} : ∀ {vs : List V} {ds : List PyData} {i : Nat} {d : PyData}, ImAll H vs ds → ds[i]? = some d → ∃ v, vs[i]? = some v ∧ Im H v d
  | _, _, 0, _, .cons h _, e => by
    cases e
    exact ⟨_, rfl, h⟩
  | _, _, i + 1, _, .cons _ a, e => by
    rw [List.getElem?_cons_succ] at e
    rw [List.getElem?_cons_succ]
    exact ImAll.get a e
theorem ImAll.take {H : Hp} : ∀ {vs : List V} {ds : List PyData} (i : Nat), ImAll H vs ds → ImAll H (vs.take i) (ds.take i)
  | _, _, 0, _ => by
    rw [List.take_zero, List.take_zero]
    exact .nil
  | _, _, _ + 1, .nil => by
    rw [List.take_nil, List.take_nil]
    exact .nil
  | _, _, i + 1, .cons h a => .cons h (ImAll.take i a)
theorem ImAll.snoc {H : Hp} {vs : List V} {ds : List PyData} {v : V} {d : PyData} (a : ImAll H vs ds) (h : Im H v d) : ImAll H (vs ++ [v]) (ds ++ [d]) := a.append (.cons h .nil)
theorem ImAll.rev {H : Hp} : ∀ {vs : List V} {ds : List PyData}, ImAll H vs ds → ImAll H vs.reverse ds.reverse
  | _, _, .nil => .nil
  | _, _, .cons h a => by
    rw [List.reverse_cons, List.reverse_cons]
    exact (ImAll.rev a).snoc h
mutual
/-- all sequences are short -/
def wide : PyData → Bool
  | .list xs => decide (xs.length ≤ 1000000) && wideAll xs
  | .tuple xs => decide (xs.length ≤ 1000000) && wideAll xs
  | .none => true
  | .bool _ => true
  | .int _ => true
  | .str _ => true
  | .dict _ => false
def wideAll : List PyData → Bool
  | [] => true
  | x :: r => wide x && wideAll r
end
/-- what a comparison asks of data: sizes -/
def Lay (n : Nat) (d : PyData) : Prop := d.canLay0 = true ∧ d.depth ≤ n ∧ wide d = true
theorem lay_all : ∀ {n : Nat} {ds : List PyData}, (∀ d ∈ ds, Lay n d) → PyData.canLayAll0 ds = true ∧ PyData.depthAll ds ≤ n ∧ wideAll ds = true
  | n, [], _ => ⟨by simp [PyData.canLayAll0], by simp [PyData.depthAll], by simp [wideAll]⟩
  | n, d :: r, h => by
    have h1 := h d List.mem_cons_self
    have h2 := lay_all fun e he => h e (List.mem_cons_of_mem d he)
    refine ⟨by simp [PyData.canLayAll0, h1.1, h2.1], ?_, by simp [wideAll, h1.2.2, h2.2.2]⟩
    simp only [PyData.depthAll]
    exact Nat.max_le.mpr ⟨h1.2.1, h2.2.1⟩
theorem lay_tuple {n : Nat} {ds : List PyData} (hl : ds.length ≤ 1000000) (h : ∀ d ∈ ds, Lay n d) : Lay (n + 1) (.tuple ds) := by
  have q := lay_all h
  exact ⟨by simp [PyData.canLay0, q.1], by simp only [PyData.depth]; omega, by simp only [wide, q.2.2, decide_eq_true hl]; rfl⟩
theorem lay_list {n : Nat} {ds : List PyData} (hl : ds.length ≤ 1000000) (h : ∀ d ∈ ds, Lay n d) : Lay (n + 1) (.list ds) := by
  have q := lay_all h
  exact ⟨by simp [PyData.canLay0, q.1], by simp only [PyData.depth]; omega, by simp only [wide, q.2.2, decide_eq_true hl]; rfl⟩
theorem Lay.mono {n m : Nat} {d : PyData} (h : Lay n d) (l : n ≤ m) : Lay m d := ⟨h.1, Nat.le_trans h.2.1 l, h.2.2⟩
theorem Lay.shaped {n : Nat} {d : PyData} (h : Lay n d) (l : n ≤ 64) : SeqAt.shaped d = true := by
  unfold SeqAt.shaped
  rw [h.1, decide_eq_true (Nat.le_trans h.2.1 l)]
  rfl
theorem Lay.refl {n : Nat} {d : PyData} (h : Lay n d) : PyData.eqv d d = true := SeqAt.eqv_refl _ h.1
theorem lay_int (i : Int) : Lay 0 (.int i) := ⟨by simp [PyData.canLay0], by simp [PyData.depth], by simp [wide]⟩
theorem lay_str {x : Str} (h : PyData.strOk x = true) : Lay 0 (.str x) := ⟨by simp [PyData.canLay0, h], by simp [PyData.depth], by simp [wide]⟩
theorem lay_none : Lay 0 .none := ⟨by simp [PyData.canLay0], by simp [PyData.depth], by simp [wide]⟩
theorem lay_bool (b : Bool) : Lay 0 (.bool b) := ⟨by simp [PyData.canLay0], by simp [PyData.depth], by simp [wide]⟩
theorem wide_get {ds : List PyData} {i : Nat} {d : PyData} : wideAll ds = true → ds[i]? = some d → wide d = true := by
  induction ds generalizing i with
  | nil => intro _ h; simp at h
  | cons x r ih =>
    intro hw h
    simp only [wideAll, Bool.and_eq_true] at hw
    cases i with
    | zero => cases h; exact hw.1
    | succ i => exact ih (i := i) hw.2 (by rw [List.getElem?_cons_succ] at h; exact h)
/-- view + (event,) -/
theorem cat_ev {K : PySem.W.Frag} {H : Hp} {v t u : Addr} {xs : List V} {ds : List PyData} {e : PyData} {Q : VK} (hv : H v = some (.tup xs)) (hA : ImAll H xs ds) (he : Im H (.ref t) e) (hu : H u = some (.tup [.ref t])) (hz : xs.length ≤ 900)
    (k : ∀ (p : Addr) (H' : Hp), Same H H' → Im H' (.ref p) (.tuple (ds ++ [e])) → Q (.ref p) H') : rCatA K (.ref v) (.ref u) H Q := by
  refine ⟨v, u, xs, [.ref t], rfl, rfl, SqT.of hv, SqT.of hu, by show xs.length + 1 ≤ sizeLine; exact small_le (by omega), fun z => ?_, fun _ z => (by cases z), fun _ _ p hp => ?_⟩
  · subst z
    cases hA
    exact k u H (Same.refl H) (.tup hu (.cons he .nil))
  · exact k p _ (same_upd hp) (.tup upd_same ((hA.snoc he).keep (keepT_of (same_upd hp))))
theorem upd2_same {H : Hp} {t u : Addr} {o o' : HO} (ht : H t = none) (hu : upd H t o u = none) : Same H (upd (upd H t o) u o') := (same_upd ht).trans (same_upd hu)


/-- the drawing pool at p: the script's cells at c, five numbers -/
def Pool (H : Hp) (p c : Addr) (b : Int) : Prop := ∃ (ns : List Int) (i r s t : Int), H p = some (.lst [.ref c, .int i, .int r, .int s, .int t, .int b]) ∧ H c = some (.lst (ns.map V.int)) ∧ 0 ≤ i ∧ c ≠ p
def But (p : Addr) (H H' : Hp) : Prop := ∀ b o, b ≠ p → H b = some o → H' b = some o
theorem But.refl (p : Addr) (H : Hp) : But p H H := fun _ _ _ h => h
theorem But.trans {p : Addr} {H H1 H2 : Hp} (a : But p H H1) (b : But p H1 H2) : But p H H2 := fun c o n h => b c o n (a c o n h)
theorem but_of {p : Addr} {H H' : Hp} (s : Same H H') : But p H H' := fun b o _ h => s b o h
theorem but_upd {p : Addr} {H : Hp} {o : HO} : But p H (upd H p o) := fun b x n e => by rw [upd_ne n]; exact e
/-- what stood before the list at p was made stays -/
theorem But.same {p : Addr} {H0 H H' : Hp} (b : But p H H') (s : Same H0 H) (n : H0 p = none) : Same H0 H' := fun c o e => b c o (ne_of_none e n) (s c o e)
theorem But.keepT {p : Addr} {xs : List V} {H H' : Hp} (b : But p H H') (h : H p = some (.lst xs)) : KeepT H H' := fun c ys e => b c _ (fun z => by rw [z, h] at e; cases e) e
theorem Pool.keepT {p c : Addr} {b : Int} {H H' : Hp} (h : Pool H p c b) (k : But p H H') : KeepT H H' := by
  obtain ⟨ns, i, r, s, t, hp, _⟩ := h
  exact k.keepT hp
theorem Pool.same {p c : Addr} {b : Int} {H H' : Hp} (h : Pool H p c b) (k : Same H H') : Pool H' p c b := by
  obtain ⟨ns, i, r, s, t, hp, hc, h0, n⟩ := h
  exact ⟨ns, i, r, s, t, k _ _ hp, k _ _ hc, h0, n⟩
theorem Pool.upd {p c q : Addr} {b : Int} {H : Hp} (h : Pool H p c b) (n1 : q ≠ p) (n2 : q ≠ c) (o : HO) : Pool (L2.upd H q o) p c b := by
  obtain ⟨ns, i, r, s, t, hp, hc, h0, n⟩ := h
  exact ⟨ns, i, r, s, t, by rw [upd_ne n1.symm]; exact hp, by rw [upd_ne n2.symm]; exact hc, h0, n⟩
theorem Pool.ne2 {p c q : Addr} {b : Int} {H : Hp} (h : Pool H p c b) (e : H q = none) : q ≠ c := by
  obtain ⟨ns, i, r, s, t, hp, hc, _⟩ := h
  exact fun z => by rw [z, hc] at e; cases e
theorem Pool.ne {p c q : Addr} {b : Int} {H : Hp} (h : Pool H p c b) (e : H q = none) : q ≠ p := by
  obtain ⟨ns, i, r, s, t, hp, _⟩ := h
  exact fun z => by rw [z, hp] at e; cases e
/-- data of any make: tuples and lists that are tracked -/
inductive Da (H : Hp) : V → PyData → Prop
  | non : Da H .non .none
  | bl (b : Bool) : Da H (.bl b) (.bool b)
  | int (i : Int) : Da H (.int i) (.int i)
  | str (x : Str) : Da H (.str x) (.str x)
  | tup {a : Addr} {xs : List V} {ds : List PyData} : H a = some (.tup xs) → xs.length = ds.length → (∀ (i : Nat) v d, xs[i]? = some v → ds[i]? = some d → Da H v d) → Da H (.ref a) (.tuple ds)
  | lst {a : Addr} {xs : List V} {ds : List PyData} : H a = some (.lst xs) → xs.length = ds.length → (∀ (i : Nat) v d, xs[i]? = some v → ds[i]? = some d → Da H v d) → Da H (.ref a) (.list ds)
mutual
theorem Im.da {H : Hp} : ∀ {v : V} {d : PyData}, Im H v d → Da H v d
  | _, _, .non => .non
  | _, _, .bl b => .bl b
  | _, _, .int i => .int i
  | _, _, .str x => .str x
  | _, _, .tup h a => .tup h a.len (ImAll.da a)
theorem ImAll.da {H : Hp} : ∀ {vs : List V} {ds : List PyData}, ImAll H vs ds → ∀ (i : Nat) v d, vs[i]? = some v → ds[i]? = some d → Da H v d
  | _, _, .nil => fun i v d h _ => by simp at h
  | _, _, .cons h a => fun i v d h1 h2 => match i, h1, h2 with
    | 0, h1, h2 => by
      cases h1
      cases h2
      exact Im.da h
    | i + 1, h1, h2 => ImAll.da a i v d (by rw [List.getElem?_cons_succ] at h1; exact h1) (by rw [List.getElem?_cons_succ] at h2; exact h2)
end
theorem Da.strs {H : Hp} {a : Addr} {ys : List Str} (h : H a = some (.lst (ys.map V.str))) : Da H (.ref a) (.list (ys.map PyData.str)) := by
  refine .lst h (by rw [List.length_map, List.length_map]) fun i v d h1 h2 => ?_
  rw [List.getElem?_map] at h1 h2
  cases e : ys[i]? with
  | none => rw [e] at h1; cases h1
  | some y =>
    rw [e] at h1 h2
    cases h1
    cases h2
    exact .str y
theorem depth_get {ds : List PyData} {i : Nat} {d : PyData} : ds[i]? = some d → d.depth ≤ PyData.depthAll ds := by
  induction ds generalizing i with
  | nil => intro h; simp at h
  | cons x r ih =>
    intro h
    simp only [PyData.depthAll]
    cases i with
    | zero => cases h; exact Nat.le_max_left _ _
    | succ i => exact Nat.le_trans (ih (i := i) (by rw [List.getElem?_cons_succ] at h; exact h)) (Nat.le_max_right _ _)

theorem d_room {A : Around} {k : Nat} (h : Room k A) : A.units + 1 < cLine := by
  have := h.un
  omega
theorem eq_room {A : Around} {k : Nat} (h : Room k A) : A.units + 64 < cLine := by
  have := h.un
  omega
def signL : List Str := ["+", "-", "*", "/", "mod", "<", "=", "+", "-"]
def opL : List Str := ["+", "-", "*", "/", "mod", "<", "="]
/-- an expression -/
inductive Ex where
  | num (n : Int) | var (x : Str) | long | view (e : Ex) | pick (x : Str) (a b : Ex) | op (s : Str) (a b : Ex)
def Ex.deep : Ex → Nat
  | .num _ => 1 | .var _ => 1 | .long => 1 | .view e => e.deep + 1 | .pick _ a b => max a.deep b.deep + 1 | .op _ a b => max a.deep b.deep + 1
def Ex.Wf (ns ps : List Str) : Ex → Prop
  | .num n => 0 ≤ n ∧ n < 65536
  | .var x => x ∈ ns
  | .long => True
  | .view e => e.Wf ns ps
  | .pick x a b => x ∈ ps ∧ a.Wf ns ps ∧ b.Wf ns ps
  | .op s a b => s ∈ opL ∧ a.Wf ns ps ∧ b.Wf ns ps
/-- it stands at v -/
inductive Ev (H : Hp) : V → Ex → Prop
  | num {a : Addr} {n : Int} : H a = some (.tup [.str "number", .int n]) → Ev H (.ref a) (.num n)
  | var {a : Addr} {x : Str} : H a = some (.tup [.str "variable", .str x]) → Ev H (.ref a) (.var x)
  | long {a : Addr} : H a = some (.tup [.str "long"]) → Ev H (.ref a) .long
  | view {a : Addr} {v : V} {e : Ex} : H a = some (.tup [.str "view", v]) → Ev H v e → Ev H (.ref a) (.view e)
  | pick {a : Addr} {x : Str} {v w : V} {e f : Ex} : H a = some (.tup [.str "pick", .str x, v, w]) → Ev H v e → Ev H w f → Ev H (.ref a) (.pick x e f)
  | op {a : Addr} {s : Str} {v w : V} {e f : Ex} : H a = some (.tup [.str s, v, w]) → Ev H v e → Ev H w f → Ev H (.ref a) (.op s e f)
theorem Ev.keep {H H' : Hp} (k : KeepT H H') : ∀ {v : V} {e : Ex}, Ev H v e → Ev H' v e
  | _, _, .num h => .num (k _ _ h)
  | _, _, .var h => .var (k _ _ h)
  | _, _, .long h => .long (k _ _ h)
  | _, _, .view h a => .view (k _ _ h) (Ev.keep k a)
  | _, _, .pick h a b => .pick (k _ _ h) (Ev.keep k a) (Ev.keep k b)
  | _, _, .op h a b => .op (k _ _ h) (Ev.keep k a) (Ev.keep k b)
def comb (s : Str) (a b : Int) : Int :=
  if s = "+" then (a + b) % 65536 else if s = "-" then max (a - b) 0 else if s = "*" then a * b % 65536 else if s = "/" then (if 0 < b then a / b else 0) else
  if s = "mod" then (if 0 < b then a % b else 0) else if s = "<" then (if a < b then 1 else 0) else (if a = b then 1 else 0)
def Ex.val (tb : Str → Int) (on : Str → Bool) (sn : List Int) : Ex → Int
  | .num n => n
  | .var x => tb x
  | .long => min (sn.length : Int) 65535
  | .view e => sn.getD (e.val tb on sn).toNat 0
  | .pick x a b => if on x = true then a.val tb on sn else b.val tb on sn
  | .op s a b => comb s (a.val tb on sn) (b.val tb on sn)
def Bd (n : Int) : Prop := 0 ≤ n ∧ n < 65536
theorem comb_bd {s : Str} {a b : Int} (ha : Bd a) (hb : Bd b) : Bd (comb s a b) := by
  obtain ⟨a0, a1⟩ := ha
  obtain ⟨b0, b1⟩ := hb
  unfold comb Bd
  split
  · omega
  split
  · omega
  split
  · exact ⟨Int.emod_nonneg _ (by decide), Int.emod_lt_of_pos _ (by decide)⟩
  split
  · split
    · rename_i h
      have h1 : 0 ≤ a / b := Int.ediv_nonneg a0 b0
      have h2 : a / b ≤ a := Int.ediv_le_self _ a0
      omega
    · decide
  split
  · split
    · rename_i h
      have h1 : 0 ≤ a % b := Int.emod_nonneg _ (by omega)
      have h2 : a % b < b := Int.emod_lt_of_pos _ h
      omega
    · decide
  split
  · split <;> decide
  · split <;> decide
theorem getD_bd {sn : List Int} (h : ∀ n ∈ sn, Bd n) (i : Nat) : Bd (sn.getD i 0) := by
  rw [List.getD_eq_getElem?_getD]
  cases e : sn[i]? with
  | none => exact ⟨by decide, by decide⟩
  | some n => exact h n (List.mem_of_getElem? e)
theorem val_bd {ns ps : List Str} {tb : Str → Int} {on : Str → Bool} {sn : List Int} (ht : ∀ x ∈ ns, Bd (tb x)) (hs : ∀ n ∈ sn, Bd n) : ∀ e : Ex, e.Wf ns ps → Bd (e.val tb on sn)
  | .num n, h => h
  | .var x, h => ht x h
  | .long, _ => by
    show Bd (min (sn.length : Int) 65535)
    unfold Bd
    omega
  | .view e, h => getD_bd hs _
  | .pick x a b, h => by
    show Bd (if on x = true then a.val tb on sn else b.val tb on sn)
    split
    · exact val_bd ht hs a h.2.1
    · exact val_bd ht hs b h.2.2
  | .op s a b, h => comb_bd (val_bd ht hs a h.2.1) (val_bd ht hs b h.2.2)
/-- the tables and what is seen -/
def Tb (H : Hp) (ns ps : List Str) (t o : Addr) (tb : Str → Int) (on : Str → Bool) : Prop :=
  (∃ kvs, H t = some (.dK kvs) ∧ ∀ x ∈ ns, valV kvs (.inr x) = some (.int (tb x)) ∧ Bd (tb x)) ∧ ∃ kvs, H o = some (.dK kvs) ∧ ∀ x ∈ ps, valV kvs (.inr x) = some (.bl (on x))
theorem Tb.same {H H' : Hp} {ns ps : List Str} {t o : Addr} {tb : Str → Int} {on : Str → Bool} (h : Tb H ns ps t o tb on) (s : Same H H') : Tb H' ns ps t o tb on := by
  obtain ⟨⟨k1, h1, h2⟩, k2, h3, h4⟩ := h
  exact ⟨⟨k1, s _ _ h1, h2⟩, k2, s _ _ h3, h4⟩
theorem sqT_same {K : PySem.W.Frag} {H H' : Hp} {a : Addr} {xs : List V} (h : SqT K H a xs) (s : Same H H') : SqT K H' a xs := by
  rcases h with (h | ⟨o, h⟩) | h
  · exact .inl (.inl (s _ _ h))
  · exact .inl (.inr ⟨o, s _ _ h⟩)
  · exact .inr h
theorem opL_ne {s : Str} (h : s ∈ opL) : s ≠ "number" ∧ s ≠ "variable" ∧ s ≠ "long" ∧ s ≠ "view" ∧ s ≠ "pick" := by
  have : opL.all (fun s => decide (s ≠ "number" ∧ s ≠ "variable" ∧ s ≠ "long" ∧ s ≠ "view" ∧ s ≠ "pick")) = true := by decide +kernel
  exact of_decide_eq_true (List.all_eq_true.mp this s h)
theorem iteS {a : Str} {A B : Prop} (h : A) : if decide (V.str a = V.str a) = true then A else B := by
  rw [decide_eq_true rfl]
  exact iteT h
theorem iteN {a b : Str} {A B : Prop} (n : a ≠ b) (h : B) : if decide (V.str a = V.str b) = true then A else B := by
  rw [decide_eq_false fun z => n (V.str.inj z)]
  exact iteF h
theorem dget_of {H : Hp} {t : Addr} {x : Str} {v : V} {kvs : List (Key × V)} (h : H t = some (.dK kvs)) (e : valV kvs (.inr x) = some v) : DGet H t (.str x) (some v) := by
  rw [← e]
  exact DGet.k (k := .inr x) h
theorem num_ne : ("variable" : Str) ≠ "number" ∧ ("long" : Str) ≠ "number" ∧ ("view" : Str) ≠ "number" ∧ ("pick" : Str) ≠ "number" ∧ ("long" : Str) ≠ "variable" ∧ ("view" : Str) ≠ "variable" ∧ ("pick" : Str) ≠ "variable" ∧ ("view" : Str) ≠ "long" ∧ ("pick" : Str) ≠ "long" ∧ ("pick" : Str) ≠ "view" := by decide +kernel
theorem str_ne {a b : Str} (h : a ≠ b) : ¬ decide (V.str a = V.str b) = true := fun z => h (V.str.inj (of_decide_eq_true z))
theorem str_eq {a b : Str} (z : decide (V.str a = V.str b) = true) : a = b := V.str.inj (of_decide_eq_true z)
def ldS : Str := "abcdefghijklmnopqrstuvwxyz0123456789"
theorem strs_flat (ts : List Str) : (ts.map V.str).all flatV = true := by
  rw [List.all_eq_true]
  intro v m
  obtain ⟨x, _, rfl⟩ := List.mem_map.mp m
  rfl
theorem app_len (a b : Str) : (a ++ b).length = a.length + b.length := by
  show (a ++ b).cps.toList.length = a.cps.toList.length + b.cps.toList.length
  have : (a ++ b).cps.toList = a.cps.toList ++ b.cps.toList := by
    show (a.cps ++ b.cps).toList = _
    simp
  rw [this, List.length_append]
theorem pickS {z : Str} {r : Int} (h0 : 0 ≤ r) (h1 : r < (z.length : Int)) : ∃ c, c ∈ z.cps.toList ∧ atI z.cps.toList r = some c := by
  have hz : z.length = z.cps.toList.length := rfl
  have hlt : r.toNat < z.cps.toList.length := by omega
  exact ⟨z.cps.toList[r.toNat], List.getElem_mem hlt, at_ofG (j := r.toNat) (by omega) (List.getElem?_eq_getElem hlt)⟩
theorem pick {ss : List Str} {r : Int} (h0 : 0 ≤ r) (h1 : r < (ss.length : Int)) : ∃ w, w ∈ ss ∧ atI (ss.map V.str) r = some (.str w) := by
  have hlt : r.toNat < ss.length := by omega
  refine ⟨ss[r.toNat], List.getElem_mem hlt, at_ofG (j := r.toNat) (by omega) ?_⟩
  rw [List.getElem?_map, List.getElem?_eq_getElem hlt]
  rfl
theorem small_str {k : Int} (h0 : 0 ≤ k) (h1 : k < 1000) : (Str.ofString (toString k)).length ≤ 6 ∧ k.natAbs.log2 < 1920 := by
  obtain ⟨m, rfl⟩ := Int.eq_ofNat_of_zero_le h0
  constructor
  · have e : (Str.ofString (toString ((m : Nat) : Int))).cps.toList = TL.numL m := TL.tl_num m
    show (Str.ofString (toString ((m : Nat) : Int))).cps.toList.length ≤ 6
    rw [e]
    exact TL.numL_len (by decide) (by omega)
  · have : m.log2 ≤ 1919 := PySem.W.mg_log (Nat.lt_of_lt_of_le (show m < 1000 by omega) (by decide +kernel))
    show m.log2 < 1920
    omega
open Classical in
/-- the keys of names, each once -/
noncomputable def dk (l : List Str) : List Key := l.foldl (fun acc x => if Sum.inr x ∈ acc then acc else acc ++ [Sum.inr x]) []
open Classical in
theorem dk_snoc (l : List Str) (x : Str) : dk (l ++ [x]) = if Sum.inr x ∈ dk l then dk l else dk l ++ [Sum.inr x] := by
  unfold dk
  rw [List.foldl_append]
  rfl
open Classical in
theorem put_keys (kvs : List (Key × V)) (k : Key) (v : V) : (putK kvs k v).map (·.1) = if k ∈ kvs.map (·.1) then kvs.map (·.1) else kvs.map (·.1) ++ [k] := by
  unfold putK
  by_cases h : (kvs.any fun kv => decide (kv.1 = k)) = true
  · have hm : k ∈ kvs.map (·.1) := by
      obtain ⟨p, m, e⟩ := List.any_eq_true.mp h
      exact List.mem_map.mpr ⟨p, m, of_decide_eq_true e⟩
    rw [if_pos h, if_pos hm, List.map_map]
    refine List.map_congr_left fun p _ => ?_
    show (if p.1 = k then (p.1, v) else p).1 = p.1
    split <;> rfl
  · have hm : k ∉ kvs.map (·.1) := fun m => by
      obtain ⟨p, m, e⟩ := List.mem_map.mp m
      exact h (List.any_eq_true.mpr ⟨p, m, decide_eq_true e⟩)
    rw [if_neg h, if_neg hm, List.map_append]
    rfl
theorem mem_put {kvs : List (Key × V)} {k : Key} {v : V} {p : Key × V} (h : p ∈ putK kvs k v) : p = (k, v) ∨ p ∈ kvs := by
  unfold putK at h
  split at h
  · obtain ⟨q, m, e⟩ := List.mem_map.mp h
    by_cases c : q.1 = k
    · rw [if_pos c] at e
      exact .inl (by rw [← e, c])
    · rw [if_neg c] at e
      exact .inr (by rw [← e]; exact m)
  · rcases List.mem_append.mp h with m | m
    · exact .inr m
    · exact .inl (List.mem_singleton.mp m)
/-- a table of the names l -/
def TI (G : V → Prop) (kt : List (Key × V)) (l : List Str) : Prop := kt.map (·.1) = dk l ∧ ∀ x ∈ l, ∃ v, valV kt (.inr x) = some v ∧ G v
theorem TI.nil (G : V → Prop) : TI G [] [] := ⟨rfl, fun x m => by cases m⟩
theorem TI.put {G : V → Prop} {kt : List (Key × V)} {l : List Str} {x : Str} {v : V} (h : TI G kt l) (g : G v) : TI G (putK kt (.inr x) v) (l ++ [x]) := by
  refine ⟨by rw [put_keys, dk_snoc, h.1], fun y m => ?_⟩
  rw [valV_put]
  by_cases c : (Sum.inr y : Key) = Sum.inr x
  · exact ⟨v, if_pos c, g⟩
  · rw [if_neg c]
    rcases List.mem_append.mp m with m | m
    · exact h.2 y m
    · exact absurd (congrArg Sum.inr (List.mem_singleton.mp m)) c
open Classical in
theorem dk_len (l : List Str) : (dk l).length ≤ l.length := by
  have go : ∀ (l : List Str) (acc : List Key), (l.foldl (fun acc x => if Sum.inr x ∈ acc then acc else acc ++ [Sum.inr x]) acc).length ≤ acc.length + l.length := by
    intro l
    induction l with
    | nil => intro acc; exact Nat.le_refl _
    | cons a r ih =>
      intro acc
      refine Nat.le_trans (ih _) ?_
      rw [List.length_cons]
      show (if Sum.inr a ∈ acc then acc else acc ++ [Sum.inr a]).length + r.length ≤ acc.length + (r.length + 1)
      split
      · omega
      · rw [List.length_append]
        show acc.length + 1 + _ ≤ _
        omega
  have := go l []
  simpa [dk] using this
theorem TI.len {G : V → Prop} {kt : List (Key × V)} {l : List Str} (h : TI G kt l) : kt.length ≤ l.length := by
  have e : (kt.map (·.1)).length = kt.length := List.length_map _
  rw [← e, h.1]
  exact dk_len l
/-- a copy of the table's rows of the names l -/
def CI (kt kp : List (Key × V)) (l : List Str) : Prop := kp.map (·.1) = dk l ∧ (∀ p ∈ kp, valV kt p.1 = some p.2 ∧ flatB p.2 = true) ∧ ∀ x ∈ l, valV kp (.inr x) = valV kt (.inr x)
theorem CI.nil (kt : List (Key × V)) : CI kt [] [] := ⟨rfl, fun p m => (by cases m), fun x m => (by cases m)⟩
theorem CI.put {kt kp : List (Key × V)} {l : List Str} {x : Str} {v : V} (h : CI kt kp l) (e : valV kt (.inr x) = some v) (f : flatB v = true) : CI kt (putK kp (.inr x) v) (l ++ [x]) := by
  refine ⟨by rw [put_keys, dk_snoc, h.1], fun p m => ?_, fun y m => ?_⟩
  · rcases mem_put m with rfl | m
    · exact ⟨e, f⟩
    · exact h.2.1 p m
  · rw [valV_put]
    by_cases c : (Sum.inr y : Key) = Sum.inr x
    · rw [if_pos c, c, e]
    · rw [if_neg c]
      rcases List.mem_append.mp m with m | m
      · exact h.2.2 y m
      · exact absurd (congrArg Sum.inr (List.mem_singleton.mp m)) c
theorem CI.len {kt kp : List (Key × V)} {l : List Str} (h : CI kt kp l) : kp.length ≤ l.length := by
  have e : (kp.map (·.1)).length = kp.length := List.length_map _
  rw [← e, h.1]
  exact dk_len l
def GN (v : V) : Prop := ∃ n, v = .int n ∧ Bd n
def GB (v : V) : Prop := ∃ b, v = .bl b
theorem copy_eq {K : PySem.W.Frag} {H : Hp} {G : V → Prop} {kt kp : List (Key × V)} {l : List Str} {t d : Addr} (h : TI G kt l) (g : CI kt kp l) (ht : H t = some (.dK kt)) (hd : H d = some (.dK kp)) : EqV K H 2 (.ref d) (.ref t) := by
  refine .inr (.inr (.inr ⟨d, t, kp, kt, rfl, rfl, hd, ht, ?_, fun p m => ⟨p.2, (g.2.1 p m).1, .inl ⟨rfl, (g.2.1 p m).2⟩⟩⟩))
  have e1 : (kp.map (·.1)).length = kp.length := List.length_map _
  have e2 : (kt.map (·.1)).length = kt.length := List.length_map _
  rw [← e1, ← e2, h.1, g.1]
def tbOf (kt : List (Key × V)) (x : Str) : Int := match valV kt (.inr x) with
  | some (.int n) => n
  | _ => 0
def onOf (ko : List (Key × V)) (x : Str) : Bool := match valV ko (.inr x) with
  | some (.bl b) => b
  | _ => false
theorem tb_of {kt : List (Key × V)} {l : List Str} (h : TI GN kt l) : ∀ x ∈ l, valV kt (.inr x) = some (.int (tbOf kt x)) ∧ Bd (tbOf kt x) := fun x m => by
  obtain ⟨v, e, n, rfl, b⟩ := h.2 x m
  have k : tbOf kt x = n := by
    unfold tbOf
    rw [e]
  rw [k]
  exact ⟨e, b⟩
theorem on_of {ko : List (Key × V)} {l : List Str} (h : TI GB ko l) : ∀ x ∈ l, valV ko (.inr x) = some (.bl (onOf ko x)) := fun x m => by
  obtain ⟨v, e, n, rfl⟩ := h.2 x m
  have k : onOf ko x = n := by
    unfold onOf
    rw [e]
  rw [k]
  exact e
theorem take_snoc {ns : List Str} {i : Nat} {x : Str} (h : ns[i]? = some x) : ns.take (i + 1) = ns.take i ++ [x] := by
  rw [List.take_add_one, h]
  rfl
theorem str_of_map {ns : List Str} {i : Nat} {y : V} (hi : (ns.map V.str)[i]? = some y) : ∃ z, ns[i]? = some z ∧ y = V.str z := by
  rw [List.getElem?_map] at hi
  cases e : ns[i]? with
  | none => rw [e] at hi; cases hi
  | some u => rw [e] at hi; exact ⟨u, rfl, (Option.some.inj hi).symm⟩
/-- all that the law has made -/
structure Mid (H : Hp) (p t o sa pl d1 d2 : Addr) (v : V) (e : Ex) (kt ko kp kq : List (Key × V)) (sn : List Int) : Prop where
  ev : Ev H v e
  ht : H t = some (.dK kt)
  ho : H o = some (.dK ko)
  hs : H sa = some (.tup (sn.map V.int))
  hp : H pl = some (.lst [.ref d1, .ref d2])
  h1 : H d1 = some (.dK kp)
  h2 : H d2 = some (.dK kq)
  nt : t ≠ p
  no : o ≠ p
  ns : sa ≠ p
  np : pl ≠ p
  n1 : d1 ≠ p
  n2 : d2 ≠ p
theorem Mid.but {H H' : Hp} {p t o sa pl d1 d2 : Addr} {v : V} {e : Ex} {kt ko kp kq : List (Key × V)} {sn : List Int} (m : Mid H p t o sa pl d1 d2 v e kt ko kp kq sn) (b : But p H H') (k : KeepT H H') : Mid H' p t o sa pl d1 d2 v e kt ko kp kq sn :=
  ⟨m.ev.keep k, b _ _ m.nt m.ht, b _ _ m.no m.ho, b _ _ m.ns m.hs, b _ _ m.np m.hp, b _ _ m.n1 m.h1, b _ _ m.n2 m.h2, m.nt, m.no, m.ns, m.np, m.n1, m.n2⟩
theorem Mid.same {H H' : Hp} {p t o sa pl d1 d2 : Addr} {v : V} {e : Ex} {kt ko kp kq : List (Key × V)} {sn : List Int} (m : Mid H p t o sa pl d1 d2 v e kt ko kp kq sn) (s : Same H H') : Mid H' p t o sa pl d1 d2 v e kt ko kp kq sn :=
  m.but (but_of s) (keepT_of s)
/-- (0,) * k, k up to 100000 -/
def rRepW (K : PySem.W.Frag) : R2 := fun x y H Q => ∃ l k, x = .ref l ∧ y = .int k ∧ SqT K H l [.int 0] ∧ 2 ≤ k ∧ k ≤ 100000 ∧ ∀ p, H p = none → Q (.ref p) (upd H p (.tup (List.replicate k.toNat (.int 0))))
theorem op_repW {X : Cx} : OpR X (binaryOp .Mult) (rRepW X.K) := by
  intro pins s σ H x y v u Q I rx ry hyp
  obtain ⟨l, k, rfl, rfl, hT, k1, k2, q⟩ := hyp
  cases rx
  obtain ⟨tk, rfl⟩ := ry
  obtain ⟨its, rv, ⟨⟨oc, od, oda, osl⟩, g1, g2, m, g3⟩, _⟩ := I.tuple hT
  simp only at g2 g3
  subst g2 g3
  obtain ⟨w0, rfl⟩ : ∃ w0, its = [w0] := by
    cases rv with
    | cons a b => cases b; exact ⟨_, rfl⟩
  have hz : sizeLine = 16777216 := sizeLine_eq
  have e0 := size_rep [w0] k.toNat
  have e1 : (List.replicate k.toNat [w0]).flatten.length = k.toNat := by simp
  have y0 : (decide (k < -(2 ^ 63)) || decide (k ≥ 2 ^ 63)) = false := by
    rw [Bool.or_eq_false_iff, decide_eq_false_iff_not, decide_eq_false_iff_not]
    omega
  have y1 : ([w0].toArray.isEmpty || k == 1) = false := by
    rw [Bool.or_eq_false_iff]
    exact ⟨rfl, beq_eq_false_iff_ne.mpr (by omega)⟩
  have y2 : (decide (k ≤ 0) || [w0].toArray.isEmpty) = false := by
    rw [Bool.or_eq_false_iff, decide_eq_false_iff_not]
    exact ⟨by omega, rfl⟩
  have y3 : ¬ (([w0].toArray.size : Nat) : Int) * k > (2 ^ 63 - 1) / 8 := by
    show ¬ (1 : Int) * k > (2 ^ 63 - 1) / 8
    omega
  have y4 : Builtin.Tuple.tupleTooMany ((([w0].toArray.size : Nat) : Int) * k) = false := by
    show decide ((1 : Int) * k > (sizeLine : Int)) = false
    rw [decide_eq_false_iff_not]
    omega
  have y5 : (List.foldl (fun x1 x2 => x1 ++ x2) #[] (List.replicate k.toNat [w0].toArray)).size ≤ sizeLine := by
    rw [e0, List.size_toArray, e1]
    omega
  refine wpAny_binaryOp_repeat_ref (T := "tuple") (U := "int") (by decide) ⟨_, g1, rfl⟩ (fun s2 => typeIs_int s2 k tk)
    noFill_tuple_mul F.fills_int_mul F.slot_int_rmul repeat_tuple F.slot_int_index.lookup ?_
  refine call_meets F.slot_int_rmul (typeIs_int s k tk) F.entry_int_rmul (F.args_int_rmul_2 _ _) (int_rmul_tuple k tk l [w0].toArray m od osl) ⟨g1, rfl, ⟨_, g1, rfl⟩, ?_⟩
  refine call_meets F.slot_tuple_mul ⟨_, g1, rfl⟩ F.entry_tuple_mul (F.args_tuple_mul_2 _ _) (tuple_mulW l [w0].toArray m od osl k tk y0 y1 y2 y3 y4 y5) ⟨g1, ?_⟩
  rw [e0]
  refine ⟨.ref s.heap.objs.size, _, I.laid (t' := s.toks) (o := .tup (List.replicate k.toNat (V.int 0))) (fun b ob z => Heap.get?_push_of_some _ z) (Nat.le_refl _) ?_, rfl, q _ (I.hok.fresh (Nat.le_refl _))⟩
  refine ⟨by rw [List.length_replicate]; omega, _, ?_, IsTup.new _ _⟩
  have rr := rv.rep k.toNat
  rw [List.flatten_replicate_singleton] at rr
  exact rr
theorem Pool.butd {p c d : Addr} {b : Int} {H H' : Hp} (h : Pool H p c b) (k : But d H H') (n1 : d ≠ p) (n2 : d ≠ c) : Pool H' p c b := by
  obtain ⟨ns, i, r, s, t, hp, hc, h0, n⟩ := h
  exact ⟨ns, i, r, s, t, k _ _ n1.symm hp, k _ _ n2.symm hc, h0, n⟩
theorem But.keepD {d : Addr} {kvs : List (Key × V)} {H H' : Hp} (b : But d H H') (h : H d = some (.dK kvs)) : KeepT H H' := fun c ys e => b c _ (fun z => by rw [z, h] at e; cases e) e
theorem tb_env {H : Hp} {ns ps : List Str} {t o : Addr} {kt ko : List (Key × V)} (ht : H t = some (.dK kt)) (ho : H o = some (.dK ko)) (h : TI GN kt ns) (g : TI GB ko ps) : Tb H ns ps t o (tbOf kt) (onOf ko) :=
  ⟨⟨kt, ht, tb_of h⟩, ko, ho, on_of g⟩
theorem cp_env {H : Hp} {ns ps : List Str} {t o : Addr} {kt ko kp kq : List (Key × V)} (ht : H t = some (.dK kp)) (ho : H o = some (.dK kq)) (h : TI GN kt ns) (g : TI GB ko ps) (i : CI kt kp ns) (j : CI ko kq ps) : Tb H ns ps t o (tbOf kt) (onOf ko) :=
  ⟨⟨kp, ht, fun x m => ⟨(i.2.2 x m).trans (tb_of h x m).1, (tb_of h x m).2⟩⟩, kq, ho, fun x m => (j.2.2 x m).trans (on_of g x m)⟩

/-! ### names that the law draws -/
def kwL : List Str := ["option", "on", "off", "var", "round", "end", "set", "if", "else", "when", "draw", "first", "second", "show", "both", "pay", "take", "pick", "mod", "player", "keep", "lot", "while", "answer", "view", "long"]
theorem kw_split : Txt.split (("option on off var round end set if else when draw first second show both pay take pick mod player keep lot" : Str) ++ (" while answer view long" : Str)) (" " : Str) = kwL := by decide +kernel
def LetC (c : Nat) : Prop := 97 ≤ c ∧ c ≤ 122
def NmC (c : Nat) : Prop := LetC c ∨ (48 ≤ c ∧ c ≤ 57)
def NmF (x : Str) : Prop := ∃ c r, x.cps.toList = c :: r ∧ LetC c ∧ (∀ d ∈ r, NmC d) ∧ r.length ≤ 11
/-- a name -/
def Nm (x : Str) : Prop := NmF x ∧ x ∉ kwL
theorem NmF.lt {x : Str} (h : NmF x) : ∀ c ∈ x.cps.toList, c < 128 := by
  obtain ⟨c, r, e, h1, h2, _⟩ := h
  intro d m
  rw [e] at m
  rcases List.mem_cons.mp m with rfl | m
  · have := h1.2
    omega
  · rcases h2 d m with h | h
    · have := h.2
      omega
    · omega
theorem NmF.ok {x : Str} (h : NmF x) : PyData.strOk x = true := by
  unfold PyData.strOk
  rw [Array.all_eq_true_iff_forall_mem]
  intro c m
  have := h.lt c (Array.mem_toList_iff.mpr m)
  simp
  omega
theorem NmF.len {x : Str} (h : NmF x) : x.length ≤ 12 := by
  obtain ⟨c, r, e, _, _, h3⟩ := h
  show x.cps.toList.length ≤ 12
  rw [e, List.length_cons]
  omega
theorem app_cps (a b : Str) : (a ++ b).cps.toList = a.cps.toList ++ b.cps.toList := by
  show (a.cps ++ b.cps).toList = _
  simp
def vS (k : Nat) : Str := ("v" : Str) ++ Str.ofString (toString ((k : Nat) : Int))
theorem vS_cps (k : Nat) : (vS k).cps.toList = 118 :: TL.numL k := by
  unfold vS
  have e : (Str.ofString (toString ((k : Nat) : Int))).cps.toList = TL.numL k := TL.tl_num k
  rw [app_cps, e]
  rfl
theorem vS_nm {k : Nat} (h : k < 20) : Nm (vS k) := by
  refine ⟨⟨118, TL.numL k, vS_cps k, ⟨by decide, by decide⟩, fun d m => .inr (TL.numL_digits k d m), ?_⟩, ?_⟩
  · have := TL.numL_len (n := k) (k := 2) (by decide) (by omega)
    omega
  · have : (List.range 20).all (fun k => decide (vS k ∉ kwL)) = true := by decide +kernel
    exact of_decide_eq_true (List.all_eq_true.mp this k (List.mem_range.mpr h))
theorem nodup_le {α : Type} [DecidableEq α] : ∀ {l ts : List α}, l.Nodup → (∀ x ∈ l, x ∈ ts) → l.length ≤ ts.length
  | [], _, _, _ => Nat.zero_le _
  | a :: r, ts, nd, h => by
    rw [List.nodup_cons] at nd
    have ih := nodup_le (l := r) (ts := ts.erase a) nd.2 fun x m => (List.mem_erase_of_ne (fun e => nd.1 (by rw [← e]; exact m))).mpr (h x (List.mem_cons_of_mem _ m))
    have ma := h a List.mem_cons_self
    rw [List.length_erase_of_mem ma] at ih
    have : 0 < ts.length := List.length_pos_of_mem ma
    rw [List.length_cons]
    omega
theorem vS_free {ts : List Str} (h : ts.length < 20) : ¬ ∀ k, k < 20 → vS k ∈ ts := fun z => by
  have nd : ((List.range 20).map vS).Nodup := by decide +kernel
  have := nodup_le nd fun x m => by
    obtain ⟨k, mk, rfl⟩ := List.mem_map.mp m
    exact z k (List.mem_range.mp mk)
  rw [List.length_map, List.length_range] at this
  omega
def ldN : Str := "abcdefghijklmnopqrstuvwxyz0123456789"
theorem ld_let {r : Int} (h0 : 0 ≤ r) (h1 : r < 26) : ∃ c, atI ldN.cps.toList r = some c ∧ LetC c := by
  have hl : ldN.cps.toList.length = 36 := by decide +kernel
  have hlt : r.toNat < ldN.cps.toList.length := by omega
  refine ⟨ldN.cps.toList[r.toNat], at_ofG (j := r.toNat) (by omega) (List.getElem?_eq_getElem hlt), ?_⟩
  have : (List.range 26).all (fun i => decide (97 ≤ ldN.cps.toList.getD i 0 ∧ ldN.cps.toList.getD i 0 ≤ 122)) = true := by decide +kernel
  have := of_decide_eq_true (List.all_eq_true.mp this r.toNat (List.mem_range.mpr (by omega)))
  rw [List.getD_eq_getElem?_getD, List.getElem?_eq_getElem hlt] at this
  exact this
theorem ld_nm {r : Int} (h0 : 0 ≤ r) (h1 : r < 36) : ∃ c, atI ldN.cps.toList r = some c ∧ NmC c := by
  have hl : ldN.cps.toList.length = 36 := by decide +kernel
  have hlt : r.toNat < ldN.cps.toList.length := by omega
  refine ⟨ldN.cps.toList[r.toNat], at_ofG (j := r.toNat) (by omega) (List.getElem?_eq_getElem hlt), ?_⟩
  have : (List.range 36).all (fun i => decide ((97 ≤ ldN.cps.toList.getD i 0 ∧ ldN.cps.toList.getD i 0 ≤ 122) ∨ (48 ≤ ldN.cps.toList.getD i 0 ∧ ldN.cps.toList.getD i 0 ≤ 57))) = true := by decide +kernel
  have := of_decide_eq_true (List.all_eq_true.mp this r.toNat (List.mem_range.mpr (by omega)))
  rw [List.getD_eq_getElem?_getD, List.getElem?_eq_getElem hlt] at this
  exact this
theorem inV_strs {x : Str} : ∀ {l : List Str}, inV (.str x) (l.map V.str) = decide (x ∈ l)
  | [] => by simp [inV]
  | y :: r => by
    have ih := inV_strs (x := x) (l := r)
    unfold inV at ih ⊢
    rw [List.map_cons, List.any_cons, ih]
    have e : eqV (V.str y) (V.str x) = decide (x = y) := by
      show (y == x) = _
      by_cases h : x = y
      · rw [decide_eq_true h, h]
        exact beq_self_eq_true y
      · rw [decide_eq_false h]
        exact beq_eq_false_iff_ne.mpr fun z => h z.symm
    rw [e]
    by_cases h1 : x = y <;> by_cases h2 : x ∈ r <;> simp [h1, h2]
/-- the last one of v0 to v19 that is free -/
def VW (ts : List Str) (x0 : Str) (i : Nat) (x : Str) : Prop := (Nm x ∧ x ∉ ts) ∨ (x = x0 ∧ ∀ k, k < i → vS k ∈ ts)
theorem VW.next {ts : List Str} {x0 x : Str} {i : Nat} (h : VW ts x0 i x) (m : vS i ∈ ts) : VW ts x0 (i + 1) x := by
  rcases h with h | ⟨e, h⟩
  · exact .inl h
  · refine .inr ⟨e, fun k z => ?_⟩
    by_cases c : k = i
    · rw [c]
      exact m
    · exact h k (by omega)
theorem VW.fin {ts : List Str} {x0 x : Str} (h : VW ts x0 20 x) (l : ts.length < 20) : Nm x ∧ x ∉ ts := by
  rcases h with h | ⟨_, h⟩
  · exact h
  · exact absurd h (vS_free l)
theorem vS_val (i : Nat) : ("v" : Str) ++ Str.ofString (toString (0 + (i : Int))) = vS i := by
  rw [Int.zero_add]
  rfl
theorem not_in {x : Str} {l : List Str} (c : (!inV (.str x) (l.map V.str)) = true) : x ∉ l := by
  rw [inV_strs] at c
  exact fun m => by
    rw [decide_eq_true m] at c
    cases c
theorem is_in {x : Str} {l : List Str} (c : ¬ (!inV (.str x) (l.map V.str)) = true) : x ∈ l := by
  rw [inV_strs] at c
  exact Decidable.byContradiction fun m => c (by rw [decide_eq_false m]; rfl)
theorem inv_t {x : Str} {l : List Str} (c : inV (.str x) (l.map V.str) = true) : x ∈ l := by
  rw [inV_strs] at c
  exact of_decide_eq_true c
theorem inv_f {x : Str} {l : List Str} (c : ¬ inV (.str x) (l.map V.str) = true) : x ∉ l := by
  rw [inV_strs] at c
  exact fun m => c (decide_eq_true m)

/-! ### brains -/
inductive Bt where
  | set (x : Str) (e : Ex)
  | lot (x : Str) (e : Ex)
  | ite (e : Ex) (t f : List Bt)
  | whl (e : Ex) (b : List Bt)
mutual
def Bt.Wf (ns : List Str) : Bt → Prop
  | .set x e => x ∈ ns ∧ e.Wf ns [] ∧ e.deep ≤ 13
  | .lot x e => x ∈ ns ∧ e.Wf ns [] ∧ e.deep ≤ 13
  | .ite e t f => (e.Wf ns [] ∧ e.deep ≤ 13) ∧ bwL ns t ∧ bwL ns f
  | .whl e b => (e.Wf ns [] ∧ e.deep ≤ 13) ∧ bwL ns b
def bwL (ns : List Str) : List Bt → Prop
  | [] => True
  | s :: r => s.Wf ns ∧ bwL ns r
end
theorem bwL_app {ns : List Str} : ∀ {a b : List Bt}, bwL ns a → bwL ns b → bwL ns (a ++ b)
  | [], _, _, h => h
  | _ :: _, _, h, g => ⟨h.1, bwL_app h.2 g⟩
theorem bwL_get {ns : List Str} : ∀ {a : List Bt} {i : Nat} {s : Bt}, bwL ns a → a[i]? = some s → s.Wf ns
  | [], _, _, _, h => by simp at h
  | _ :: _, 0, _, h, e => by cases e; exact h.1
  | _ :: _, i + 1, _, h, e => bwL_get (i := i) h.2 (by rw [List.getElem?_cons_succ] at e; exact e)
mutual
def Bt.lv : Bt → Nat
  | .ite _ t f => max (blv t) (blv f) + 1
  | .whl _ b => blv b + 1
  | .set _ _ => 0
  | .lot _ _ => 0
def blv : List Bt → Nat
  | [] => 0
  | s :: r => max s.lv (blv r)
end
theorem blv_app : ∀ (a b : List Bt), blv (a ++ b) = max (blv a) (blv b)
  | [], b => by show blv b = max 0 (blv b); omega
  | s :: r, b => by
    show max s.lv (blv (r ++ b)) = max (max s.lv (blv r)) (blv b)
    rw [blv_app r b]
    omega
theorem blv_get : ∀ {a : List Bt} {i : Nat} {s : Bt}, a[i]? = some s → s.lv ≤ blv a
  | [], _, _, h => by simp at h
  | s :: r, 0, _, e => by cases e; show s.lv ≤ max s.lv (blv r); omega
  | s :: r, i + 1, _, e => by
    have := blv_get (a := r) (i := i) (by rw [List.getElem?_cons_succ] at e; exact e)
    show _ ≤ max s.lv (blv r)
    omega
mutual
inductive Sb (H : Hp) : V → Bt → Prop
  | set {a : Addr} {x : Str} {v : V} {e : Ex} : H a = some (.tup [.str "set", .str x, v]) → Ev H v e → Sb H (.ref a) (.set x e)
  | lot {a : Addr} {x : Str} {v : V} {e : Ex} : H a = some (.tup [.str "lot", .str x, v]) → Ev H v e → Sb H (.ref a) (.lot x e)
  | ite {a b c : Addr} {v : V} {e : Ex} {vs ws : List V} {t f : List Bt} : H a = some (.tup [.str "if", v, .ref b, .ref c]) → Ev H v e → H b = some (.tup vs) → Bb H vs t → H c = some (.tup ws) → Bb H ws f → Sb H (.ref a) (.ite e t f)
  | whl {a b : Addr} {v : V} {e : Ex} {vs : List V} {t : List Bt} : H a = some (.tup [.str "while", v, .ref b]) → Ev H v e → H b = some (.tup vs) → Bb H vs t → Sb H (.ref a) (.whl e t)
inductive Bb (H : Hp) : List V → List Bt → Prop
  | nil : Bb H [] []
  | cons {v : V} {vs : List V} {s : Bt} {ss : List Bt} : Sb H v s → Bb H vs ss → Bb H (v :: vs) (s :: ss)
end
section
variable {H H' : Hp}
mutual
theorem Sb.keep (k : KeepT H H') : ∀ {v : V} {s : Bt}, Sb H v s → Sb H' v s
  | _, _, .set h e => .set (k _ _ h) (e.keep k)
  | _, _, .lot h e => .lot (k _ _ h) (e.keep k)
  | _, _, .ite h e b t c f => .ite (k _ _ h) (e.keep k) (k _ _ b) (Bb.keep k t) (k _ _ c) (Bb.keep k f)
  | _, _, .whl h e b t => .whl (k _ _ h) (e.keep k) (k _ _ b) (Bb.keep k t)
theorem Bb.keep (k : KeepT H H') : ∀ {vs : List V} {ss : List Bt}, Bb H vs ss → Bb H' vs ss
  | _, _, .nil => .nil
  | _, _, .cons h t => .cons (Sb.keep k h) (Bb.keep k t)
end
theorem Bb.get : ∀ {vs : List V} {ss : List Bt} {i : Nat} {v : V}, Bb H vs ss → vs[i]? = some v → ∃ s, ss[i]? = some s ∧ Sb H v s
  | _, _, _, _, .nil, e => by simp at e
  | _, _, 0, _, .cons h _, e => by cases e; exact ⟨_, rfl, h⟩
  | _, _, i + 1, _, .cons _ t, e => by
    rw [List.getElem?_cons_succ] at e ⊢
    exact Bb.get t e
theorem Bb.get' : ∀ {vs : List V} {ss : List Bt} {i : Nat} {s : Bt}, Bb H vs ss → ss[i]? = some s → ∃ v, vs[i]? = some v ∧ Sb H v s
  | _, _, _, _, .nil, e => by simp at e
  | _, _, 0, _, .cons h _, e => by cases e; exact ⟨_, rfl, h⟩
  | _, _, i + 1, _, .cons _ t, e => by
    rw [List.getElem?_cons_succ] at e ⊢
    exact Bb.get' t e
theorem Bb.len : ∀ {vs : List V} {ss : List Bt}, Bb H vs ss → vs.length = ss.length
  | _, _, .nil => rfl
  | _, _, .cons _ t => by rw [List.length_cons, List.length_cons, Bb.len t]
theorem Bb.app : ∀ {vs ws : List V} {ss ts : List Bt}, Bb H vs ss → Bb H ws ts → Bb H (vs ++ ws) (ss ++ ts)
  | _, _, _, _, .nil, b => b
  | _, _, _, _, .cons h t, b => .cons h (Bb.app t b)
theorem Bb.one {v : V} {s : Bt} (h : Sb H v s) : Bb H [v] [s] := .cons h .nil
end
/-- a block stands at v -/
def Bx (H : Hp) (v : V) (ss : List Bt) : Prop := ∃ b vs, v = .ref b ∧ H b = some (.tup vs) ∧ Bb H vs ss
theorem Bx.keep {H H' : Hp} {v : V} {ss : List Bt} (k : KeepT H H') (h : Bx H v ss) : Bx H' v ss := by
  obtain ⟨b, vs, e, t, w⟩ := h
  exact ⟨b, vs, e, k _ _ t, w.keep k⟩
/-! ### what a brain does: the statements that are still to do, one unit each -/
abbrev offB : Str → Bool := fun _ => false
def putT (tb : Str → Int) (x : Str) (v : Int) : Str → Int := fun y => if y = x then v else tb y
inductive Res where
  | done (u : Nat) (tb : Str → Int) (tk : List (Int × Int))
  | out (tk : List (Int × Int))
def runM (sn : List Int) (fl : Nat → Int → Int) : Nat → List Bt → (Str → Int) → List (Int × Int) → Res
  | 0, [], tb, tk => .done 0 tb tk
  | 0, _ :: _, _, tk => .out tk
  | u + 1, [], tb, tk => .done (u + 1) tb tk
  | u + 1, .set x e :: r, tb, tk => runM sn fl u r (putT tb x (e.val tb offB sn)) tk
  | u + 1, .lot x e :: r, tb, tk =>
    if 0 < e.val tb offB sn then runM sn fl u r (putT tb x (fl tk.length (e.val tb offB sn))) (tk ++ [(fl tk.length (e.val tb offB sn), e.val tb offB sn)])
    else runM sn fl u r (putT tb x (e.val tb offB sn)) tk
  | u + 1, .ite e t f :: r, tb, tk => runM sn fl u ((if e.val tb offB sn ≠ 0 then t else f) ++ r) tb tk
  | u + 1, .whl e b :: r, tb, tk => if e.val tb offB sn ≠ 0 then runM sn fl u (b ++ .whl e b :: r) tb tk else runM sn fl u r tb tk
theorem runM_nil {sn : List Int} {fl : Nat → Int → Int} {u : Nat} {tb : Str → Int} {tk : List (Int × Int)} : runM sn fl u [] tb tk = .done u tb tk := by
  cases u <;> rfl
/-- what a pending lot goes on with -/
def pend (sn : List Int) (fl : Nat → Int → Int) (u : Nat) (r : List Bt) (tb : Str → Int) (tk : List (Int × Int)) : Option (Str × Int) → Res
  | none => runM sn fl u r tb tk
  | some (x, n) => runM sn fl u r (putT tb x (fl tk.length n)) (tk ++ [(fl tk.length n, n)])
/-- the stack of blocks, each with its next index, the inner ones last -/
abbrev Stk := List (List Bt × Nat)
def flat : Stk → List Bt
  | [] => []
  | p :: r => flat r ++ p.1.drop p.2
theorem flat_snoc : ∀ (s : Stk) (p : List Bt × Nat), flat (s ++ [p]) = p.1.drop p.2 ++ flat s
  | [], p => by
    show [] ++ p.1.drop p.2 = p.1.drop p.2 ++ []
    rw [List.append_nil, List.nil_append]
  | q :: r, p => by
    show flat (r ++ [p]) ++ q.1.drop q.2 = p.1.drop p.2 ++ (flat r ++ q.1.drop q.2)
    rw [flat_snoc r p, List.append_assoc]
/-- each block has something left -/
def StkOk (s : Stk) : Prop := ∀ p ∈ s, p.2 < p.1.length
theorem StkOk.nil : StkOk [] := fun _ m => by cases m
theorem StkOk.snoc {s : Stk} {p : List Bt × Nat} (h : StkOk s) (g : p.2 < p.1.length) : StkOk (s ++ [p]) := fun q m => (List.mem_append.mp m).elim (h q) fun m => by rw [List.mem_singleton.mp m]; exact g
theorem StkOk.init {s : Stk} {p : List Bt × Nat} (h : StkOk (s ++ [p])) : StkOk s ∧ p.2 < p.1.length := ⟨fun q m => h q (List.mem_append_left _ m), h p (List.mem_append_right _ (List.mem_singleton.mpr rfl))⟩
def StkW (ns : List Str) (s : Stk) : Prop := ∀ p ∈ s, bwL ns p.1
theorem StkW.snoc {ns : List Str} {s : Stk} {p : List Bt × Nat} (h : StkW ns s) (g : bwL ns p.1) : StkW ns (s ++ [p]) := fun q m => (List.mem_append.mp m).elim (h q) fun m => by rw [List.mem_singleton.mp m]; exact g
def enter (s : Stk) (b : List Bt) : Stk := if b = [] then s else s ++ [(b, 0)]
theorem enter_flat {s : Stk} {b : List Bt} : flat (enter s b) = b ++ flat s := by
  unfold enter
  split
  · rename_i h
    rw [h]
    rfl
  · rw [flat_snoc]
    rfl
theorem enter_ok {s : Stk} {b : List Bt} (h : StkOk s) : StkOk (enter s b) := by
  unfold enter
  split
  · exact h
  · rename_i g
    exact h.snoc (List.length_pos_iff.mpr g)
theorem enter_w {ns : List Str} {s : Stk} {b : List Bt} (h : StkW ns s) (g : bwL ns b) : StkW ns (enter s b) := by
  unfold enter
  split
  · exact h
  · exact h.snoc g
theorem enter_len {s : Stk} {b : List Bt} : (enter s b).length ≤ s.length + 1 := by
  unfold enter
  split
  · omega
  · rw [List.length_append]
    exact Nat.le_refl _
/-- a table of the names at t -/
def DT (H : Hp) (t : Addr) (ns : List Str) (tb : Str → Int) : Prop := ∃ kvs : List (Key × V), H t = some (.dK kvs) ∧ kvs.length ≤ 100 ∧ (∀ x ∈ ns, Sum.inr x ∈ kvs.map (·.1)) ∧ ∀ x ∈ ns, valV kvs (.inr x) = some (.int (tb x)) ∧ Bd (tb x)
theorem DT.same {H H' : Hp} {t : Addr} {ns : List Str} {tb : Str → Int} (h : DT H t ns tb) (s : Same H H') : DT H' t ns tb := by
  obtain ⟨k, e, r⟩ := h
  exact ⟨k, s _ _ e, r⟩
theorem DT.env {H : Hp} {t o : Addr} {ns : List Str} {tb : Str → Int} (h : DT H t ns tb) (ho : H o = some (.dK [])) : Tb H ns [] t o tb offB := by
  obtain ⟨k, e, _, _, r⟩ := h
  exact ⟨⟨k, e, r⟩, [], ho, fun x m => by cases m⟩
theorem DT.bd {H : Hp} {t : Addr} {ns : List Str} {tb : Str → Int} (h : DT H t ns tb) : ∀ x ∈ ns, Bd (tb x) := by
  obtain ⟨k, e, _, _, r⟩ := h
  exact fun x m => (r x m).2
theorem put_len {kvs : List (Key × V)} {k : Key} {v : V} (h : k ∈ kvs.map (·.1)) : (putK kvs k v).length = kvs.length := by
  have e := congrArg List.length (put_keys kvs k v)
  rw [if_pos h, List.length_map, List.length_map] at e
  exact e
theorem DT.put {H' : Hp} {t : Addr} {ns : List Str} {tb : Str → Int} {x : Str} {v : Int} {kvs : List (Key × V)} (h1 : kvs.length ≤ 100) (h2 : ∀ x ∈ ns, Sum.inr x ∈ kvs.map (·.1)) (h3 : ∀ x ∈ ns, valV kvs (.inr x) = some (.int (tb x)) ∧ Bd (tb x)) (m : x ∈ ns) (b : Bd v)
    (e : H' t = some (.dK (putK kvs (.inr x) (.int v)))) : DT H' t ns (putT tb x v) := by
  refine ⟨_, e, by rw [put_len (h2 x m)]; exact h1, fun y my => ?_, fun y my => ?_⟩
  · rw [put_keys, if_pos (h2 x m)]
    exact h2 y my
  · rw [valV_put]
    unfold putT
    by_cases c : y = x
    · rw [if_pos (congrArg Sum.inr c), if_pos c]
      exact ⟨rfl, b⟩
    · rw [if_neg (fun z => c (Sum.inr.inj z)), if_neg c]
      exact h3 y my
/-- the objects of one thought -/
structure Thk where
  (br be sa t : Addr)
def thF (k : Thk) (u : Nat) (td : Addr) (si : Bool) (cv rv : V) : List (Str × V) :=
  [("_brain", .ref k.br), ("_before", .ref k.be), ("_seen", .ref k.sa), ("_table", .ref k.t), ("_left", .int u), ("_todo", .ref td), ("_silent", .bl si), ("_cell", cv), ("results", rv)]
/-- an entry of the stack -/
def TdV (H : Hp) (v : V) (p : List Bt × Nat) : Prop := ∃ a b, v = .ref a ∧ H a = some (.tup [b, .int (p.2 : Nat)]) ∧ Bx H b p.1
theorem TdV.keep {H H' : Hp} (k : KeepT H H') {v : V} {p : List Bt × Nat} (h : TdV H v p) : TdV H' v p := by
  obtain ⟨a, b, e, q, w⟩ := h
  exact ⟨a, b, e, k _ _ q, w.keep k⟩
/-- a brain's object -/
def BrainAt (C : Addr) (H : Hp) (x : Addr) (u : Int) (ca bl : Addr) (an : V) : Prop := ∃ dx, H x = some (.ins C dx [("units", .int u), ("cells", .ref ca), ("block", .ref bl), ("answer", an)])
/-- the cells: pairs of a name and a value -/
def CellV (H : Hp) (v : V) (p : Str × Int) : Prop := ∃ a, v = .ref a ∧ H a = some (.tup [.str p.1, .int p.2])
theorem CellV.keep {H H' : Hp} (k : KeepT H H') {v : V} {p : Str × Int} (h : CellV H v p) : CellV H' v p := by
  obtain ⟨a, e, q⟩ := h
  exact ⟨a, e, k _ _ q⟩
theorem same_at {H H' : Hp} {S : Addr} {o : HO} (s : Same H H') (f : H S = none) : Same H (upd H' S o) := fun b x e => by
  rw [upd_ne (ne_of_none e f)]
  exact s b x e


/-! ### attributes by their places -/
theorem lk_ix {fs : List (Str × V)} {f : Str} {v : V} (nd : (fs.map (·.1)).Nodup) (i : Nat) (h : fs[i]? = some (f, v)) : fs.lookup f = some v := by
  induction fs generalizing i with
  | nil => simp at h
  | cons p r ih =>
    obtain ⟨g, x⟩ := p
    rw [List.map_cons, List.nodup_cons] at nd
    cases i with
    | zero =>
      cases h
      have hb : (f == f) = true := beq_self_eq_true f
      simp only [List.lookup, hb]
    | succ i =>
      rw [List.getElem?_cons_succ] at h
      have hm : f ∈ r.map (·.1) := List.mem_map.mpr ⟨(f, v), List.mem_of_getElem? h, rfl⟩
      have hb : (f == g) = false := beq_eq_false_iff_ne.mpr fun e => nd.1 (e ▸ hm)
      simp only [List.lookup, hb]
      exact ih nd.2 i h
theorem lk_none {fs : List (Str × V)} {f : Str} (h : f ∉ fs.map (·.1)) : fs.lookup f = none := by
  induction fs with
  | nil => rfl
  | cons p r ih =>
    obtain ⟨g, x⟩ := p
    rw [List.map_cons, List.mem_cons, not_or] at h
    have hb : (f == g) = false := beq_eq_false_iff_ne.mpr h.1
    simp only [List.lookup, hb]
    exact ih h.2
theorem pf_ix {fs : List (Str × V)} {f : Str} {v x : V} (nd : (fs.map (·.1)).Nodup) (i : Nat) (h : fs[i]? = some (f, x)) : putF f v fs = fs.set i (f, v) := by
  induction fs generalizing i with
  | nil => simp at h
  | cons p r ih =>
    obtain ⟨g, y⟩ := p
    rw [List.map_cons, List.nodup_cons] at nd
    cases i with
    | zero =>
      cases h
      show (if f = f then _ else _) = _
      rw [if_pos rfl]
      rfl
    | succ i =>
      rw [List.getElem?_cons_succ] at h
      have hm : f ∈ r.map (·.1) := List.mem_map.mpr ⟨(f, x), List.mem_of_getElem? h, rfl⟩
      show (if g = f then _ else _) = _
      rw [if_neg (show ¬ g = f from fun e => nd.1 (e ▸ hm)), ih nd.2 i h]
      rfl
theorem pf_new {fs : List (Str × V)} {f : Str} {v : V} (h : f ∉ fs.map (·.1)) : putF f v fs = fs ++ [(f, v)] := by
  induction fs with
  | nil => rfl
  | cons p r ih =>
    obtain ⟨g, y⟩ := p
    rw [List.map_cons, List.mem_cons, not_or] at h
    show (if g = f then _ else _) = _
    rw [if_neg (show ¬ g = f from fun e => h.1 e.symm), ih h.2]
    rfl


def thN : List Str := ["_brain", "_before", "_seen", "_table", "_left", "_todo", "_silent", "_cell", "results"]
theorem thNd {k : Thk} {u : Nat} {td : Addr} {si : Bool} {cv rv : V} : ((thF k u td si cv rv).map (·.1)).Nodup := by
  show thN.Nodup
  decide +kernel
theorem th_no {k : Thk} {u : Nat} {td : Addr} {si : Bool} {cv rv : V} {m : Str} (h : m ∉ thN) : (thF k u td si cv rv).lookup m = none := lk_none h
theorem th_meths : ("_enter" : Str) ∉ thN ∧ ("_value" : Str) ∉ thN ∧ ("_give" : Str) ∉ thN ∧ ("_do" : Str) ∉ thN ∧ ("go_on" : Str) ∉ thN ∧ ("after" : Str) ∉ thN ∧ ("move_and_cells" : Str) ∉ thN := by decide +kernel
theorem ne_int {a : Int} (c : (!decide (V.int a = V.int 0)) = true) : a ≠ 0 := fun e => by
  rw [decide_eq_true (congrArg V.int e)] at c
  cases c
theorem eq_int {a : Int} (c : ¬ (!decide (V.int a = V.int 0)) = true) : a = 0 := Decidable.byContradiction fun e => c (by rw [decide_eq_false fun z => e (V.int.inj z)]; rfl)
/-- all but three objects stay -/
def B3 (a td t : Addr) (H H' : Hp) : Prop := ∀ b o, b ≠ a → b ≠ td → b ≠ t → H b = some o → H' b = some o
theorem B3.refl (a td t : Addr) (H : Hp) : B3 a td t H H := fun _ _ _ _ _ h => h
theorem B3.trans {a td t : Addr} {H H1 H2 : Hp} (x : B3 a td t H H1) (y : B3 a td t H1 H2) : B3 a td t H H2 := fun c o n m l h => y c o n m l (x c o n m l h)
theorem b3_of {a td t : Addr} {H H' : Hp} (s : Same H H') : B3 a td t H H' := fun b o _ _ _ h => s b o h
theorem b3_a {a td t : Addr} {H H' : Hp} (s : But a H H') : B3 a td t H H' := fun b o n _ _ h => s b o n h
theorem b3_d {a td t : Addr} {H H' : Hp} (s : But td H H') : B3 a td t H H' := fun b o _ n _ h => s b o n h
theorem b3_t {a td t : Addr} {H H' : Hp} (s : But t H H') : B3 a td t H H' := fun b o _ _ n h => s b o n h
/-- a thought as it stands -/
structure ThS (C : Addr) (H : Hp) (a dx td : Addr) (k : Thk) (u : Nat) (stk : Stk) (tb : Str → Int) (ns : List Str) (sn : List Int) (si : Bool) (cv rv : V) : Prop where
  ob : H a = some (.ins C dx (thF k u td si cv rv))
  to : ∃ vs, H td = some (.lst vs) ∧ Paired (TdV H) vs stk
  tab : DT H k.t ns tb
  see : H k.sa = some (.tup (sn.map V.int))
section
variable {C : Addr} {H H' : Hp} {a dx td : Addr} {k : Thk} {u : Nat} {stk : Stk} {tb : Str → Int} {ns : List Str} {sn : List Int} {si : Bool} {cv rv : V}
theorem ThS.ne (h : ThS C H a dx td k u stk tb ns sn si cv rv) : a ≠ td ∧ a ≠ k.t ∧ td ≠ k.t ∧ k.sa ≠ a ∧ k.sa ≠ td ∧ k.sa ≠ k.t := by
  obtain ⟨ob, ⟨vs, to, _⟩, ⟨kvs, tab, _⟩, see⟩ := h
  refine ⟨fun z => ?_, fun z => ?_, fun z => ?_, fun z => ?_, fun z => ?_, fun z => ?_⟩
  · rw [z, to] at ob; cases ob
  · rw [z, tab] at ob; cases ob
  · rw [z, tab] at to; cases to
  · rw [z, ob] at see; cases see
  · rw [z, to] at see; cases see
  · rw [z, tab] at see; cases see
theorem ThS.keepT (h : ThS C H a dx td k u stk tb ns sn si cv rv) (b : B3 a td k.t H H') : KeepT H H' := fun q xs e => by
  obtain ⟨ob, ⟨vs, to, _⟩, ⟨kvs, tab, _⟩, see⟩ := h
  exact b q _ (fun z => by rw [z, ob] at e; cases e) (fun z => by rw [z, to] at e; cases e) (fun z => by rw [z, tab] at e; cases e) e
theorem ThS.same (h : ThS C H a dx td k u stk tb ns sn si cv rv) (s : Same H H') : ThS C H' a dx td k u stk tb ns sn si cv rv := by
  obtain ⟨ob, ⟨vs, to, p⟩, tab, see⟩ := h
  exact ⟨s _ _ ob, ⟨vs, s _ _ to, L2.Paired.mapP p fun _ _ q => q.keep (keepT_of s)⟩, tab.same s, s _ _ see⟩
end

theorem pget {α β : Type} {R : α → β → Prop} : ∀ {xs : List α} {ys : List β} {i : Nat} {x : α}, Paired R xs ys → xs[i]? = some x → ∃ y, ys[i]? = some y ∧ R x y
  | _, _, i, x, .nil, e => by simp at e
  | _, _, 0, x, .cons r _, e => by
    cases e
    exact ⟨_, rfl, r⟩
  | _, _, i + 1, x, .cons _ t, e => by
    rw [List.getElem?_cons_succ] at e
    rw [List.getElem?_cons_succ]
    exact pget t e
theorem pget' {α β : Type} {R : α → β → Prop} : ∀ {xs : List α} {ys : List β} {i : Nat} {y : β}, Paired R xs ys → ys[i]? = some y → ∃ x, xs[i]? = some x ∧ R x y
  | _, _, i, x, .nil, e => by simp at e
  | _, _, 0, x, .cons r _, e => by
    cases e
    exact ⟨_, rfl, r⟩
  | _, _, i + 1, x, .cons _ t, e => by
    rw [List.getElem?_cons_succ] at e
    rw [List.getElem?_cons_succ]
    exact pget' t e
/-- a tuple of two ints -/
def TupV (H : Hp) (v : V) (t : Int × Int) : Prop := ∃ a, v = .ref a ∧ H a = some (.tup [.int t.1, .int t.2])
theorem TupV.keep {H H' : Hp} (k : KeepT H H') {v : V} {t : Int × Int} (h : TupV H v t) : TupV H' v t := by
  obtain ⟨a, e, q⟩ := h
  exact ⟨a, e, k _ _ q⟩
def tpf (r t : Addr) : List (Str × V) := putF "taken" (.ref t) (putF "_results" (.ref r) [])
theorem tn_ : ¬ (("_results" : Str) = "taken") := by decide +kernel
theorem tpf_r (r t : Addr) : (tpf r t).lookup ("_results" : Str) = some (.ref r) := by
  unfold tpf
  rw [lookup_putF, if_neg tn_, lookup_putF, if_pos rfl]
theorem tpf_t (r t : Addr) : (tpf r t).lookup ("taken" : Str) = some (.ref t) := by
  unfold tpf
  rw [lookup_putF, if_pos rfl]
theorem tpf_no (r t : Addr) {m : Str} (h1 : ¬ m = "_results") (h2 : ¬ m = "taken") : (tpf r t).lookup m = none := by
  unfold tpf
  rw [lookup_putF, if_neg h2, lookup_putF, if_neg h1]
  rfl
/-- a tape at x: its results rs, what was taken ts -/
structure TapeAt (C : Addr) (H : Hp) (x rl tl : Addr) (rs : List Int) (ts : List (Int × Int)) : Prop where
  ex : ∃ dx, H x = some (.ins C dx (tpf rl tl))
  hr : H rl = some (.lst (rs.map V.int))
  ht : ∃ vs, H tl = some (.lst vs) ∧ Paired (TupV H) vs ts
theorem TapeAt.same {C : Addr} {H H' : Hp} {x rl tl : Addr} {rs : List Int} {ts : List (Int × Int)} (h : TapeAt C H x rl tl rs ts) (s : Same H H') : TapeAt C H' x rl tl rs ts := by
  obtain ⟨⟨dx, e⟩, hr, vs, h1, h2⟩ := h
  exact ⟨⟨dx, s _ _ e⟩, s _ _ hr, vs, s _ _ h1, Paired.mono (fun _ _ h => h.keep (keepT_of s)) h2⟩
theorem paired_snoc {α β : Type} {R : α → β → Prop} {xs : List α} {ys : List β} {x : α} {y : β} (h : Paired R xs ys) (r : R x y) : Paired R (xs ++ [x]) (ys ++ [y]) := by
  induction h with
  | nil => exact .cons r .nil
  | cons a _ ih => exact .cons a ih
def takeK (rs : List Int) (i : Nat) (c : Int) : Int := match rs[i]? with
  | some r => r % c
  | none => 0

theorem brNd {a b c d : V} : ([(("units" : Str), a), ("cells", b), ("block", c), ("answer", d)].map (·.1)).Nodup := by
  show (["units", "cells", "block", "answer"] : List Str).Nodup
  decide +kernel
def tb0 : List Str → List Int → Str → Int
  | x :: r, n :: s => fun y => if y = x then n else tb0 r s y
  | _, _ => fun _ => 0
theorem tb0_at : ∀ {ns : List Str} {xs : List Int} {i : Nat} {x : Str} {n : Int}, ns.Nodup → ns[i]? = some x → xs[i]? = some n → tb0 ns xs x = n
  | [], _, _, _, _, _, h, _ => by simp at h
  | _ :: _, [], _, _, _, _, _, h => by simp at h
  | y :: r, m :: s, 0, x, n, _, h, g => by
    cases h
    cases g
    exact if_pos rfl
  | y :: r, m :: s, i + 1, x, n, nd, h, g => by
    rw [List.getElem?_cons_succ] at h g
    rw [List.nodup_cons] at nd
    have ne : x ≠ y := fun z => nd.1 (z ▸ List.mem_of_getElem? h)
    show (if x = y then m else tb0 r s x) = n
    rw [if_neg ne]
    exact tb0_at nd.2 h g
theorem tb0_bd : ∀ {ns : List Str} {xs : List Int} {x : Str}, (∀ n ∈ xs, Bd n) → Bd (tb0 ns xs x)
  | [], _, _, _ => ⟨by show (0 : Int) ≤ 0; decide, by show (0 : Int) < 65536; decide⟩
  | _ :: _, [], _, _ => ⟨by show (0 : Int) ≤ 0; decide, by show (0 : Int) < 65536; decide⟩
  | y :: r, m :: s, x, h => by
    show Bd (if x = y then m else tb0 r s x)
    split
    · exact h m List.mem_cons_self
    · exact tb0_bd fun n k => h n (List.mem_cons_of_mem _ k)
/-- a table that is made name by name -/
structure DTI (ns : List Str) (tb : Str → Int) (i : Nat) (kvs : List (Key × V)) : Prop where
  len : kvs.length = i
  ks : kvs.map (·.1) = (ns.take i).map Sum.inr
  vs : ∀ x ∈ ns.take i, valV kvs (.inr x) = some (.int (tb x))
theorem DTI.nil {ns : List Str} {tb : Str → Int} : DTI ns tb 0 [] := ⟨rfl, rfl, fun x m => by cases m⟩
theorem DTI.put {ns : List Str} {tb : Str → Int} {i : Nat} {kvs : List (Key × V)} {x : Str} {n : Int} (h : DTI ns tb i kvs) (nd : ns.Nodup) (hx : ns[i]? = some x) (e : tb x = n) : DTI ns tb (i + 1) (putK kvs (.inr x) (.int n)) := by
  have nin : x ∉ ns.take i := fun m => by
    obtain ⟨j, hj⟩ := List.mem_iff_getElem?.mp m
    rw [List.getElem?_take] at hj
    split at hj
    · rename_i c
      have l1 := (List.getElem?_eq_some_iff.mp hj).1
      have := (List.getElem?_inj l1 nd).mp (hj.trans hx.symm)
      omega
    · cases hj
  have nk : (Sum.inr x : Key) ∉ kvs.map (·.1) := fun m => by
    rw [h.ks, List.mem_map] at m
    obtain ⟨y, my, e⟩ := m
    exact nin ((Sum.inr.inj e) ▸ my)
  have kk : (putK kvs (.inr x) (.int n)).map (·.1) = (ns.take (i + 1)).map Sum.inr := by
    rw [put_keys, if_neg nk, h.ks, List.take_add_one, hx]
    show _ = List.map Sum.inr (ns.take i ++ [x])
    rw [List.map_append]
    rfl
  refine ⟨?_, kk, fun y my => ?_⟩
  · have := congrArg List.length kk
    rw [List.length_map, List.length_map, List.length_take] at this
    have := (List.getElem?_eq_some_iff.mp hx).1
    omega
  · rw [valV_put]
    by_cases c : y = x
    · rw [if_pos (congrArg Sum.inr c), c, e]
    · rw [if_neg (fun z => c (Sum.inr.inj z))]
      rw [List.take_add_one, hx] at my
      rcases List.mem_append.mp my with m | m
      · exact h.vs y m
      · exact absurd (List.mem_singleton.mp m) c
theorem DTI.dt {H : Hp} {t : Addr} {ns : List Str} {tb : Str → Int} {kvs : List (Key × V)} (e : H t = some (.dK kvs)) (l : ns.length ≤ 100) (h : DTI ns tb ns.length kvs) (b : ∀ x ∈ ns, Bd (tb x)) : DT H t ns tb := by
  have hk := h.ks
  have hv := h.vs
  rw [List.take_of_length_le (Nat.le_refl _)] at hk hv
  exact ⟨kvs, e, by rw [h.len]; exact l, fun x m => by rw [hk]; exact List.mem_map.mpr ⟨x, m, rfl⟩, fun x m => ⟨hv x m, b x m⟩⟩
theorem dc_zipT {K : PySem.W.Frag} {a b : Addr} {xs ys : List V} {g : TG} {tt : TT} {tk tv : TE} {vs : List Nat} {σ : L2.St} {H1 : Hp} {D : Addr} {Qd : Hp → Prop} (hl : xs.length = ys.length) (Pv : Nat → Hp → Prop) (h0 : Pv 0 (upd H1 D (.dK [])))
    (hq : ∀ i H, Pv i H → SqT K H a xs ∧ SqT K H b ys)
    (hs : ∀ i x y T H, xs[i]? = some x → ys[i]? = some y → Pv i H → H T = none → g (.ref T) (wipe σ vs) (upd H T (.tup [x, y])) fun σ2 H2 => wipe σ2 vs = wipe σ vs ∧ tt σ2 H2 fun b H3 => if b = true then tk σ2 H3 fun y H4 => tv σ2 H4 fun z H5 => ∃ kvs k, y = kV k ∧ H5 D = some (.dK kvs) ∧ kvs.length < sizeLine ∧ Pv (i + 1) (upd H5 D (.dK (putK kvs k z))) else Pv (i + 1) H3)
    (hd : ∀ H, Pv xs.length H → Qd H) :
    ∃ W : Nat → Nat → Hp → Prop, (∃ m, W 0 m (upd H1 D (.dK []))) ∧ ∀ i m H, W i m H → ((RZ.ItzT K a b).stop i H ∧ Qd H) ∨ ((RZ.ItzT K a b).go i H ∧ ∃ Nx : Hp → Prop, (∀ H', Nx H' → ∃ m', m' < m ∧ W (i + 1) m' H') ∧ ∀ x H', (RZ.ItzT K a b).yld i H x H' → g x (wipe σ vs) H' fun σ2 H2 => wipe σ2 vs = wipe σ vs ∧ tt σ2 H2 fun b H3 => if b = true then tk σ2 H3 fun y H4 => tv σ2 H4 fun z H5 => ∃ kvs k, y = kV k ∧ H5 D = some (.dK kvs) ∧ kvs.length < sizeLine ∧ Nx (upd H5 D (.dK (putK kvs k z))) else Nx H3) := by
  refine ⟨fun i m H => i ≤ xs.length ∧ m = xs.length - i ∧ Pv i H, ⟨_, Nat.zero_le _, rfl, h0⟩, ?_⟩
  rintro i m H ⟨hi, rfl, hP⟩
  obtain ⟨qa, qb⟩ := hq i H hP
  by_cases c : i < xs.length
  · obtain ⟨x, hx⟩ : ∃ x, xs[i]? = some x := ⟨_, List.getElem?_eq_getElem c⟩
    obtain ⟨y, hy⟩ : ∃ y, ys[i]? = some y := ⟨_, List.getElem?_eq_getElem (by omega)⟩
    refine .inr ⟨⟨xs, ys, x, y, qa, qb, hx, hy⟩, Pv (i + 1), fun H' h => ⟨_, by omega, by omega, rfl, h⟩, ?_⟩
    rintro v H' ⟨T, x', y', rfl, hT, rfl, ux, uy⟩
    have ex := (ux _ qa).symm.trans hx
    have ey := (uy _ qb).symm.trans hy
    cases ex
    cases ey
    exact hs i x y T H hx hy hP hT
  · have e : i = xs.length := by omega
    subst e
    exact .inl ⟨⟨xs, ys, qa, qb, .inl (Nat.le_refl _)⟩, hd H hP⟩
theorem paired_snoc_take {α β : Type} {R : α → β → Prop} {xs : List α} {ys : List β} {i : Nat} {x : α} {y : β} (h : Paired R xs (ys.take i)) (e : ys[i]? = some y) (r : R x y) : Paired R (xs ++ [x]) (ys.take (i + 1)) := by
  rw [List.take_add_one, e]
  exact Paired.snoc h r
/-- a brain as it stands -/
structure BrS (C : Addr) (H : Hp) (br : Addr) (u : Nat) (cs : List (Str × Int)) (ss : List Bt) (an : Ex) : Prop where
  ex : ∃ ca bl av cv ws dx, H br = some (.ins C dx [("units", .int u), ("cells", .ref ca), ("block", .ref bl), ("answer", av)]) ∧ H ca = some (.tup cv) ∧ Paired (CellV H) cv cs ∧ H bl = some (.tup ws) ∧ Bb H ws ss ∧ Ev H av an
theorem BrS.same {C : Addr} {H H' : Hp} {br : Addr} {u : Nat} {cs : List (Str × Int)} {ss : List Bt} {an : Ex} (h : BrS C H br u cs ss an) (s : Same H H') : BrS C H' br u cs ss an := by
  obtain ⟨ca, bl, av, cv, ws, dx, h1, h2, h3, h4, h5, h6⟩ := h
  have k := keepT_of s
  exact ⟨ca, bl, av, cv, ws, dx, s _ _ h1, s _ _ h2, L2.Paired.mapP h3 fun _ _ q => q.keep k, s _ _ h4, h5.keep k, h6.keep k⟩
theorem BrS.but {C : Addr} {H H' : Hp} {br : Addr} {u : Nat} {cs : List (Str × Int)} {ss : List Bt} {an : Ex} (h : BrS C H br u cs ss an) (s : KeepT H H') (i : ∀ o, H br = some o → H' br = some o) : BrS C H' br u cs ss an := by
  obtain ⟨ca, bl, av, cv, ws, dx, h1, h2, h3, h4, h5, h6⟩ := h
  exact ⟨ca, bl, av, cv, ws, dx, i _ h1, s _ _ h2, L2.Paired.mapP h3 fun _ _ q => q.keep s, s _ _ h4, h5.keep s, h6.keep s⟩


/-- what a thought rests on -/
structure ThC (C : Addr) (H : Hp) (k : Thk) (u : Nat) (cs : List (Str × Int)) (ss : List Bt) (an : Ex) (xs : List Int) : Prop where
  br : BrS C H k.br u cs ss an
  be : H k.be = some (.tup (xs.map V.int))
  len : xs.length = cs.length
  l2 : cs.length ≤ 100
  nd : (cs.map (·.1)).Nodup
  bd : ∀ n ∈ xs, Bd n
theorem ThC.same {C : Addr} {H H' : Hp} {k : Thk} {u : Nat} {cs : List (Str × Int)} {ss : List Bt} {an : Ex} {xs : List Int} (h : ThC C H k u cs ss an xs) (s : Same H H') : ThC C H' k u cs ss an xs := ⟨h.br.same s, s _ _ h.be, h.len, h.l2, h.nd, h.bd⟩
theorem ThC.to {C : Addr} {H : Hp} {k k' : Thk} {u : Nat} {cs : List (Str × Int)} {ss : List Bt} {an : Ex} {xs : List Int} (h : ThC C H k u cs ss an xs) (e1 : k'.br = k.br) (e2 : k'.be = k.be) : ThC C H k' u cs ss an xs := ⟨by rw [e1]; exact h.br, by rw [e2]; exact h.be, h.len, h.l2, h.nd, h.bd⟩
theorem ThC.keep {C : Addr} {H H' : Hp} {k : Thk} {u : Nat} {cs : List (Str × Int)} {ss : List Bt} {an : Ex} {xs : List Int} (h : ThC C H k u cs ss an xs) (kt : KeepT H H') (i : ∀ o, H k.br = some o → H' k.br = some o) : ThC C H' k u cs ss an xs := ⟨h.br.but kt i, kt _ _ h.be, h.len, h.l2, h.nd, h.bd⟩
theorem ThC.ne {C C2 : Addr} {H : Hp} {a dx td : Addr} {k : Thk} {u v : Nat} {cs : List (Str × Int)} {ss : List Bt} {an : Ex} {xs : List Int} {stk : Stk} {tb : Str → Int} {ns : List Str} {sn : List Int} {si : Bool} {cv rv : V} (h : ThC C H k u cs ss an xs) (s : ThS C2 H a dx td k v stk tb ns sn si cv rv) : k.br ≠ a ∧ k.br ≠ td ∧ k.br ≠ k.t := by
  obtain ⟨ca, bl, av, w, ws, dxb, h1, _⟩ := h.br
  obtain ⟨ob, ⟨vs, to, _⟩, ⟨kvs, tab, _⟩, see⟩ := s
  refine ⟨fun z => ?_, fun z => ?_, fun z => ?_⟩
  · rw [z, ob] at h1
    have h2 := Option.some.inj h1
    injection h2 with _ _ h3
    have := congrArg List.length h3
    exact absurd this (show ¬ 9 = 4 by decide)
  · rw [z, to] at h1; cases h1
  · rw [z, tab] at h1; cases h1
theorem ThC.b3 {C C2 : Addr} {H H' : Hp} {a dx td : Addr} {k : Thk} {u v : Nat} {cs : List (Str × Int)} {ss : List Bt} {an : Ex} {xs : List Int} {stk : Stk} {tb : Str → Int} {ns : List Str} {sn : List Int} {si : Bool} {cv rv : V} (h : ThC C H k u cs ss an xs) (s : ThS C2 H a dx td k v stk tb ns sn si cv rv) (b : B3 a td k.t H H') : ThC C H' k u cs ss an xs := by
  obtain ⟨n1, n2, n3⟩ := h.ne s
  exact h.keep (s.keepT b) fun o e => b _ _ n1 n2 n3 e
/-- an event: its kind, its numbers -/
abbrev Evt := Nat × Int × Int
def evT : Evt → List V
  | (0, x, _) => [.str "round", .int x]
  | (1, x, _) => [.str "told", .int x]
  | (2, x, y) => [.str "move", .int x, .int y]
  | (_, x, _) => [.str "did", .int x]
def VwV (H : Hp) (v : V) (e : Evt) : Prop := e.1 < 4 ∧ ∃ a, v = .ref a ∧ H a = some (.tup (evT e))
theorem VwV.keep {H H' : Hp} (k : KeepT H H') {v : V} {e : Evt} (h : VwV H v e) : VwV H' v e := by
  obtain ⟨l, a, e, q⟩ := h
  exact ⟨l, a, e, k _ _ q⟩
def seen1 : Evt → List Int
  | (2, x, y) => [3, x, y]
  | (i, x, _) => [(i : Int) + 1, x, 0]
def seenL (es : List Evt) : List Int := (es.map seen1).flatten
theorem seenL_snoc {es : List Evt} {e : Evt} : seenL (es ++ [e]) = seenL es ++ seen1 e := by
  unfold seenL
  rw [List.map_append, List.flatten_append]
  show _ ++ (seen1 e ++ []) = _
  rw [List.append_nil]
theorem seen1_len (e : Evt) : (seen1 e).length = 3 := by
  obtain ⟨i, x, y⟩ := e
  unfold seen1
  split <;> rfl
theorem seenL_len : ∀ es : List Evt, (seenL es).length = 3 * es.length
  | [] => rfl
  | e :: r => by
    show (seen1 e ++ seenL r).length = _
    rw [List.length_append, seen1_len, seenL_len r, List.length_cons]
    omega

/-! ### methods of tuples that the program has made: they are tracked with their object -/
def FT (H : Hp) (a : Addr) (xs : List V) : Prop := ∃ o : Obj, H a = some (.frz o (.tup xs)) ∧ o.cls = .type "tuple" ∧ o.dict = none
theorem FT.sq {K : PySem.W.Frag} {H : Hp} {a : Addr} {xs : List V} (h : FT H a xs) : SqT K H a xs := by
  obtain ⟨o, h, _⟩ := h
  exact .inl (.inr ⟨o, h⟩)
theorem FT.same {H H' : Hp} {a : Addr} {xs : List V} (h : FT H a xs) (s : Same H H') : FT H' a xs := by
  obtain ⟨o, h, g⟩ := h
  exact ⟨o, s _ _ h, g⟩
section
variable {X : Cx}
def tyTu (K : PySem.W.Frag) (x : V) (H : Hp) : Prop := ∃ p, x = .ref p ∧ ((∃ xs, FT H p xs) ∨ ∃ o, K.lookup p = some o ∧ o.cls = .type "tuple" ∧ o.dict = none)
theorem ty_tu : TyOk X "tuple" (tyTu X.K) := by
  intro pins σ H s x v I r h
  obtain ⟨p, rfl, ⟨xs, o, hp, hc, hd⟩ | ⟨o, hk, hc, hd⟩⟩ := h
  · cases r
    obtain ⟨g, _⟩ := I.hok p _ hp
    exact ⟨⟨o, g, hc⟩, fun a e => by cases e; exact ⟨o, g, hd⟩⟩
  · cases r
    have g := I.kIn p o hk
    exact ⟨⟨o, g, hc⟩, fun a e => by cases e; exact ⟨o, g, hd⟩⟩
theorem call_tuple_frz : CallR X (.type "tuple") (fun xs H Q => ∃ p ys, xs = [.ref p] ∧ SqL X.K H p ys ∧ ∀ l o, H l = none → o.cls = .type "tuple" → o.dict = none → Q (.ref l) (upd H l (.frz o (.tup ys)))) := by
  intro pins s σ H xs us Q I r h
  obtain ⟨p, ys, rfl, hq, q⟩ := h
  obtain ⟨u, rfl, rx⟩ := vals1 r
  cases rx
  obtain ⟨its, r', pl, hz⟩ := I.list hq
  have hlen := r'.length
  refine call_tuple_list pl.isList (fun h' kp => ?_) (by simp only [List.size_toArray] <;> omega)
  have I1 : Inv X pins σ H { s with heap := h' } := I.kept (t' := s.toks) kp
  have I2 : Inv X pins σ (upd H h'.objs.size (.frz { cls := .type "tuple", data := .seq its.toArray } (.tup ys))) { s with heap := h'.push { cls := .type "tuple", data := .seq its.toArray } } :=
    I1.laid (t' := s.toks) (fun b o e => Heap.get?_push_of_some _ e) (Nat.le_refl _) (show ObjOk X.prog X.w _ _ _ (.frz _ (.tup ys)) from ⟨Heap.get?_push_size _ rfl, hz, its, r', IsTup.new _ _⟩)
  exact ⟨.ref h'.objs.size, _, I2, rfl, q _ _ (I1.hok.fresh (Nat.le_refl _)) rfl rfl⟩
def tTupF (t : TA) : TE := fun σ H Q => t σ H fun xs H1 => xs.length ≤ sizeLine ∧ ∀ p o, H1 p = none → o.cls = .type "tuple" → o.dict = none → Q (.ref p) (upd H1 p (.frz o (.tup xs)))
theorem pe_tupF {es : List Expr} {t : TA} {x1 : Nat} {pos : Pos} (h : PA X es t) : PE X (.Tuple es x1 pos) (tTupF t) := by
  refine ⟨fun pins s σ H Q I hq => ?_⟩
  refine wpAny_Tuple_spliced (thn (h.run pos pins s σ H _ I hq) fun us s1 ⟨xs, H1, I1, r, z, q⟩ => ⟨by rw [← r.length]; exact z, ?_⟩)
  have hf : H1 s1.heap.objs.size = none := I1.hok.fresh (Nat.le_refl _)
  refine ⟨.ref s1.heap.objs.size, upd H1 s1.heap.objs.size (.frz { cls := .type "tuple", data := .seq us.toArray } (.tup xs)), I1.laid (t' := s1.toks) (fun b u e => Heap.get?_push_of_some _ e) (Nat.le_refl _) ?_, rfl, q _ _ hf rfl rfl⟩
  exact ⟨Heap.get?_push_size _ rfl, z, us, r, ⟨_, Heap.get?_push_size _ rfl, rfl, _, rfl⟩⟩
end


/-- the law's own state of a brain -/
structure RunS (H : Hp) (rn t sa rl tl : Addr) (ns : List Str) (u : Int) (tb : Str → Int) (sn rs : List Int) (tk : List (Int × Int)) : Prop where
  ob : H rn = some (.lst [.int u, .ref t, .ref sa, .ref rl, .ref tl])
  tab : DT H t ns tb
  see : H sa = some (.lst (sn.map V.int))
  res : H rl = some (.lst (rs.map V.int))
  tak : ∃ vs, H tl = some (.lst vs) ∧ Paired (TupV H) vs tk
  ne : rn ≠ sa ∧ rn ≠ rl ∧ rn ≠ tl ∧ sa ≠ tl ∧ rl ≠ tl
section
variable {H H' : Hp} {rn t sa rl tl : Addr} {ns : List Str} {u : Int} {tb : Str → Int} {sn rs : List Int} {tk : List (Int × Int)}
theorem RunS.same (h : RunS H rn t sa rl tl ns u tb sn rs tk) (s : Same H H') : RunS H' rn t sa rl tl ns u tb sn rs tk := by
  obtain ⟨a, b, c, d, ⟨vs, e, p⟩, n⟩ := h
  exact ⟨s _ _ a, b.same s, s _ _ c, s _ _ d, ⟨vs, s _ _ e, L2.Paired.mapP p fun _ _ z => z.keep (keepT_of s)⟩, n⟩
theorem RunS.nt (h : RunS H rn t sa rl tl ns u tb sn rs tk) : rn ≠ t ∧ sa ≠ t ∧ rl ≠ t ∧ tl ≠ t := by
  obtain ⟨a, ⟨kv, b, _⟩, c, d, ⟨vs, e, p⟩, n⟩ := h
  refine ⟨fun z => ?_, fun z => ?_, fun z => ?_, fun z => ?_⟩
  · rw [z, b] at a; cases a
  · rw [z, b] at c; cases c
  · rw [z, b] at d; cases d
  · rw [z, b] at e; cases e
theorem RunS.keepT (h : RunS H rn t sa rl tl ns u tb sn rs tk) (b : B3 rn t tl H H') : KeepT H H' := fun q xs e => by
  obtain ⟨a, ⟨kv, g, _⟩, c, d, ⟨vs, f, p⟩, n⟩ := h
  exact b q _ (fun z => by rw [z, a] at e; cases e) (fun z => by rw [z, g] at e; cases e) (fun z => by rw [z, f] at e; cases e) e
theorem RunS.unit (h : RunS H rn t sa rl tl ns u tb sn rs tk) (v : Int) : RunS (upd H rn (.lst [.int v, .ref t, .ref sa, .ref rl, .ref tl])) rn t sa rl tl ns v tb sn rs tk := by
  have k := h.keepT (b3_a (a := rn) (td := t) (t := tl) (but_upd (o := .lst [.int v, .ref t, .ref sa, .ref rl, .ref tl])))
  obtain ⟨m1, _, _, _⟩ := h.nt
  obtain ⟨a, ⟨kv, g, r⟩, c, d, ⟨vs, f, p⟩, n⟩ := h
  obtain ⟨n1, n2, n3, n4, n5⟩ := id n
  exact ⟨upd_same, ⟨kv, by rw [upd_ne m1.symm]; exact g, r⟩, by rw [upd_ne n1.symm]; exact c, by rw [upd_ne n2.symm]; exact d, ⟨vs, by rw [upd_ne n3.symm]; exact f, L2.Paired.mapP p fun _ _ z => z.keep k⟩, n⟩
theorem RunS.table (h : RunS H rn t sa rl tl ns u tb sn rs tk) {tb' : Str → Int} (b : But t H H') (d : DT H' t ns tb') : RunS H' rn t sa rl tl ns u tb' sn rs tk := by
  have k := h.keepT (b3_d b)
  obtain ⟨m1, m2, m3, m4⟩ := h.nt
  obtain ⟨a, _, c, e, ⟨vs, f, p⟩, n⟩ := h
  exact ⟨b _ _ m1 a, d, b _ _ m2 c, b _ _ m3 e, ⟨vs, b _ _ m4 f, L2.Paired.mapP p fun _ _ z => z.keep k⟩, n⟩
theorem RunS.fall (h : RunS H rn t sa rl tl ns u tb sn rs tk) {tk' : List (Int × Int)} {vs' : List V} (b : But tl H H') (e : H' tl = some (.lst vs')) (q : Paired (TupV H') vs' tk') : RunS H' rn t sa rl tl ns u tb sn rs tk' := by
  obtain ⟨m1, m2, m3, m4⟩ := h.nt
  obtain ⟨a, ⟨kv, g, r⟩, c, d, _, n⟩ := h
  obtain ⟨n1, n2, n3, n4, n5⟩ := id n
  exact ⟨b _ _ n3 a, ⟨kv, b _ _ m4.symm g, r⟩, b _ _ n4 c, b _ _ n5 d, ⟨vs', e, q⟩, n⟩
end
theorem drop_cons {α : Type} {ts : List α} {j : Nat} {x : α} (h : ts[j]? = some x) : ts.drop j = x :: ts.drop (j + 1) := by
  obtain ⟨hl, e⟩ := List.getElem?_eq_some_iff.mp h
  rw [List.drop_eq_getElem_cons hl, e]
abbrev flR (rs : List Int) : Nat → Int → Int := fun j n => takeK rs j n
/-- what a block of the law's own run comes to -/
def RunR (sn rs : List Int) (u : Nat) (ss : List Bt) (tb : Str → Int) (tk : List (Int × Int)) (ok : Bool) (u' : Int) (tb' : Str → Int) (tk' : List (Int × Int)) : Prop :=
  (ok = true ∧ ∃ v : Nat, u' = (v : Int) ∧ v ≤ u ∧ tk'.length + v ≤ tk.length + u ∧ ∀ r, runM sn (flR rs) u (ss ++ r) tb tk = runM sn (flR rs) v r tb' tk') ∨
  (ok = false ∧ tk'.length ≤ tk.length + u ∧ ∀ r, runM sn (flR rs) u (ss ++ r) tb tk = .out tk')

theorem wide_ints : ∀ ns : List Int, wideAll (ns.map PyData.int) = true
  | [] => rfl
  | n :: r => by
    show (wide (.int n) && wideAll (r.map PyData.int)) = true
    rw [wide_ints r]
    rfl
def tsD (ts : List (Int × Int)) : PyData := .list (ts.map fun t => .tuple [.int t.1, .int t.2])
theorem Da.pairs {H : Hp} {a : Addr} {vs : List V} {ts : List (Int × Int)} (h : H a = some (.lst vs)) (p : Paired (TupV H) vs ts) : Da H (.ref a) (tsD ts) := by
  refine .lst h (by rw [List.length_map, Paired.length p]) fun i v d h1 h2 => ?_
  obtain ⟨t, ht, b, rfl, hb⟩ := pget p h1
  rw [List.getElem?_map, ht] at h2
  cases h2
  refine .tup hb rfl fun j w e g1 g2 => ?_
  match j, g1, g2 with
  | 0, g1, g2 => cases g1; cases g2; exact .int _
  | 1, g1, g2 => cases g1; cases g2; exact .int _
theorem tsD_ok : ∀ {ts : List (Int × Int)}, ts.length ≤ 100000 → (tsD ts).depth < 8 ∧ wide (tsD ts) = true := by
  have h1 : ∀ ts : List (Int × Int), PyData.depthAll (ts.map fun t => .tuple [.int t.1, .int t.2]) ≤ 1 := by
    intro ts
    induction ts with
    | nil => simp [PyData.depthAll]
    | cons t r ih =>
      rw [List.map_cons]
      simp only [PyData.depthAll, PyData.depth]
      exact Nat.max_le.mpr ⟨by decide, ih⟩
  have h2 : ∀ ts : List (Int × Int), wideAll (ts.map fun t => .tuple [.int t.1, .int t.2]) = true := by
    intro ts
    induction ts with
    | nil => rfl
    | cons t r ih =>
      rw [List.map_cons]
      show (wide (.tuple [.int t.1, .int t.2]) && wideAll _) = true
      rw [ih]
      rfl
  intro ts hl
  refine ⟨?_, ?_⟩
  · show (PyData.list _).depth < 8
    have := h1 ts
    simp only [PyData.depth]
    omega
  · show (decide (_ ≤ 1000000) && wideAll _) = true
    rw [h2 ts, List.length_map, decide_eq_true (by omega)]
    rfl
theorem Da.tints {H : Hp} {a : Addr} {ns : List Int} (h : H a = some (.tup (ns.map V.int))) : Da H (.ref a) (.tuple (ns.map PyData.int)) := by
  refine .tup h (by rw [List.length_map, List.length_map]) fun i v d h1 h2 => ?_
  rw [List.getElem?_map] at h1 h2
  cases e : ns[i]? with
  | none => rw [e] at h1; cases h1
  | some y =>
    rw [e] at h1 h2
    cases h1
    cases h2
    exact .int y
theorem tints_ok {ns : List Int} (h : ns.length ≤ 100000) : (PyData.tuple (ns.map PyData.int)).depth < 8 ∧ wide (PyData.tuple (ns.map PyData.int)) = true := by
  refine ⟨?_, ?_⟩
  · simp only [PyData.depth, (lay_ints ns).2]
    decide
  · show (decide ((ns.map PyData.int).length ≤ 1000000) && wideAll (ns.map PyData.int)) = true
    rw [wide_ints, List.length_map, decide_eq_true (by omega)]
    rfl
theorem Pool.buts {p c q : Addr} {b : Int} {H H' : Hp} (h : Pool H p c b) (k : But q H H') (n1 : q ≠ p) (n2 : q ≠ c) : Pool H' p c b := by
  obtain ⟨ns, i, r, s, t, hp, hc, h0, n⟩ := h
  exact ⟨ns, i, r, s, t, k _ _ n1.symm hp, k _ _ n2.symm hc, h0, n⟩
theorem flat_rep {α : Type} (x : α) : ∀ n : Nat, (List.replicate n [x]).flatten = List.replicate n x
  | 0 => rfl
  | n + 1 => by
    rw [List.replicate_succ, List.flatten_cons, flat_rep x n, List.replicate_succ]
    rfl
theorem takeK_rep {rs : List Int} {e i : Nat} (h : i < e) : takeK (List.replicate e 7 ++ rs) i 5 = 2 := by
  unfold takeK
  rw [List.getElem?_append_left (by rw [List.length_replicate]; exact h), List.getElem?_replicate, if_pos h]
  rfl
theorem takeK_sk {rs : List Int} {e j : Nat} {n : Int} : takeK (List.replicate e 7 ++ rs) (e + j) n = takeK rs j n := by
  unfold takeK
  rw [List.getElem?_append_right (by rw [List.length_replicate]; omega), List.length_replicate, Nat.add_sub_cancel_left]
theorem pairs_rep {H : Hp} {U : Addr} {t : Int × Int} (h : H U = some (.tup [.int t.1, .int t.2])) : ∀ n : Nat, Paired (TupV H) (List.replicate n (V.ref U)) (List.replicate n t)
  | 0 => .nil
  | n + 1 => .cons ⟨U, rfl, h⟩ (pairs_rep h n)
theorem pairs_app {H : Hp} : ∀ {a b : List V} {x y : List (Int × Int)}, Paired (TupV H) a x → Paired (TupV H) b y → Paired (TupV H) (a ++ b) (x ++ y)
  | _, _, _, _, .nil, h => h
  | _, _, _, _, .cons r t, h => .cons r (pairs_app t h)
theorem da_two {H : Hp} {p r : Addr} {mv : Int} {zs : List Int} (h : H p = some (.tup [.int mv, .ref r])) (g : H r = some (.tup (zs.map V.int))) : Da H (.ref p) (.tuple [.int mv, .tuple (zs.map PyData.int)]) := by
  refine .tup h rfl fun i v d h1 h2 => ?_
  match i, h1, h2 with
  | 0, h1, h2 =>
    cases h1
    cases h2
    exact .int _
  | 1, h1, h2 =>
    cases h1
    cases h2
    exact Da.tints g
theorem two_ok {mv : Int} {zs : List Int} (h : zs.length ≤ 100000) : (PyData.tuple [.int mv, .tuple (zs.map PyData.int)]).depth < 8 ∧ wide (PyData.tuple [.int mv, .tuple (zs.map PyData.int)]) = true := by
  obtain ⟨t1, t2⟩ := tints_ok h
  refine ⟨?_, ?_⟩
  · simp only [PyData.depth, PyData.depthAll, (lay_ints zs).2]
    decide
  · show (decide (2 ≤ 1000000) && (wide (.int mv) && (wide (PyData.tuple (zs.map PyData.int)) && true))) = true
    rw [t2]
    rfl

structure Txt (K : PySem.W.Frag) (mg : Str → Option Value) (w : World) where
  C_Thought : Addr
  C_Brain : Addr
  C_Tape : Addr
  a_combine : Addr
  d_combine : FuncData
  F_combine : Fun K "combine" "combine" s_combine a_combine d_combine
  b_combine : Binds K d_combine ["sign", "left", "right"] []
  m_combine : mg "combine" = some (.ref a_combine)
  a_value_of : Addr
  d_value_of : FuncData
  z_value_of : Addr
  qz_value_of : ∀ H, SqT K H z_value_of []
  F_value_of : FunD K "value_of" "value_of" (defArgs s_value_of) (defBody s_value_of) (defScope s_value_of) [.ref z_value_of] [] a_value_of d_value_of
  ds_value_of : List Value
  v_value_of : Vals [.ref z_value_of] ds_value_of
  bd_value_of : Binds K d_value_of ["expression", "table", "on", "seen"] ds_value_of
  b_value_of : Binds K d_value_of ["expression", "table", "on", "seen"] []
  m_value_of : mg "value_of" = some (.ref a_value_of)
  a_view_numbers : Addr
  d_view_numbers : FuncData
  F_view_numbers : Fun K "view_numbers" "view_numbers" s_view_numbers a_view_numbers d_view_numbers
  b_view_numbers : Binds K d_view_numbers ["view"] []
  m_view_numbers : mg "view_numbers" = some (.ref a_view_numbers)
  a_Thought_enter : Addr
  d_Thought_enter : FuncData
  F_Thought_enter : Fun K "_enter" "Thought._enter" s_Thought_enter a_Thought_enter d_Thought_enter
  b_Thought_enter : Binds K d_Thought_enter ["self", "block"] []
  me_Thought_enter : Meth K C_Thought "_enter" a_Thought_enter
  a_Thought_init : Addr
  d_Thought_init : FuncData
  F_Thought_init : Fun K "__init__" "Thought.__init__" s_Thought_init a_Thought_init d_Thought_init
  b_Thought_init : Binds K d_Thought_init ["self", "brain", "cells", "seen"] []
  mk_Thought : Mk K C_Thought a_Thought_init
  a_Thought_after : Addr
  d_Thought_after : FuncData
  F_Thought_after : Fun K "after" "Thought.after" s_Thought_after a_Thought_after d_Thought_after
  b_Thought_after : Binds K d_Thought_after ["self", "result"] []
  me_Thought_after : Meth K C_Thought "after" a_Thought_after
  a_Thought_give : Addr
  d_Thought_give : FuncData
  F_Thought_give : Fun K "_give" "Thought._give" s_Thought_give a_Thought_give d_Thought_give
  b_Thought_give : Binds K d_Thought_give ["self", "kind", "cell", "value"] []
  me_Thought_give : Meth K C_Thought "_give" a_Thought_give
  a_Thought_value : Addr
  d_Thought_value : FuncData
  F_Thought_value : Fun K "_value" "Thought._value" s_Thought_value a_Thought_value d_Thought_value
  b_Thought_value : Binds K d_Thought_value ["self", "expression"] []
  me_Thought_value : Meth K C_Thought "_value" a_Thought_value
  a_Thought_do : Addr
  d_Thought_do : FuncData
  F_Thought_do : Fun K "_do" "Thought._do" s_Thought_do a_Thought_do d_Thought_do
  b_Thought_do : Binds K d_Thought_do ["self", "statement"] []
  me_Thought_do : Meth K C_Thought "_do" a_Thought_do
  a_Thought_go_on : Addr
  d_Thought_go_on : FuncData
  F_Thought_go_on : Fun K "go_on" "Thought.go_on" s_Thought_go_on a_Thought_go_on d_Thought_go_on
  b_Thought_go_on : Binds K d_Thought_go_on ["self"] []
  me_Thought_go_on : Meth K C_Thought "go_on" a_Thought_go_on
  a_Thought_move_and_cells : Addr
  d_Thought_move_and_cells : FuncData
  F_Thought_move_and_cells : Fun K "move_and_cells" "Thought.move_and_cells" s_Thought_move_and_cells a_Thought_move_and_cells d_Thought_move_and_cells
  b_Thought_move_and_cells : Binds K d_Thought_move_and_cells ["self", "count"] []
  me_Thought_move_and_cells : Meth K C_Thought "move_and_cells" a_Thought_move_and_cells
  a_Tape_take : Addr
  d_Tape_take : FuncData
  F_Tape_take : Fun K "take" "Tape.take" s_Tape_take a_Tape_take d_Tape_take
  b_Tape_take : Binds K d_Tape_take ["self", "count"] []
  me_Tape_take : Meth K C_Tape "take" a_Tape_take
  a_think : Addr
  d_think : FuncData
  F_think : Fun K "think" "think" s_think a_think d_think
  b_think : Binds K d_think ["brain", "cells", "view", "count", "tape"] []
  m_think : mg "think" = some (.ref a_think)
  a_Brain_init : Addr
  d_Brain_init : FuncData
  F_Brain_init : Fun K "__init__" "Brain.__init__" s_Brain_init a_Brain_init d_Brain_init
  b_Brain_init : Binds K d_Brain_init ["self", "units", "cells", "block", "answer"] []
  mk_Brain : Mk K C_Brain a_Brain_init
  a_Tape_init : Addr
  d_Tape_init : FuncData
  F_Tape_init : Fun K "__init__" "Tape.__init__" s_Tape_init a_Tape_init d_Tape_init
  b_Tape_init : Binds K d_Tape_init ["self", "results"] []
  mk_Tape : Mk K C_Tape a_Tape_init
  a_law_pool : Addr
  d_law_pool : FuncData
  F_law_pool : Fun K "_law_pool" "_law_pool" s_law_pool a_law_pool d_law_pool
  b_law_pool : Binds K d_law_pool ["script", "budget"] []
  m_law_pool : mg "_law_pool" = some (.ref a_law_pool)
  a_law_draw : Addr
  d_law_draw : FuncData
  F_law_draw : Fun K "_law_draw" "_law_draw" s_law_draw a_law_draw d_law_draw
  b_law_draw : Binds K d_law_draw ["pool", "size"] []
  m_law_draw : mg "_law_draw" = some (.ref a_law_draw)
  a_law_spend : Addr
  d_law_spend : FuncData
  F_law_spend : Fun K "_law_spend" "_law_spend" s_law_spend a_law_spend d_law_spend
  b_law_spend : Binds K d_law_spend ["pool"] []
  m_law_spend : mg "_law_spend" = some (.ref a_law_spend)
  a_law_few : Addr
  d_law_few : FuncData
  F_law_few : Fun K "_law_few" "_law_few" s_law_few a_law_few d_law_few
  b_law_few : Binds K d_law_few ["pool", "most"] []
  m_law_few : mg "_law_few" = some (.ref a_law_few)
  a_law_number : Addr
  d_law_number : FuncData
  F_law_number : Fun K "_law_number" "_law_number" s_law_number a_law_number d_law_number
  b_law_number : Binds K d_law_number ["pool"] []
  m_law_number : mg "_law_number" = some (.ref a_law_number)
  a_law_same : Addr
  d_law_same : FuncData
  F_law_same : Fun K "_law_same" "_law_same" s_law_same a_law_same d_law_same
  b_law_same : Binds K d_law_same ["actual", "due"] []
  m_law_same : mg "_law_same" = some (.ref a_law_same)
  a_law_keys : Addr
  d_law_keys : FuncData
  F_law_keys : Fun K "_law_keys" "_law_keys" s_law_keys a_law_keys d_law_keys
  b_law_keys : Binds K d_law_keys [] []
  m_law_keys : mg "_law_keys" = some (.ref a_law_keys)
  a_law_name : Addr
  d_law_name : FuncData
  F_law_name : Fun K "_law_name" "_law_name" s_law_name a_law_name d_law_name
  b_law_name : Binds K d_law_name ["pool", "taken"] []
  m_law_name : mg "_law_name" = some (.ref a_law_name)
  a_law_names : Addr
  d_law_names : FuncData
  F_law_names : Fun K "_law_names" "_law_names" s_law_names a_law_names d_law_names
  b_law_names : Binds K d_law_names ["pool", "most"] []
  m_law_names : mg "_law_names" = some (.ref a_law_names)
  a_law_expression : Addr
  d_law_expression : FuncData
  F_law_expression : Fun K "_law_expression" "_law_expression" s_law_expression a_law_expression d_law_expression
  b_law_expression : Binds K d_law_expression ["pool", "names", "deep"] []
  m_law_expression : mg "_law_expression" = some (.ref a_law_expression)
  a_law_thought : Addr
  d_law_thought : FuncData
  F_law_thought : Fun K "_law_thought" "_law_thought" s_law_thought a_law_thought d_law_thought
  b_law_thought : Binds K d_law_thought ["pool", "names", "deep", "loops"] []
  m_law_thought : mg "_law_thought" = some (.ref a_law_thought)
  a_law_thoughts : Addr
  d_law_thoughts : FuncData
  F_law_thoughts : Fun K "_law_thoughts" "_law_thoughts" s_law_thoughts a_law_thoughts d_law_thoughts
  b_law_thoughts : Binds K d_law_thoughts ["pool", "names", "deep", "loops"] []
  m_law_thoughts : mg "_law_thoughts" = some (.ref a_law_thoughts)
  a_law_brain : Addr
  d_law_brain : FuncData
  F_law_brain : Fun K "_law_brain" "_law_brain" s_law_brain a_law_brain d_law_brain
  b_law_brain : Binds K d_law_brain ["pool", "units", "loops"] []
  m_law_brain : mg "_law_brain" = some (.ref a_law_brain)
  a_law_combine : Addr
  d_law_combine : FuncData
  F_law_combine : Fun K "_law_combine" "_law_combine" s_law_combine a_law_combine d_law_combine
  b_law_combine : Binds K d_law_combine ["sign", "a", "b"] []
  m_law_combine : mg "_law_combine" = some (.ref a_law_combine)
  a_law_value : Addr
  d_law_value : FuncData
  F_law_value : Fun K "_law_value" "_law_value" s_law_value a_law_value d_law_value
  b_law_value : Binds K d_law_value ["due", "table", "on", "seen"] []
  m_law_value : mg "_law_value" = some (.ref a_law_value)
  a_law_seen : Addr
  d_law_seen : FuncData
  F_law_seen : Fun K "_law_seen" "_law_seen" s_law_seen a_law_seen d_law_seen
  b_law_seen : Binds K d_law_seen ["view"] []
  m_law_seen : mg "_law_seen" = some (.ref a_law_seen)
  a_law_fall : Addr
  d_law_fall : FuncData
  F_law_fall : Fun K "_law_fall" "_law_fall" s_law_fall a_law_fall d_law_fall
  b_law_fall : Binds K d_law_fall ["results", "taken", "count"] []
  m_law_fall : mg "_law_fall" = some (.ref a_law_fall)
  a_law_unit : Addr
  d_law_unit : FuncData
  F_law_unit : Fun K "_law_unit" "_law_unit" s_law_unit a_law_unit d_law_unit
  b_law_unit : Binds K d_law_unit ["run"] []
  m_law_unit : mg "_law_unit" = some (.ref a_law_unit)
  a_law_run : Addr
  d_law_run : FuncData
  F_law_run : Fun K "_law_run" "_law_run" s_law_run a_law_run d_law_run
  b_law_run : Binds K d_law_run ["run", "block"] []
  m_law_run : mg "_law_run" = some (.ref a_law_run)
  a_law_think : Addr
  d_law_think : FuncData
  F_law_think : Fun K "_law_think" "_law_think" s_law_think a_law_think d_law_think
  b_law_think : Binds K d_law_think ["brain", "cells", "view", "count", "results", "taken"] []
  m_law_think : mg "_law_think" = some (.ref a_law_think)
  a_law_view : Addr
  d_law_view : FuncData
  F_law_view : Fun K "_law_view" "_law_view" s_law_view a_law_view d_law_view
  b_law_view : Binds K d_law_view ["pool"] []
  m_law_view : mg "_law_view" = some (.ref a_law_view)
  a_law : Addr
  d_law : FuncData
  F_law : Fun K "law" "law" s_law a_law d_law
  b_law : Binds K d_law ["script"] []
  m_law : mg "law" = some (.ref a_law)
  m_Thought : mg "Thought" = some (.ref C_Thought)
  cl_Thought : Cls K C_Thought
  n_Thought__brain : NoAttr K C_Thought "_brain"
  n_Thought__before : NoAttr K C_Thought "_before"
  n_Thought__seen : NoAttr K C_Thought "_seen"
  n_Thought__table : NoAttr K C_Thought "_table"
  n_Thought__left : NoAttr K C_Thought "_left"
  n_Thought__todo : NoAttr K C_Thought "_todo"
  n_Thought__silent : NoAttr K C_Thought "_silent"
  n_Thought__cell : NoAttr K C_Thought "_cell"
  n_Thought_results : NoAttr K C_Thought "results"
  m_Brain : mg "Brain" = some (.ref C_Brain)
  cl_Brain : Cls K C_Brain
  n_Brain_units : NoAttr K C_Brain "units"
  n_Brain_cells : NoAttr K C_Brain "cells"
  n_Brain_block : NoAttr K C_Brain "block"
  n_Brain_answer : NoAttr K C_Brain "answer"
  m_Tape : mg "Tape" = some (.ref C_Tape)
  cl_Tape : Cls K C_Tape
  n_Tape__results : NoAttr K C_Tape "_results"
  n_Tape_taken : NoAttr K C_Tape "taken"
  v_MODULUS : Value
  g_MODULUS : mg "MODULUS" = some v_MODULUS
  r_MODULUS : RelV (.int 65536) v_MODULUS
  v_GREATEST_NUMBER : Value
  g_GREATEST_NUMBER : mg "GREATEST_NUMBER" = some v_GREATEST_NUMBER
  r_GREATEST_NUMBER : RelV (.int 65535) v_GREATEST_NUMBER
  A_EVENT_NUMBERS : Addr
  g_EVENT_NUMBERS : mg "EVENT_NUMBERS" = some (.ref A_EVENT_NUMBERS)
  kd_EVENT_NUMBERS_0 : KDct K w A_EVENT_NUMBERS "round" (.int 1)
  kd_EVENT_NUMBERS_1 : KDct K w A_EVENT_NUMBERS "told" (.int 2)
  kd_EVENT_NUMBERS_2 : KDct K w A_EVENT_NUMBERS "move" (.int 3)
  kd_EVENT_NUMBERS_3 : KDct K w A_EVENT_NUMBERS "did" (.int 4)
  z_bool : mg "bool" = none
  z_dict : mg "dict" = none
  z_int : mg "int" = none
  z_isinstance : mg "isinstance" = none
  z_len : mg "len" = none
  z_list : mg "list" = none
  z_max : mg "max" = none
  z_min : mg "min" = none
  z_range : mg "range" = none
  z_str : mg "str" = none
  z_tuple : mg "tuple" = none
  z_zip : mg "zip" = none
section
variable {P : Program} {w : World} {K : PySem.W.Frag} {mg : Str → Option Value} {base : Heap}
/-! ### combine -/
def sp_combine (T : Txt K mg w) : Sp := fun vs H Q _ => ∃ (s : Str) (a b : Int), vs = [.str s, .int a, .int b] ∧ s ∈ opL ∧ Bd a ∧ Bd b ∧ Q (.int (comb s a b)) H

theorem ok_combine (T : Txt K mg w) : FnOk P w K mg base CX0 1 T.a_combine T.d_combine ["sign", "left", "right"] (sp_combine T) := by
  refine T.F_combine.ok sc_combine (fun vs H Q E h => ?_) (fun cdv A outer s H vs Q E hr h => ?_)
  · obtain ⟨z, a, b, rfl, _⟩ := h
    rfl
  obtain ⟨z, a, b, rfl, hz, ⟨a0, a1⟩, ⟨b0, b1⟩, q⟩ := h
  refine ⟨_, (pss_cons (ps_if (pt_cmpR op_eq (pv 0) pe_str (nomark _)) (pss_one (ps_ret (pe_op op_mod (pe_op op_add (pv 1) (pv 2)) (pe_glob (by rfl) T.g_MODULUS T.r_MODULUS)))) pss_nil)
      (pss_cons (ps_if (pt_cmpR op_eq (pv 0) pe_str (nomark _)) (pss_one (ps_ret (pe_callB (call_max2 rfl) (by rfl) T.z_max (by first | exact PySem.boot_max | decide +kernel) (pa_cons (pe_op op_sub (pv 1) (pv 2)) (pa_cons pe_int pa_nil))))) pss_nil)
      (pss_cons (ps_if (pt_cmpR op_eq (pv 0) pe_str (nomark _)) (pss_one (ps_ret (pe_op op_mod (pe_op op_mul (pv 1) (pv 2)) (pe_glob (by rfl) T.g_MODULUS T.r_MODULUS)))) pss_nil)
      (pss_cons (ps_if (pt_cmpR op_eq (pv 0) pe_str (nomark _)) (pss_one (ps_ret (pe_ifExp (pt_cmpR op_gt (pv 2) pe_int (nomark _)) (pe_op op_fdiv (pv 1) (pv 2)) pe_int))) pss_nil)
      (pss_cons (ps_if (pt_cmpR op_eq (pv 0) pe_str (nomark _)) (pss_one (ps_ret (pe_ifExp (pt_cmpR op_gt (pv 2) pe_int (nomark _)) (pe_op op_mod (pv 1) (pv 2)) pe_int))) pss_nil)
      (pss_cons (ps_if (pt_cmpR op_eq (pv 0) pe_str (nomark _)) (pss_one (ps_ret (pe_ifExp (pt_cmpR op_lt (pv 1) (pv 2) (nomark _)) pe_int pe_int))) pss_nil)
      (pss_one (ps_ret (pe_ifExp (pt_cmpR op_eq (pv 1) (pv 2) (nomark _)) pe_int pe_int))))))))), ?_⟩
  refine ⟨_, rfl, rfl, _, rfl, ite2 (fun c => ?_) (fun n1 => ?_)⟩
  · have e := str_eq c
    have k : comb z a b = (a + b) % 65536 := if_pos e
    rw [k] at q
    exact ⟨_, rfl, _, rfl, _, _, rfl, rfl, _, _, rfl, rfl, by show (0 : Int) < 65536; decide, q⟩
  have m1 : z ≠ "+" := fun e => n1 (decide_eq_true (congrArg V.str e))
  refine ⟨_, rfl, rfl, _, rfl, ite2 (fun c => ?_) (fun n2 => ?_)⟩
  · have e := str_eq c
    have k : comb z a b = max (a - b) 0 := (if_neg m1).trans (if_pos e)
    rw [k] at q
    refine ⟨_, rfl, _, rfl, _, _, rfl, rfl, _, _, rfl, ?_⟩
    have k2 : max (a - b) 0 = if (a - b) < 0 then 0 else a - b := by omega
    rw [k2] at q
    exact q
  have m2 : z ≠ "-" := fun e => n2 (decide_eq_true (congrArg V.str e))
  refine ⟨_, rfl, rfl, _, rfl, ite2 (fun c => ?_) (fun n3 => ?_)⟩
  · have e := str_eq c
    have k : comb z a b = a * b % 65536 := ((if_neg m1).trans (if_neg m2)).trans (if_pos e)
    rw [k] at q
    exact ⟨_, rfl, _, rfl, _, _, rfl, rfl, .inl ⟨by omega, by omega⟩, _, _, rfl, rfl, by show (0 : Int) < 65536; decide, q⟩
  have m3 : z ≠ "*" := fun e => n3 (decide_eq_true (congrArg V.str e))
  refine ⟨_, rfl, rfl, _, rfl, ite2 (fun c => ?_) (fun n4 => ?_)⟩
  · have e := str_eq c
    have k : comb z a b = if 0 < b then a / b else 0 := (((if_neg m1).trans (if_neg m2)).trans (if_neg m3)).trans (if_pos e)
    rw [k] at q
    refine ⟨_, rfl, _, _, rfl, rfl, _, rfl, ite2 (fun y => ?_) (fun y => ?_)⟩
    · rw [if_pos (of_decide_eq_true y)] at q
      exact ⟨_, rfl, _, rfl, _, _, rfl, rfl, ⟨of_decide_eq_true y, by omega⟩, q⟩
    · rw [if_neg (fun t => y (decide_eq_true t))] at q
      exact q
  have m4 : z ≠ "/" := fun e => n4 (decide_eq_true (congrArg V.str e))
  refine ⟨_, rfl, rfl, _, rfl, ite2 (fun c => ?_) (fun n5 => ?_)⟩
  · have e := str_eq c
    have k : comb z a b = if 0 < b then a % b else 0 := ((((if_neg m1).trans (if_neg m2)).trans (if_neg m3)).trans (if_neg m4)).trans (if_pos e)
    rw [k] at q
    refine ⟨_, rfl, _, _, rfl, rfl, _, rfl, ite2 (fun y => ?_) (fun y => ?_)⟩
    · rw [if_pos (of_decide_eq_true y)] at q
      exact ⟨_, rfl, _, rfl, _, _, rfl, rfl, of_decide_eq_true y, q⟩
    · rw [if_neg (fun t => y (decide_eq_true t))] at q
      exact q
  have m5 : z ≠ "mod" := fun e => n5 (decide_eq_true (congrArg V.str e))
  refine ⟨_, rfl, rfl, _, rfl, ite2 (fun c => ?_) (fun n6 => ?_)⟩
  · have e := str_eq c
    have k : comb z a b = if a < b then 1 else 0 := (((((if_neg m1).trans (if_neg m2)).trans (if_neg m3)).trans (if_neg m4)).trans (if_neg m5)).trans (if_pos e)
    rw [k] at q
    refine ⟨_, rfl, _, rfl, _, _, rfl, rfl, _, rfl, ite2 (fun y => ?_) (fun y => ?_)⟩
    · rw [if_pos (of_decide_eq_true y)] at q
      exact q
    · rw [if_neg (fun t => y (decide_eq_true t))] at q
      exact q
  have m6 : z ≠ "<" := fun e => n6 (decide_eq_true (congrArg V.str e))
  have k : comb z a b = if a = b then 1 else 0 := (((((if_neg m1).trans (if_neg m2)).trans (if_neg m3)).trans (if_neg m4)).trans (if_neg m5)).trans (if_neg m6)
  rw [k] at q
  refine ⟨_, rfl, _, rfl, rfl, _, rfl, ite2 (fun y => ?_) (fun y => ?_)⟩
  · rw [if_pos (V.int.inj (of_decide_eq_true y))] at q
    exact q
  · rw [if_neg (fun t => y (decide_eq_true (congrArg V.int t)))] at q
    exact q
/-! ### value_of -/
def sp_value_of (T : Txt K mg w) (n : Nat) : Sp := fun vs H Q _ => ∃ (v : V) (t o s : Addr) (e : Ex) (ns ps : List Str) (tb : Str → Int) (on : Str → Bool) (sn : List Int), vs = [v, .ref t, .ref o, .ref s] ∧ Ev H v e ∧ e.deep ≤ n ∧ e.Wf ns ps ∧ Tb H ns ps t o tb on ∧
  SqT K H s (sn.map V.int) ∧ (∀ n ∈ sn, Bd n) ∧ Q (.int (e.val tb on sn)) H
theorem deep_pos (e : Ex) : 0 < e.deep := by cases e <;> simp [Ex.deep]
theorem no_value_of (T : Txt K mg w) : ∀ vs H Q E, ¬ sp_value_of T 0 vs H Q E := fun vs H Q E ⟨_, _, _, _, e, _, _, _, _, _, _, _, h, _⟩ => absurd (deep_pos e) (by omega)

theorem step_value_of (T : Txt K mg w) {n : Nat} (G : FnOk P w K mg base CX0 (1 + n) T.a_value_of T.d_value_of ["expression", "table", "on", "seen"] (sp_value_of T n)) : FnOk P w K mg base CX0 (1 + n + 1) T.a_value_of T.d_value_of ["expression", "table", "on", "seen"] (sp_value_of T (n + 1)) := by
  refine T.F_value_of.ok sc_value_of (fun vs H Q E h => ?_) (fun cdv A outer s H vs Q E hr h => ?_)
  · obtain ⟨v, t, o, sa, e, ns, ps, tb, on, sn, rfl, _⟩ := h
    rfl
  obtain ⟨v, t, o, sa, e, ns, ps, tb, on, sn, rfl, hv, hd, hw, hT, hS, hB, q⟩ := h
  refine ⟨_, (pss_cons (ps_set (i := 4) sc_value_of.nd rfl (by first | exact Or.inl rfl | exact Or.inr rfl) (pe_ix ix_tup (pv 0) pe_int (fun _ _ => rfl)))
      (pss_cons (ps_if (pt_cmpR op_eq (pv 4) pe_str (nomark _)) (pss_one (ps_ret (pe_ix ix_tup (pv 0) pe_int (fun _ _ => rfl)))) pss_nil)
      (pss_cons (ps_if (pt_cmpR op_eq (pv 4) pe_str (nomark _)) (pss_one (ps_ret (pe_dget (d_room hr) (pv 1) (pe_ix ix_tup (pv 0) pe_int (fun _ _ => rfl)) (fun _ _ => rfl)))) pss_nil)
      (pss_cons (ps_if (pt_cmpR op_eq (pv 4) pe_str (nomark _)) (pss_one (ps_ret (pe_callB (call_min2 rfl) (by rfl) T.z_min (by first | exact PySem.boot_min | decide +kernel) (pa_cons (pe_callB call_len_seq (by rfl) T.z_len (by first | exact PySem.boot_len | decide +kernel) (pa_cons (pv 3) pa_nil)) (pa_cons (pe_glob (by rfl) T.g_GREATEST_NUMBER T.r_GREATEST_NUMBER) pa_nil))))) pss_nil)
      (pss_cons (ps_if (pt_cmpR op_eq (pv 4) pe_str (nomark _)) (pss_cons (ps_set (i := 5) sc_value_of.nd rfl (by first | exact Or.inl rfl | exact Or.inr rfl) (pe_call G hr (by rfl) T.m_value_of T.F_value_of.kp T.b_value_of .nil pass0 (pa_cons (pe_ix ix_tup (pv 0) pe_int (fun _ _ => rfl)) (pa_cons (pv 1) (pa_cons (pv 2) (pa_cons (pv 3) pa_nil))))))
      (pss_one (ps_ret (pe_ifExp (pt_cmpR op_lt (pv 5) (pe_callB call_len_seq (by rfl) T.z_len (by first | exact PySem.boot_len | decide +kernel) (pa_cons (pv 3) pa_nil)) (nomark _)) (pe_ix ix_tup (pv 3) (pv 5) (fun _ _ => rfl)) pe_int)))) pss_nil)
      (pss_cons (ps_if (pt_cmpR op_eq (pv 4) pe_str (nomark _)) (pss_cons (ps_set (i := 6) sc_value_of.nd rfl (by first | exact Or.inl rfl | exact Or.inr rfl) (pe_ifExp (pt_truth (pe_dget (d_room hr) (pv 2) (pe_ix ix_tup (pv 0) pe_int (fun _ _ => rfl)) (fun _ _ => rfl)) (fun _ => rfl)) (pe_ix ix_tup (pv 0) pe_int (fun _ _ => rfl)) (pe_ix ix_tup (pv 0) pe_int (fun _ _ => rfl))))
      (pss_one (ps_ret (pe_call G hr (by rfl) T.m_value_of T.F_value_of.kp T.b_value_of .nil pass0 (pa_cons (pv 6) (pa_cons (pv 1) (pa_cons (pv 2) (pa_cons (pv 3) pa_nil)))))))) pss_nil)
      (pss_cons (ps_set (i := 7) sc_value_of.nd rfl (by first | exact Or.inl rfl | exact Or.inr rfl) (pe_call G hr (by rfl) T.m_value_of T.F_value_of.kp T.b_value_of .nil pass0 (pa_cons (pe_ix ix_tup (pv 0) pe_int (fun _ _ => rfl)) (pa_cons (pv 1) (pa_cons (pv 2) (pa_cons (pv 3) pa_nil))))))
      (pss_cons (ps_set (i := 8) sc_value_of.nd rfl (by first | exact Or.inl rfl | exact Or.inr rfl) (pe_call G hr (by rfl) T.m_value_of T.F_value_of.kp T.b_value_of .nil pass0 (pa_cons (pe_ix ix_tup (pv 0) pe_int (fun _ _ => rfl)) (pa_cons (pv 1) (pa_cons (pv 2) (pa_cons (pv 3) pa_nil))))))
      (pss_one (ps_ret (pe_call (ok_combine T) (hr.mono (by omega)) (by rfl) T.m_combine T.F_combine.kp T.b_combine .nil pass0 (pa_cons (pv 4) (pa_cons (pv 7) (pa_cons (pv 8) pa_nil)))))))))))))), ?_⟩
  obtain ⟨⟨kt, ht, htv⟩, ko, ho, hov⟩ := id hT
  obtain ⟨n1, n2, n3, n4, n5, n6, n7, n8, n9, n10⟩ := num_ne
  cases hv with
  | @num a m ha =>
    refine ⟨_, rfl, a, _, 0, .str "number", rfl, rfl, SqT.of ha, atI_nat (j := 0) rfl, ?_⟩
    refine ⟨_, rfl, rfl, _, rfl, iteS ?_⟩
    exact ⟨_, rfl, a, _, 1, .int m, rfl, rfl, SqT.of ha, atI_nat (j := 1) rfl, q⟩
  | @var a x ha =>
    refine ⟨_, rfl, a, _, 0, .str "variable", rfl, rfl, SqT.of ha, atI_nat (j := 0) rfl, ?_⟩
    refine ⟨_, rfl, rfl, _, rfl, iteN n1 ?_⟩
    refine ⟨_, rfl, rfl, _, rfl, iteS ?_⟩
    exact ⟨_, rfl, _, rfl, a, _, 1, .str x, rfl, rfl, SqT.of ha, atI_nat (j := 1) rfl, t, _, rfl, dget_of ht (htv x hw).1, q⟩
  | @long a ha =>
    refine ⟨_, rfl, a, _, 0, .str "long", rfl, rfl, SqT.of ha, atI_nat (j := 0) rfl, ?_⟩
    refine ⟨_, rfl, rfl, _, rfl, iteN n2 ?_⟩
    refine ⟨_, rfl, rfl, _, rfl, iteN n5 ?_⟩
    refine ⟨_, rfl, rfl, _, rfl, iteS ?_⟩
    refine ⟨_, rfl, sa, _, rfl, .inr hS, _, _, rfl, ?_⟩
    have e2 : (if (65535 : Int) < (((sn.map V.int).length : Nat) : Int) then (65535 : Int) else (((sn.map V.int).length : Nat) : Int)) = min (sn.length : Int) 65535 := by
      rw [List.length_map]
      omega
    rw [e2]
    exact q
  | @view a v e ha hv =>
    have hd' : e.deep ≤ n := by
      have : e.deep + 1 ≤ n + 1 := hd
      omega
    refine ⟨_, rfl, a, _, 0, .str "view", rfl, rfl, SqT.of ha, atI_nat (j := 0) rfl, ?_⟩
    refine ⟨_, rfl, rfl, _, rfl, iteN n3 ?_⟩
    refine ⟨_, rfl, rfl, _, rfl, iteN n6 ?_⟩
    refine ⟨_, rfl, rfl, _, rfl, iteN n8 ?_⟩
    refine ⟨_, rfl, rfl, _, rfl, iteS ?_⟩
    refine ⟨_, rfl, a, _, 1, v, rfl, rfl, SqT.of ha, atI_nat (j := 1) rfl, _, rfl, _, rfl, _, rfl, v, t, o, sa, e, ns, ps, tb, on, sn, rfl, hv, hd', hw, hT, hS, hB, ?_⟩
    have bd := val_bd (on := on) (fun x m => (htv x m).2) hB e hw
    have q' : Q (.int (sn.getD (e.val tb on sn).toNat 0)) H := q
    revert q'
    generalize e.val tb on sn = i at bd
    intro q'
    have i0 := bd.1
    refine ⟨_, rfl, _, rfl, sa, _, rfl, .inr hS, _, _, rfl, rfl, _, rfl, ite2 (fun c => ?_) (fun c => ?_)⟩
    · have c' : i < (((sn.map V.int).length : Nat) : Int) := of_decide_eq_true c
      rw [List.length_map] at c'
      have hlt : i.toNat < sn.length := by omega
      have eg : sn[i.toNat]? = some (sn[i.toNat]) := List.getElem?_eq_getElem hlt
      refine ⟨_, rfl, _, rfl, sa, _, i, .int (sn[i.toNat]), rfl, rfl, hS, at_ofG (j := i.toNat) (by omega) (by rw [List.getElem?_map, eg]; rfl), ?_⟩
      rw [List.getD_eq_getElem?_getD, eg] at q'
      exact q'
    · have c' : ¬ i < (((sn.map V.int).length : Nat) : Int) := fun z => c (decide_eq_true z)
      rw [List.length_map] at c'
      rw [List.getD_eq_getElem?_getD, List.getElem?_eq_none (by omega)] at q'
      exact q'
  | @pick a x v w e f ha hv hv2 =>
    have hd' : max e.deep f.deep + 1 ≤ n + 1 := hd
    refine ⟨_, rfl, a, _, 0, .str "pick", rfl, rfl, SqT.of ha, atI_nat (j := 0) rfl, ?_⟩
    refine ⟨_, rfl, rfl, _, rfl, iteN n4 ?_⟩
    refine ⟨_, rfl, rfl, _, rfl, iteN n7 ?_⟩
    refine ⟨_, rfl, rfl, _, rfl, iteN n9 ?_⟩
    refine ⟨_, rfl, rfl, _, rfl, iteN n10 ?_⟩
    refine ⟨_, rfl, rfl, _, rfl, iteS ?_⟩
    have q' : Q (.int (if on x = true then e.val tb on sn else f.val tb on sn)) H := q
    refine ⟨_, rfl, _, rfl, a, _, 1, .str x, rfl, rfl, SqT.of ha, atI_nat (j := 1) rfl, o, _, rfl, dget_of ho (hov x hw.1), _, rfl, ite2 (fun c => ?_) (fun c => ?_)⟩
    · rw [if_pos c] at q'
      refine ⟨_, rfl, a, _, 2, v, rfl, rfl, SqT.of ha, atI_nat (j := 2) rfl, ?_⟩
      exact ⟨_, rfl, _, rfl, _, rfl, _, rfl, v, t, o, sa, e, ns, ps, tb, on, sn, rfl, hv, by omega, hw.2.1, hT, hS, hB, q'⟩
    · rw [if_neg c] at q'
      refine ⟨_, rfl, a, _, 3, w, rfl, rfl, SqT.of ha, atI_nat (j := 3) rfl, ?_⟩
      exact ⟨_, rfl, _, rfl, _, rfl, _, rfl, w, t, o, sa, f, ns, ps, tb, on, sn, rfl, hv2, by omega, hw.2.2, hT, hS, hB, q'⟩
  | @op a z v w e f ha hv hv2 =>
    have hd' : max e.deep f.deep + 1 ≤ n + 1 := hd
    obtain ⟨m1, m2, m3, m4, m5⟩ := opL_ne hw.1
    refine ⟨_, rfl, a, _, 0, .str z, rfl, rfl, SqT.of ha, atI_nat (j := 0) rfl, ?_⟩
    refine ⟨_, rfl, rfl, _, rfl, iteN m1 ?_⟩
    refine ⟨_, rfl, rfl, _, rfl, iteN m2 ?_⟩
    refine ⟨_, rfl, rfl, _, rfl, iteN m3 ?_⟩
    refine ⟨_, rfl, rfl, _, rfl, iteN m4 ?_⟩
    refine ⟨_, rfl, rfl, _, rfl, iteN m5 ?_⟩
    refine ⟨_, rfl, a, _, 1, v, rfl, rfl, SqT.of ha, atI_nat (j := 1) rfl, _, rfl, _, rfl, _, rfl, v, t, o, sa, e, ns, ps, tb, on, sn, rfl, hv, by omega, hw.2.1, hT, hS, hB, ?_⟩
    refine ⟨_, rfl, a, _, 2, w, rfl, rfl, SqT.of ha, atI_nat (j := 2) rfl, _, rfl, _, rfl, _, rfl, w, t, o, sa, f, ns, ps, tb, on, sn, rfl, hv2, by omega, hw.2.2, hT, hS, hB, ?_⟩
    exact ⟨_, rfl, _, rfl, _, rfl, z, _, _, rfl, hw.1, val_bd (fun x m => (htv x m).2) hB e hw.2.1, val_bd (fun x m => (htv x m).2) hB f hw.2.2, q⟩
theorem ok_value_of (T : Txt K mg w) : ∀ n, FnOk P w K mg base CX0 (1 + n) T.a_value_of T.d_value_of ["expression", "table", "on", "seen"] (sp_value_of T n)
  | 0 => ⟨fun vs H Q E h => absurd h (no_value_of T vs H Q E), fun A outer s H args us vs Q E _ _ _ _ h => absurd h (no_value_of T vs H Q E)⟩
  | n + 1 => step_value_of T (ok_value_of T n)
/-! ### view_numbers -/
def sp_view_numbers (T : Txt K mg w) : Sp := fun vs H Q _ => ∃ (vw : Addr) (ws : List V) (es : List Evt), vs = [.ref vw] ∧ H vw = some (.tup ws) ∧ Paired (VwV H) ws es ∧ es.length ≤ 1000 ∧ ∀ (sa : Addr) (H' : Hp), Same H H' → H sa = none → H' sa = some (.tup ((seenL es).map V.int)) → Q (.ref sa) H'

theorem ok_view_numbers (T : Txt K mg w) : FnOk P w K mg base CX0 1 T.a_view_numbers T.d_view_numbers ["view"] (sp_view_numbers T) := by
  refine T.F_view_numbers.ok sc_view_numbers (fun vs H Q E h => ?_) (fun cdv A outer s H vs Q E hr h => ?_)
  · obtain ⟨vw, ws, es, rfl, _⟩ := h
    rfl
  obtain ⟨vw, ws, es, rfl, hv, hp, hl, q⟩ := h
  refine ⟨_, (pss_cons (ps_set (i := 1) sc_view_numbers.nd rfl (by first | exact Or.inl rfl | exact Or.inr rfl) (pe_lst pa_nil))
      (pss_cons (ps_for PassesOwn.never rfl (pi_tup (pv 0)) (pg_name (i := 2) sc_view_numbers.nd rfl (by first | exact Or.inl rfl | exact Or.inr rfl)) (C8.pss_cut (ps_set (i := 3) sc_view_numbers.nd rfl (by first | exact Or.inl rfl | exact Or.inr rfl) (pe_ifExp (pt_cmpR op_eq (pe_ix ix_tup (pv 2) pe_int (fun _ _ => rfl)) pe_str (nomark _)) (pe_ix ix_tup (pv 2) pe_int (fun _ _ => rfl)) pe_int))
      (pss_one (ps_expr (pe_bm PySem.F.plainAttrs_list PySem.F.slot_list_extend PySem.F.type_list_extend mt_extend (pv 1) (pa_cons (pe_lst (pa_cons (pe_ix ix_kdict (pe_glob (v := .ref T.A_EVENT_NUMBERS) (by rfl) T.g_EVENT_NUMBERS rfl) (pe_ix ix_tup (pv 2) pe_int (fun _ _ => rfl)) (fun _ _ => rfl)) (pa_cons (pe_ix ix_tup (pv 2) pe_int (fun _ _ => rfl)) (pa_cons (pv 3) pa_nil)))) pa_nil))))))
      (pss_one (ps_ret (pe_callTy call_tuple_of (by rfl) T.z_tuple (by first | exact PySem.boot_tuple | decide +kernel) (pa_cons (pv 1) pa_nil)))))), ?_⟩
  refine ⟨by show 0 ≤ sizeLine; decide, fun W fW => ?_⟩
  have sW := same_upd (o := .lst []) fW
  refine ⟨_, rfl, vw, rfl, ⟨_, SqT.of (sW _ _ hv)⟩, for_tup (K := K) (a := vw) (xs := ws) (fun i σ' H' => ∃ (y1 y2 : Option V), σ' = [some (.ref vw), some (.ref W), y1, y2] ∧ Same H H' ∧ H' W = some (.lst ((seenL (es.take i)).map V.int))) ⟨_, _, rfl, sW, upd_same⟩ ?_ ?_ ?_⟩
  · rintro i σ' H' _ ⟨y1, y2, rfl, s1, _⟩
    exact SqT.of (s1 _ _ hv)
  · rintro i x σ' H' hi ⟨y1, y2, rfl, s1, e1⟩
    obtain ⟨⟨kd, n1, n2⟩, ht, lt, U, rfl, hU⟩ := pget hp hi
    have hU' := s1 _ _ hU
    have il : i < es.length := (List.getElem?_eq_some_iff.mp ht).1
    refine ⟨fun σ2 H2 => σ2 = [some (.ref vw), some (.ref W), some (.ref U), some (.int (if kd = 2 then n2 else 0))] ∧ H2 = H', ?_, ?_⟩
    · match kd, lt, hU' with
      | 0, _, hU' =>
        refine ⟨_, rfl, U, _, 0, .str "round", rfl, rfl, SqT.of hU', atI_nat (j := 0) rfl, rfl, _, rfl, iteN (by decide +kernel) ⟨rfl, rfl⟩⟩
      | 1, _, hU' =>
        refine ⟨_, rfl, U, _, 0, .str "told", rfl, rfl, SqT.of hU', atI_nat (j := 0) rfl, rfl, _, rfl, iteN (by decide +kernel) ⟨rfl, rfl⟩⟩
      | 2, _, hU' =>
        refine ⟨_, rfl, U, _, 0, .str "move", rfl, rfl, SqT.of hU', atI_nat (j := 0) rfl, rfl, _, rfl, iteS ⟨_, rfl, U, _, 2, .int n2, rfl, rfl, SqT.of hU', atI_nat (j := 2) rfl, ⟨rfl, rfl⟩⟩⟩
      | 3, _, hU' =>
        refine ⟨_, rfl, U, _, 0, .str "did", rfl, rfl, SqT.of hU', atI_nat (j := 0) rfl, rfl, _, rfl, iteN (by decide +kernel) ⟨rfl, rfl⟩⟩
    rintro σ2 H2 ⟨rfl, rfl⟩
    have step : ∀ (zs : List Int), zs = seen1 (kd, n1, n2) → ∀ b, H2 b = none → ∃ (l : Addr) (b' : Addr) (xs zs' : List V), V.ref W = .ref l ∧ [V.ref b] = [.ref b'] ∧ upd H2 b (.lst (zs.map V.int)) l = some (.lst xs) ∧ upd H2 b (.lst (zs.map V.int)) b' = some (.lst zs') ∧ xs.length + zs'.length ≤ sizeLine ∧ ∃ (y1 y2 : Option V), [some (V.ref vw), some (V.ref W), some (V.ref U), some (V.int (if kd = 2 then n2 else 0))] = [some (.ref vw), some (.ref W), y1, y2] ∧ Same H (upd (upd H2 b (.lst (zs.map V.int))) l (.lst (xs ++ zs'))) ∧ upd (upd H2 b (.lst (zs.map V.int))) l (.lst (xs ++ zs')) W = some (.lst ((seenL (es.take (i + 1))).map V.int)) := fun zs ez b fb => by
      have sb := same_upd (o := .lst (zs.map V.int)) fb
      refine ⟨W, b, _, _, rfl, rfl, sb _ _ e1, upd_same, ?_, _, _, rfl, fun c o e => ?_, ?_⟩
      · rw [List.length_map, List.length_map, ez, seen1_len, seenL_len, List.length_take, sizeLine_eq]
        omega
      · rw [upd_ne (ne_of_none e fW)]
        exact sb _ _ (s1 _ _ e)
      · rw [upd_same, List.take_add_one, ht]
        show _ = some (HO.lst ((seenL (es.take i ++ [(kd, n1, n2)])).map V.int))
        rw [seenL_snoc, List.map_append, ez]
    match kd, lt, hU', step with
    | 0, _, hU', step =>
      refine ⟨_, rfl, .inl ⟨rfl, _, SqL.of e1⟩, _, rfl, U, _, 0, .str "round", rfl, rfl, SqT.of hU', atI_nat (j := 0) rfl, T.A_EVENT_NUMBERS, _, .int 1, rfl, rfl, T.kd_EVENT_NUMBERS_0, _, rfl, U, _, 1, .int n1, rfl, rfl, SqT.of hU', atI_nat (j := 1) rfl, _, rfl, by show 3 ≤ sizeLine; decide, fun b fb => step [1, n1, 0] rfl b fb⟩
    | 1, _, hU', step =>
      refine ⟨_, rfl, .inl ⟨rfl, _, SqL.of e1⟩, _, rfl, U, _, 0, .str "told", rfl, rfl, SqT.of hU', atI_nat (j := 0) rfl, T.A_EVENT_NUMBERS, _, .int 2, rfl, rfl, T.kd_EVENT_NUMBERS_1, _, rfl, U, _, 1, .int n1, rfl, rfl, SqT.of hU', atI_nat (j := 1) rfl, _, rfl, by show 3 ≤ sizeLine; decide, fun b fb => step [2, n1, 0] rfl b fb⟩
    | 2, _, hU', step =>
      refine ⟨_, rfl, .inl ⟨rfl, _, SqL.of e1⟩, _, rfl, U, _, 0, .str "move", rfl, rfl, SqT.of hU', atI_nat (j := 0) rfl, T.A_EVENT_NUMBERS, _, .int 3, rfl, rfl, T.kd_EVENT_NUMBERS_2, _, rfl, U, _, 1, .int n1, rfl, rfl, SqT.of hU', atI_nat (j := 1) rfl, _, rfl, by show 3 ≤ sizeLine; decide, fun b fb => step [3, n1, n2] rfl b fb⟩
    | 3, _, hU', step =>
      refine ⟨_, rfl, .inl ⟨rfl, _, SqL.of e1⟩, _, rfl, U, _, 0, .str "did", rfl, rfl, SqT.of hU', atI_nat (j := 0) rfl, T.A_EVENT_NUMBERS, _, .int 4, rfl, rfl, T.kd_EVENT_NUMBERS_3, _, rfl, U, _, 1, .int n1, rfl, rfl, SqT.of hU', atI_nat (j := 1) rfl, _, rfl, by show 3 ≤ sizeLine; decide, fun b fb => step [4, n1, 0] rfl b fb⟩
  · rintro σ' H' ⟨y1, y2, rfl, s1, e1⟩
    rw [show ws.length = es.length from Paired.length hp, List.take_of_length_le (Nat.le_refl _)] at e1
    refine ⟨_, rfl, W, _, rfl, .inl ⟨SqL.of e1, fun sa fs => q sa _ (s1.trans (same_upd fs)) (s1.free fs) upd_same⟩⟩
/-! ### Thought._enter -/
def sp_Thought_enter (T : Txt K mg w) : Sp := fun vs H Q _ => ∃ (a dx td : Addr) (k : Thk) (u : Nat) (stk : Stk) (si : Bool) (cv rv b : V) (ws : List V) (ss : List Bt), vs = [.ref a, b] ∧ H a = some (.ins T.C_Thought dx (thF k u td si cv rv)) ∧ H td = some (.lst ws) ∧ Paired (TdV H) ws stk ∧ Bx H b ss ∧ stk.length ≤ 1000000 ∧
  ∀ (H' : Hp) (ws' : List V), But td H H' → H' td = some (.lst ws') → Paired (TdV H') ws' (enter stk ss) → Q .non H'

theorem ok_Thought_enter (T : Txt K mg w) : FnOk P w K mg base CX0 1 T.a_Thought_enter T.d_Thought_enter ["self", "block"] (sp_Thought_enter T) := by
  refine T.F_Thought_enter.ok sc_Thought_enter (fun vs H Q E h => ?_) (fun cdv A outer s H vs Q E hr h => ?_)
  · obtain ⟨a, dx, td, k, u, stk, si, cv, rv, b, ws, ss, rfl, _⟩ := h
    rfl
  obtain ⟨a, dx, td, k, u, stk, si, cv, rv, b, ws, ss, rfl, ha, ht, hp, hb, hl, q⟩ := h
  refine ⟨_, (pss_one (ps_if (pt_truth (pv 1) (fun _ => rfl)) (pss_one (ps_expr (pe_bm PySem.F.plainAttrs_list PySem.F.slot_list_append PySem.F.type_list_append mt_append (pe_fld (pv 0) rfl) (pa_cons (pe_tup (pa_cons (pv 1) (pa_cons pe_int pa_nil))) pa_nil)))) pss_nil)), ?_⟩
  obtain ⟨c, us, rfl, hc, hC⟩ := hb
  refine ⟨_, rfl, _, .inr (.inl ⟨us, SqT.of hc, rfl⟩), ite2 (fun e => ?_) (fun e => ?_)⟩
  · have en : ss ≠ [] := fun z => by
      rw [z] at hC
      cases hC
      cases e
    refine ⟨_, rfl, a, T.C_Thought, dx, _, _, rfl, ha, T.cl_Thought, T.n_Thought__todo, lk_ix thNd 5 rfl, .inl ⟨rfl, _, SqL.of ht⟩, _, rfl, by show 2 ≤ sizeLine; decide, fun p fp => ?_⟩
    have s1 := same_upd (o := .tup [.ref c, .int 0]) fp
    have np : p ≠ td := (ne_of_none ht fp).symm
    have pl := hp.length
    refine ⟨td, ws, _, rfl, rfl, s1 _ _ ht, by rw [sizeLine_eq]; omega, ?_⟩
    have kt : KeepT H (upd (upd H p (.tup [.ref c, .int 0])) td (.lst (ws ++ [.ref p]))) := (keepT_of s1).trans (keepT_lst (s1 _ _ ht))
    refine q _ (ws ++ [.ref p]) ((but_of s1).trans but_upd) upd_same ?_
    unfold enter
    rw [if_neg en]
    exact (L2.Paired.mapP hp fun _ _ z => z.keep kt).snoc ⟨p, .ref c, rfl, by rw [upd_ne np]; exact upd_same, c, us, rfl, kt _ _ hc, hC.keep kt⟩
  · have en : ss = [] := by
      cases hC with
      | nil => rfl
      | cons h t => exact absurd rfl e
    refine q _ ws (But.refl _ _) ht ?_
    unfold enter
    rw [if_pos en]
    exact hp
/-! ### Thought.__init__ -/
def sp_Thought_init (T : Txt K mg w) : Sp := fun vs H Q _ => ∃ (x dx br be sa : Addr) (u : Nat) (an : Ex) (cs : List (Str × Int)) (ss : List Bt) (xs sn : List Int), vs = [.ref x, .ref br, .ref be, .ref sa] ∧ H x = some (.ins T.C_Thought dx []) ∧ BrS T.C_Brain H br u cs ss an ∧ H be = some (.tup (xs.map V.int)) ∧ xs.length = cs.length ∧ cs.length ≤ 100 ∧ (cs.map (·.1)).Nodup ∧ (∀ n ∈ xs, Bd n) ∧ H sa = some (.tup (sn.map V.int)) ∧
  ∀ (t td : Addr) (H' : Hp), But x H H' → H t = none → H td = none → ThS T.C_Thought H' x dx td ⟨br, be, sa, t⟩ u (enter [] ss) (tb0 (cs.map (·.1)) xs) (cs.map (·.1)) sn false .non .non → Q .non H'

theorem ok_Thought_init (T : Txt K mg w) : FnOk P w K mg base CX0 2 T.a_Thought_init T.d_Thought_init ["self", "brain", "cells", "seen"] (sp_Thought_init T) := by
  refine T.F_Thought_init.ok sc_Thought_init (fun vs H Q E h => ?_) (fun cdv A outer s H vs Q E hr h => ?_)
  · obtain ⟨x, dx, br, be, sa, u, an, cs, ss, xs, sn, rfl, _⟩ := h
    rfl
  obtain ⟨x, dx, br, be, sa, u, an, cs, ss, xs, sn, rfl, hx, hB, he, hl, hl2, nd, bd, hs, q⟩ := h
  refine ⟨_, (pss_cons (ps_fld (pv 0) (pv 1) rfl)
      (pss_cons (ps_fld (pv 0) (pe_callTy call_tuple_of (by rfl) T.z_tuple (by first | exact PySem.boot_tuple | decide +kernel) (pa_cons (pv 2) pa_nil)) rfl)
      (pss_cons (ps_fld (pv 0) (pv 3) rfl)
      (pss_cons (ps_fld (pv 0) (pe_dc (own := [("value", 4), ("name", 5), ("_", 6)]) (g := (gTup K 2 (gCons (gTup K 2 (gCons (gName 5) (gCons (gName 6) gNil))) (gCons (gName 4) gNil)))) (tt := tYes) rfl sc_Thought_init.nd (RZ.pi_zipA (by rfl) T.z_zip (pa_cons (pe_fld (pv 1) rfl) (pa_cons (pv 2) pa_nil))) (blkOk_by (N := N_Thought_init) (sc := defScope s_Thought_init) (by decide +kernel)) (fun _ _ _ _ _ => (by exact (pg_tup rfl (pgs_cons (pg_tup rfl (pgs_cons (pg_name (i := 5) sc_Thought_init.nd rfl (by first | exact Or.inl rfl | exact Or.inr rfl)) (pgs_cons (pg_name (i := 6) sc_Thought_init.nd rfl (by first | exact Or.inl rfl | exact Or.inr rfl)) pgs_nil))) (pgs_cons (pg_name (i := 4) sc_Thought_init.nd rfl (by first | exact Or.inl rfl | exact Or.inr rfl)) pgs_nil))))) (fun _ _ _ _ _ => pts_nil) (fun _ _ _ _ _ => (by exact (pv 5))) (fun _ _ _ _ _ => (by exact (pv 4)))) rfl)
      (pss_cons (ps_fld (pv 0) (pe_fld (pv 1) rfl) rfl)
      (pss_cons (ps_fld (pv 0) (pe_lst pa_nil) rfl)
      (pss_cons (ps_fld (pv 0) pe_bl rfl)
      (pss_cons (ps_fld (pv 0) pe_non rfl)
      (pss_cons (ps_fld (pv 0) pe_non rfl)
      (pss_one (ps_expr (pe_meth (pv 0) T.cl_Thought T.me_Thought_enter (ok_Thought_enter T) (hr.mono (by decide)) T.b_Thought_enter .nil pass0 (pa_cons (pe_fld (pv 1) rfl) pa_nil))))))))))))), ?_⟩
  obtain ⟨ca, bl, av, cv, ws, dxb, h1, h2, h3, h4, h5, h6⟩ := hB
  have fr : ∀ {o : HO} {c : Addr}, H c = some o → o ≠ .ins T.C_Thought dx [] → c ≠ x := fun e n z => n (by rw [z, hx] at e; exact (Option.some.inj e).symm)
  have nbr : br ≠ x := fr h1 (fun z => by injection z with _ _ z; cases z)
  have nca : ca ≠ x := fr h2 (fun z => by cases z)
  have nbl : bl ≠ x := fr h4 (fun z => by cases z)
  have nbe : be ≠ x := fr he (fun z => by cases z)
  have nsa : sa ≠ x := fr hs (fun z => by cases z)
  have kt : ∀ {H' : Hp}, But x H H' → KeepT H H' := fun b c ys e => b c _ (fr e (fun z => by cases z)) e
  refine ⟨_, rfl, _, rfl, x, T.C_Thought, dx, [], rfl, hx, T.cl_Thought, T.n_Thought__brain, by show 0 < 1000; decide, ?_⟩
  have b1 : But x H (upd H x (.ins T.C_Thought dx [("_brain", .ref br)])) := but_upd
  show tSeq _ _ _ _ (upd H x (.ins T.C_Thought dx [("_brain", .ref br)]))
  refine ⟨_, rfl, be, _, rfl, .inr ⟨SqT.of (b1 _ _ nbe he), ?_⟩⟩
  refine ⟨_, rfl, x, T.C_Thought, dx, [("_brain", .ref br)], rfl, upd_same, T.cl_Thought, T.n_Thought__before, by show 1 < 1000; decide, ?_⟩
  rw [pf_new (show ("_before" : Str) ∉ (["_brain"] : List Str) by decide +kernel), upd_upd]
  refine ⟨_, rfl, _, rfl, x, T.C_Thought, dx, [("_brain", .ref br), ("_before", .ref be)], rfl, upd_same, T.cl_Thought, T.n_Thought__seen, by show 2 < 1000; decide, ?_⟩
  rw [pf_new (show ("_seen" : Str) ∉ (["_brain", "_before"] : List Str) by decide +kernel), upd_upd]
  have b3 : But x H (upd H x (.ins T.C_Thought dx [("_brain", .ref br), ("_before", .ref be), ("_seen", .ref sa)])) := but_upd
  have x3 : upd H x (.ins T.C_Thought dx [("_brain", .ref br), ("_before", .ref be), ("_seen", .ref sa)]) x = some (.ins T.C_Thought dx [("_brain", .ref br), ("_before", .ref be), ("_seen", .ref sa)]) := upd_same
  show tSeq _ _ _ _ (upd H x (.ins T.C_Thought dx [("_brain", .ref br), ("_before", .ref be), ("_seen", .ref sa)]))
  clear b1
  revert b3 x3
  generalize upd H x (.ins T.C_Thought dx [("_brain", .ref br), ("_before", .ref be), ("_seen", .ref sa)]) = H3
  intro b3 x3
  have k3 := kt b3
  have c3 := b3 _ _ nca h2
  have e3 := b3 _ _ nbe he
  have p3 := L2.Paired.mapP h3 fun _ _ z => z.keep k3
  refine ⟨_, rfl, br, T.C_Brain, dxb, _, _, rfl, b3 _ _ nbr h1, T.cl_Brain, T.n_Brain_cells, lk_ix (i := 1) (brNd) rfl, _, rfl, ca, be, cv, _, rfl, .inr ⟨SqT.of c3, SqT.of e3, fun D hD => ?_⟩⟩
  have cl : cv.length = cs.length := Paired.length h3
  refine dc_zipT (by rw [cl, List.length_map, hl]) (fun i H' => Same H3 H' ∧ ∃ kvs, H' D = some (.dK kvs) ∧ DTI (cs.map (·.1)) (tb0 (cs.map (·.1)) xs) i kvs) ⟨same_upd hD, [], upd_same, DTI.nil⟩ (fun i H' h => ⟨SqT.of (h.1 _ _ c3), SqT.of (h.1 _ _ e3)⟩) (fun i v y T1 H' hv hy h hT => ?_) (fun H' h => ?_)
  · obtain ⟨s4, kvs, e4, d4⟩ := h
    obtain ⟨t, ht, U2, rfl, hU2⟩ := pget p3 hv
    rw [List.getElem?_map] at hy
    obtain ⟨n, hn, rfl⟩ : ∃ n, xs[i]? = some n ∧ y = .int n := by
      cases z : xs[i]? with
      | none => rw [z] at hy; cases hy
      | some n => rw [z] at hy; cases hy; exact ⟨n, rfl, rfl⟩
    have sT := same_upd (o := .tup [V.ref U2, .int n]) hT
    refine ⟨T1, _, rfl, SqT.of upd_same, rfl, _, _, rfl, ⟨U2, _, rfl, SqT.of (sT _ _ (s4 _ _ hU2)), rfl, _, _, rfl, _, _, rfl, rfl, ?_⟩⟩
    have hx1 : (cs.map (·.1))[i]? = some t.1 := by rw [List.getElem?_map, ht]; rfl
    have il : i < cs.length := (List.getElem?_eq_some_iff.mp ht).1
    refine ⟨_, _, rfl, rfl, ?_⟩
    refine ⟨rfl, ?_⟩
    refine ⟨_, rfl, _, rfl, kvs, .inr t.1, rfl, sT _ _ e4, small1000 (by rw [d4.len]; omega), fun c o e => ?_, _, upd_same, d4.put nd hx1 (tb0_at nd hx1 hn)⟩
    rw [upd_ne (ne_of_none e hD)]
    exact sT _ _ (s4 _ _ e)
  obtain ⟨s4, kvs, e4, d4⟩ := h
  have nD : D ≠ x := (ne_of_none x3 hD).symm
  refine ⟨_, rfl, x, T.C_Thought, dx, _, rfl, s4 _ _ x3, T.cl_Thought, T.n_Thought__table, by show 3 < 1000; decide, ?_⟩
  rw [pf_new (show ("_table" : Str) ∉ (["_brain", "_before", "_seen"] : List Str) by decide +kernel)]
  show tSeq _ _ _ _ (upd H' x (.ins T.C_Thought dx [("_brain", .ref br), ("_before", .ref be), ("_seen", .ref sa), ("_table", .ref D)]))
  have b5 : But x H (upd H' x (.ins T.C_Thought dx [("_brain", .ref br), ("_before", .ref be), ("_seen", .ref sa), ("_table", .ref D)])) := (b3.trans (but_of s4)).trans but_upd
  have x5 : upd H' x (.ins T.C_Thought dx [("_brain", .ref br), ("_before", .ref be), ("_seen", .ref sa), ("_table", .ref D)]) x = some (.ins T.C_Thought dx [("_brain", .ref br), ("_before", .ref be), ("_seen", .ref sa), ("_table", .ref D)]) := upd_same
  have t5 : upd H' x (.ins T.C_Thought dx [("_brain", .ref br), ("_before", .ref be), ("_seen", .ref sa), ("_table", .ref D)]) D = some (.dK kvs) := by rw [upd_ne nD]; exact e4
  have fD : H D = none := by
    cases z : H D with
    | none => rfl
    | some o =>
      have := b3 D o nD z
      rw [hD] at this
      cases this
  revert b5 x5 t5
  generalize upd H' x (.ins T.C_Thought dx [("_brain", .ref br), ("_before", .ref be), ("_seen", .ref sa), ("_table", .ref D)]) = H5
  intro b5 x5 t5
  clear b3 x3 k3 c3 e3 p3 s4 e4 hD
  refine ⟨_, rfl, br, T.C_Brain, dxb, _, _, rfl, b5 _ _ nbr h1, T.cl_Brain, T.n_Brain_units, lk_ix (i := 0) (brNd) rfl, ?_⟩
  refine ⟨_, rfl, x, T.C_Thought, dx, _, rfl, x5, T.cl_Thought, T.n_Thought__left, by show 4 < 1000; decide, ?_⟩
  rw [pf_new (show ("_left" : Str) ∉ (["_brain", "_before", "_seen", "_table"] : List Str) by decide +kernel)]
  refine ⟨by show 0 ≤ sizeLine; decide, fun td ftd => ?_⟩
  have ntx : td ≠ x := fun z => by rw [z, upd_same] at ftd; cases ftd
  have ftd' : H5 td = none := by rw [upd_ne ntx] at ftd; exact ftd
  have ntD : td ≠ D := fun z => by rw [z, t5] at ftd'; cases ftd'
  refine ⟨_, rfl, x, T.C_Thought, dx, [("_brain", .ref br), ("_before", .ref be), ("_seen", .ref sa), ("_table", .ref D), ("_left", .int u)], rfl, by rw [upd_ne ntx.symm]; exact upd_same, T.cl_Thought, T.n_Thought__todo, by show 5 < 1000; decide, ?_⟩
  rw [pf_new (show ("_todo" : Str) ∉ (["_brain", "_before", "_seen", "_table", "_left"] : List Str) by decide +kernel)]
  refine ⟨_, rfl, x, T.C_Thought, dx, [("_brain", .ref br), ("_before", .ref be), ("_seen", .ref sa), ("_table", .ref D), ("_left", .int u), ("_todo", .ref td)], rfl, upd_same, T.cl_Thought, T.n_Thought__silent, by show 6 < 1000; decide, ?_⟩
  rw [pf_new (show ("_silent" : Str) ∉ (["_brain", "_before", "_seen", "_table", "_left", "_todo"] : List Str) by decide +kernel), upd_upd]
  refine ⟨_, rfl, x, T.C_Thought, dx, [("_brain", .ref br), ("_before", .ref be), ("_seen", .ref sa), ("_table", .ref D), ("_left", .int u), ("_todo", .ref td), ("_silent", .bl false)], rfl, upd_same, T.cl_Thought, T.n_Thought__cell, by show 7 < 1000; decide, ?_⟩
  rw [pf_new (show ("_cell" : Str) ∉ (["_brain", "_before", "_seen", "_table", "_left", "_todo", "_silent"] : List Str) by decide +kernel), upd_upd]
  refine ⟨_, rfl, x, T.C_Thought, dx, [("_brain", .ref br), ("_before", .ref be), ("_seen", .ref sa), ("_table", .ref D), ("_left", .int u), ("_todo", .ref td), ("_silent", .bl false), ("_cell", .non)], rfl, upd_same, T.cl_Thought, T.n_Thought_results, by show 8 < 1000; decide, ?_⟩
  rw [pf_new (show ("results" : Str) ∉ (["_brain", "_before", "_seen", "_table", "_left", "_todo", "_silent", "_cell"] : List Str) by decide +kernel), upd_upd]
  have b6 : But x H (upd (upd (upd H5 x (.ins T.C_Thought dx [("_brain", .ref br), ("_before", .ref be), ("_seen", .ref sa), ("_table", .ref D), ("_left", .int u)])) td (.lst [])) x (.ins T.C_Thought dx (thF ⟨br, be, sa, D⟩ u td false .non .non))) := ((b5.trans but_upd).trans (but_of (same_upd ftd))).trans but_upd
  have x6 : upd (upd (upd H5 x (.ins T.C_Thought dx [("_brain", .ref br), ("_before", .ref be), ("_seen", .ref sa), ("_table", .ref D), ("_left", .int u)])) td (.lst [])) x (.ins T.C_Thought dx (thF ⟨br, be, sa, D⟩ u td false .non .non)) x = some (.ins T.C_Thought dx (thF ⟨br, be, sa, D⟩ u td false .non .non)) := upd_same
  have t6 : upd (upd (upd H5 x (.ins T.C_Thought dx [("_brain", .ref br), ("_before", .ref be), ("_seen", .ref sa), ("_table", .ref D), ("_left", .int u)])) td (.lst [])) x (.ins T.C_Thought dx (thF ⟨br, be, sa, D⟩ u td false .non .non)) td = some (.lst []) := by rw [upd_ne ntx, upd_same]
  have d6 : upd (upd (upd H5 x (.ins T.C_Thought dx [("_brain", .ref br), ("_before", .ref be), ("_seen", .ref sa), ("_table", .ref D), ("_left", .int u)])) td (.lst [])) x (.ins T.C_Thought dx (thF ⟨br, be, sa, D⟩ u td false .non .non)) D = some (.dK kvs) := by rw [upd_ne nD, upd_ne ntD.symm, upd_ne nD, t5]
  show Ends.nx _ _ (upd (upd (upd H5 x (.ins T.C_Thought dx [("_brain", .ref br), ("_before", .ref be), ("_seen", .ref sa), ("_table", .ref D), ("_left", .int u)])) td (.lst [])) x (.ins T.C_Thought dx (thF ⟨br, be, sa, D⟩ u td false .non .non)))
  revert b6 x6 t6 d6
  generalize upd (upd (upd H5 x (.ins T.C_Thought dx [("_brain", .ref br), ("_before", .ref be), ("_seen", .ref sa), ("_table", .ref D), ("_left", .int u)])) td (.lst [])) x (.ins T.C_Thought dx (thF ⟨br, be, sa, D⟩ u td false .non .non)) = H6
  intro b6 x6 t6 d6
  have k6 := kt b6
  refine ⟨_, rfl, x, dx, _, rfl, x6, th_no th_meths.1, _, rfl, br, T.C_Brain, dxb, _, _, rfl, b6 _ _ nbr h1, T.cl_Brain, T.n_Brain_block, lk_ix (i := 2) (brNd) rfl, x, dx, td, ⟨br, be, sa, D⟩, u, [], false, .non, .non, .ref bl, [], ss, rfl, x6, t6, .nil, ⟨bl, ws, rfl, b6 _ _ nbl h4, h5.keep k6⟩, by decide, fun H7 ws' b7 e7 p7 => ?_⟩
  have fT : H td = none := by
    cases z : H td with
    | none => rfl
    | some o =>
      have := b5 td o ntx z
      rw [ftd'] at this
      cases this
  have b67 : But x H H7 := fun c o n e => b7 _ _ (ne_of_none e fT) (b6 _ _ n e)
  refine q D td H7 b67 fD fT ⟨b7 _ _ ntx.symm x6, ⟨ws', e7, p7⟩, ?_, b67 _ _ nsa hs⟩
  exact DTI.dt (b7 _ _ ntD.symm d6) (by rw [List.length_map]; exact hl2) (by rw [List.length_map, ← cl]; exact d4) (fun x _ => tb0_bd bd)
/-! ### Thought.after -/
theorem make_thought (T : Txt K mg w) {H : Hp} {R : Addr → Hp → Prop} {E : XK} {br be sa : Addr} {u : Nat} {cs : List (Str × Int)} {ss : List Bt} {an : Ex} {xs sn : List Int} (hB : BrS T.C_Brain H br u cs ss an) (he : H be = some (.tup (xs.map V.int))) (hl : xs.length = cs.length) (hl2 : cs.length ≤ 100) (nd : (cs.map (·.1)).Nodup) (bd : ∀ n ∈ xs, Bd n) (hs : H sa = some (.tup (sn.map V.int)))
    (k : ∀ (x dx t td : Addr) (H' : Hp), Same H H' → H x = none → H t = none → H td = none → ThS T.C_Thought H' x dx td ⟨br, be, sa, t⟩ u (enter [] ss) (tb0 (cs.map (·.1)) xs) (cs.map (·.1)) sn false .non .non → R x H') :
    ∀ x dx, H x = none → H dx = none → dx ≠ x → sp_Thought_init T [.ref x, .ref br, .ref be, .ref sa] (upd (upd H dx (.own x)) x (.ins T.C_Thought dx [])) (fun v H2 => v = .non ∧ R x H2) E := by
  intro x dx nx nd' ne
  have s1 : Same H (upd (upd H dx (.own x)) x (.ins T.C_Thought dx [])) := fun b o e => by rw [upd_ne (ne_of_none e nx), upd_ne (ne_of_none e nd')]; exact e
  exact ⟨x, dx, br, be, sa, u, an, cs, ss, xs, sn, rfl, upd_same, hB.same s1, s1 _ _ he, hl, hl2, nd, bd, s1 _ _ hs, fun t td H' hk ft ftd hT => ⟨rfl, k x dx t td H' (fun b o e => hk b o (ne_of_none e nx) (s1 _ _ e)) nx (s1.free ft) (s1.free ftd) hT⟩⟩
def sp_Thought_after (T : Txt K mg w) : Sp := fun vs H Q _ => ∃ (a dx td : Addr) (k : Thk) (u u0 : Nat) (stk : Stk) (tb : Str → Int) (cs : List (Str × Int)) (ss : List Bt) (an : Ex) (xs sn : List Int) (x : Str) (rv : V) (r : Int), vs = [.ref a, .int r] ∧ ThS T.C_Thought H a dx td k u stk tb (cs.map (·.1)) sn false (.str x) rv ∧ x ∈ cs.map (·.1) ∧ Bd r ∧ ThC T.C_Brain H k u0 cs ss an xs ∧
  ∀ (a' dx' td' : Addr) (k' : Thk) (H' : Hp), Same H H' → H a' = none → H td' = none → H k'.t = none → k'.br = k.br → k'.be = k.be → k'.sa = k.sa → ThS T.C_Thought H' a' dx' td' k' u stk (putT tb x r) (cs.map (·.1)) sn false .non .non → Q (.ref a') H'

theorem ok_Thought_after (T : Txt K mg w) : FnOk P w K mg base CX0 4 T.a_Thought_after T.d_Thought_after ["self", "result"] (sp_Thought_after T) := by
  refine T.F_Thought_after.ok sc_Thought_after (fun vs H Q E h => ?_) (fun cdv A outer s H vs Q E hr h => ?_)
  · obtain ⟨a, dx, td, k, u, u0, stk, tb, cs, ss, an, xs, sn, x, rv, r, rfl, _⟩ := h
    rfl
  obtain ⟨a, dx, td, k, u, u0, stk, tb, cs, ss, an, xs, sn, x, rv, r, rfl, hs, hx, hb, hC, q⟩ := h
  refine ⟨_, (pss_cons (ps_set (i := 2) sc_Thought_after.nd rfl (by first | exact Or.inl rfl | exact Or.inr rfl) (pe_make T.mk_Thought (ok_Thought_init T) (hr.mono (by decide)) (by rfl) T.m_Thought T.b_Thought_init .nil pass0 (pa_cons (pe_fld (pv 0) rfl) (pa_cons (pe_fld (pv 0) rfl) (pa_cons (pe_fld (pv 0) rfl) pa_nil)))))
      (pss_cons (ps_fld (pv 2) (pe_callTy call_dictD (by rfl) T.z_dict (by first | exact PySem.boot_dict | decide +kernel) (pa_cons (pe_fld (pv 0) rfl) pa_nil)) rfl)
      (pss_cons (ps_asg (pv 1) (pg_sub (pe_fld (pv 2) rfl) (pe_fld (pv 0) rfl) (set_dict (d_room hr))))
      (pss_cons (ps_fld (pv 2) (pe_fld (pv 0) rfl) rfl)
      (pss_cons (ps_fld (pv 2) (pe_callTy call_list_of (by rfl) T.z_list (by first | exact PySem.boot_list | decide +kernel) (pa_cons (pe_fld (pv 0) rfl) pa_nil)) rfl)
      (pss_one (ps_ret (pv 2)))))))), ?_⟩
  refine ⟨_, rfl, a, T.C_Thought, dx, _, _, rfl, hs.ob, T.cl_Thought, T.n_Thought__brain, lk_ix thNd 0 rfl, _, rfl, a, T.C_Thought, dx, _, _, rfl, hs.ob, T.cl_Thought, T.n_Thought__before, lk_ix thNd 1 rfl, _, rfl, a, T.C_Thought, dx, _, _, rfl, hs.ob, T.cl_Thought, T.n_Thought__seen, lk_ix thNd 2 rfl, ?_⟩
  refine make_thought T hC.br hC.be hC.len hC.l2 hC.nd hC.bd hs.see fun y dy t1 td1 H1 s1 fy ft1 ftd1 hy => ?_
  obtain ⟨kvs, e1, e2, e3, e4⟩ := hs.tab
  obtain ⟨wv, w1, w2⟩ := hs.to
  refine ⟨_, rfl, a, T.C_Thought, dx, _, _, rfl, s1 _ _ hs.ob, T.cl_Thought, T.n_Thought__table, lk_ix thNd 3 rfl, k.t, kvs, rfl, .inl (s1 _ _ e1), fun p fp => ?_⟩
  have s2 := same_upd (o := .dK kvs) fp
  have hyp : y ≠ p := ne_of_none hy.ob fp
  refine ⟨_, rfl, y, T.C_Thought, dy, _, rfl, s2 _ _ hy.ob, T.cl_Thought, T.n_Thought__table, by show 9 < 1000; decide, ?_⟩
  rw [pf_ix thNd 3 rfl]
  have fp0 : H p = none := s1.free fp
  have nap : a ≠ y := ne_of_none hs.ob fy
  have ob3 : upd (upd H1 p (.dK kvs)) y (.ins T.C_Thought dy (thF ⟨k.br, k.be, k.sa, p⟩ u0 td1 false .non .non)) y = some (.ins T.C_Thought dy (thF ⟨k.br, k.be, k.sa, p⟩ u0 td1 false .non .non)) := upd_same
  have st3 : Same H (upd (upd H1 p (.dK kvs)) y (.ins T.C_Thought dy (thF ⟨k.br, k.be, k.sa, p⟩ u0 td1 false .non .non))) := fun b o e => by
    rw [upd_ne (ne_of_none e fy)]
    exact s2 _ _ (s1 _ _ e)
  have p3 : upd (upd H1 p (.dK kvs)) y (.ins T.C_Thought dy (thF ⟨k.br, k.be, k.sa, p⟩ u0 td1 false .non .non)) p = some (.dK kvs) := by rw [upd_ne hyp.symm]; exact upd_same
  refine ⟨_, rfl, _, rfl, y, T.C_Thought, dy, thF ⟨k.br, k.be, k.sa, p⟩ u0 td1 false .non .non, _, rfl, ob3, T.cl_Thought, T.n_Thought__table, lk_ix thNd 3 rfl, _, rfl, a, T.C_Thought, dx, _, _, rfl, st3 _ _ hs.ob, T.cl_Thought, T.n_Thought__cell, lk_ix thNd 7 rfl, p, _, rfl, DPut.k (k := .inr x) p3 (small1000 (by omega)), ?_⟩
  have ob4 : upd (upd (upd H1 p (.dK kvs)) y (.ins T.C_Thought dy (thF ⟨k.br, k.be, k.sa, p⟩ u0 td1 false .non .non))) p (.dK (putK kvs (.inr x) (.int r))) y = some (.ins T.C_Thought dy (thF ⟨k.br, k.be, k.sa, p⟩ u0 td1 false .non .non)) := by rw [upd_ne hyp]; exact ob3
  have st4 : Same H (upd (upd (upd H1 p (.dK kvs)) y (.ins T.C_Thought dy (thF ⟨k.br, k.be, k.sa, p⟩ u0 td1 false .non .non))) p (.dK (putK kvs (.inr x) (.int r)))) := fun b o e => by
    rw [upd_ne (ne_of_none e fp0)]
    exact st3 _ _ e
  have d4 : DT (upd (upd (upd H1 p (.dK kvs)) y (.ins T.C_Thought dy (thF ⟨k.br, k.be, k.sa, p⟩ u0 td1 false .non .non))) p (.dK (putK kvs (.inr x) (.int r)))) p (cs.map (·.1)) (putT tb x r) := DT.put e2 e3 e4 hx hb upd_same
  show tSeq _ _ _ _ (upd (upd (upd H1 p (.dK kvs)) y (.ins T.C_Thought dy (thF ⟨k.br, k.be, k.sa, p⟩ u0 td1 false .non .non))) p (.dK (putK kvs (.inr x) (.int r))))
  revert ob4 st4 d4
  generalize upd (upd (upd H1 p (.dK kvs)) y (.ins T.C_Thought dy (thF ⟨k.br, k.be, k.sa, p⟩ u0 td1 false .non .non))) p (.dK (putK kvs (.inr x) (.int r))) = H4
  intro ob4 st4 d4
  refine ⟨_, rfl, a, T.C_Thought, dx, _, _, rfl, st4 _ _ hs.ob, T.cl_Thought, T.n_Thought__left, lk_ix thNd 4 rfl, ?_⟩
  refine ⟨_, rfl, y, T.C_Thought, dy, _, rfl, ob4, T.cl_Thought, T.n_Thought__left, by show 9 < 1000; decide, ?_⟩
  rw [pf_ix thNd 4 rfl]
  have b5 : But y H4 (upd H4 y (.ins T.C_Thought dy (thF ⟨k.br, k.be, k.sa, p⟩ u td1 false .non .non))) := but_upd
  have o5 : upd H4 y (.ins T.C_Thought dy (thF ⟨k.br, k.be, k.sa, p⟩ u td1 false .non .non)) y = some (.ins T.C_Thought dy (thF ⟨k.br, k.be, k.sa, p⟩ u td1 false .non .non)) := upd_same
  show tSeq _ _ _ _ (upd H4 y (.ins T.C_Thought dy (thF ⟨k.br, k.be, k.sa, p⟩ u td1 false .non .non)))
  revert b5 o5
  generalize upd H4 y (.ins T.C_Thought dy (thF ⟨k.br, k.be, k.sa, p⟩ u td1 false .non .non)) = H5
  intro b5 o5
  have st5 : Same H H5 := fun b o e => b5 _ _ (ne_of_none e fy) (st4 _ _ e)
  refine ⟨_, rfl, a, T.C_Thought, dx, _, _, rfl, st5 _ _ hs.ob, T.cl_Thought, T.n_Thought__todo, lk_ix thNd 5 rfl, td, wv, rfl, .inl (SqL.of (st5 _ _ w1)), fun td' ftd => ?_⟩
  have s6 := same_upd (o := .lst wv) ftd
  have nyt : y ≠ td' := ne_of_none o5 ftd
  refine ⟨_, rfl, y, T.C_Thought, dy, _, rfl, s6 _ _ o5, T.cl_Thought, T.n_Thought__todo, by show 9 < 1000; decide, ?_⟩
  rw [pf_ix thNd 5 rfl]
  have st7 : Same H (upd (upd H5 td' (.lst wv)) y (.ins T.C_Thought dy (thF ⟨k.br, k.be, k.sa, p⟩ u td' false .non .non))) := fun b o e => by
    rw [upd_ne (ne_of_none e fy)]
    exact s6 _ _ (st5 _ _ e)
  obtain ⟨kv, g1, g2⟩ := d4
  have npy : p ≠ y := hyp.symm
  have npt : p ≠ td' := ne_of_none (b5 _ _ npy g1) ftd
  refine ⟨_, rfl, q y dy td' ⟨k.br, k.be, k.sa, p⟩ _ st7 fy (st5.free ftd) fp0 rfl rfl rfl ⟨upd_same, ⟨wv, by rw [upd_ne nyt.symm]; exact upd_same, L2.Paired.mapP w2 fun _ _ z => z.keep (keepT_of st7)⟩, ⟨kv, ?_, g2⟩, st7 _ _ hs.see⟩⟩
  rw [upd_ne npy, upd_ne npt]
  exact b5 _ _ npy g1
/-! ### Thought._give -/
def sp_Thought_give (T : Txt K mg w) : Sp := fun vs H Q _ => ∃ (a dx td : Addr) (k : Thk) (u : Nat) (stk : Stk) (tb : Str → Int) (ns : List Str) (sn : List Int) (si : Bool) (cv rv : V) (kd x : Str) (n : Int), vs = [.ref a, .str kd, .str x, .int n] ∧ ThS T.C_Thought H a dx td k u stk tb ns sn si cv rv ∧ x ∈ ns ∧ Bd n ∧
  ((kd = "lot" ∧ 0 < n ∧ ∀ H', But a H H' → H' a = some (.ins T.C_Thought dx (thF k u td si (.str x) (.int n))) → Q .non H') ∨ (¬ (kd = "lot" ∧ 0 < n) ∧ ∀ H', But k.t H H' → DT H' k.t ns (putT tb x n) → Q .non H'))

theorem ok_Thought_give (T : Txt K mg w) : FnOk P w K mg base CX0 1 T.a_Thought_give T.d_Thought_give ["self", "kind", "cell", "value"] (sp_Thought_give T) := by
  refine T.F_Thought_give.ok sc_Thought_give (fun vs H Q E h => ?_) (fun cdv A outer s H vs Q E hr h => ?_)
  · obtain ⟨a, dx, td, k, u, stk, tb, ns, sn, si, cv, rv, kd, x, n, rfl, _⟩ := h
    rfl
  obtain ⟨a, dx, td, k, u, stk, tb, ns, sn, si, cv, rv, kd, x, n, rfl, hs, hx, hn, q⟩ := h
  refine ⟨_, (pss_one (ps_if (PW.pt (pw_and (pt_cmpR op_eq (pv 1) pe_str (nomark _)) (pw_and1 (pt_cmpR op_gt (pv 3) pe_int (nomark _))))) (pss_cons (ps_fld (pv 0) (pv 2) rfl)
      (pss_one (ps_fld (pv 0) (pv 3) rfl))) (pss_one (ps_asg (pv 3) (pg_sub (pe_fld (pv 0) rfl) (pv 2) (set_dict (d_room hr))))))), ?_⟩
  obtain ⟨kvs, e1, e2, e3, e4⟩ := hs.tab
  have put : ¬ (kd = "lot" ∧ 0 < n) → Q .non (upd H k.t (.dK (putK kvs (.inr x) (.int n)))) := fun hn' => by
    rcases q with ⟨q1, q2, _⟩ | ⟨_, q⟩
    · exact absurd ⟨q1, q2⟩ hn'
    · exact q _ but_upd (DT.put e2 e3 e4 hx hn upd_same)
  refine ⟨_, rfl, rfl, _, rfl, ite2 (fun c1 => ?_) (fun c1 => ?_)⟩
  · refine ⟨_, rfl, _, _, rfl, rfl, _, rfl, ite2 (fun c2 => ?_) (fun c2 => ?_)⟩
    · have c2' : 0 < n := of_decide_eq_true c2
      rcases q with ⟨_, _, q⟩ | ⟨q1, _⟩
      · refine ⟨_, rfl, _, rfl, a, T.C_Thought, dx, _, rfl, hs.ob, T.cl_Thought, T.n_Thought__cell, by show 9 < 1000; decide, ?_⟩
        rw [pf_ix thNd 7 rfl]
        refine ⟨_, rfl, _, rfl, a, T.C_Thought, dx, thF k u td si (.str x) rv, rfl, upd_same, T.cl_Thought, T.n_Thought_results, by show 9 < 1000; decide, ?_⟩
        rw [pf_ix thNd 8 rfl, upd_upd]
        exact q _ but_upd upd_same
      · exact absurd ⟨str_eq c1, c2'⟩ q1
    · have n2 : ¬ (kd = "lot" ∧ 0 < n) := fun z => c2 (decide_eq_true z.2)
      exact ⟨_, rfl, _, rfl, a, T.C_Thought, dx, _, _, rfl, hs.ob, T.cl_Thought, T.n_Thought__table, lk_ix thNd 3 rfl, _, rfl, k.t, _, rfl, DPut.k (k := .inr x) e1 (small1000 (by omega)), put n2⟩
  · have n2 : ¬ (kd = "lot" ∧ 0 < n) := fun z => c1 (decide_eq_true (congrArg V.str z.1))
    exact ⟨_, rfl, _, rfl, a, T.C_Thought, dx, _, _, rfl, hs.ob, T.cl_Thought, T.n_Thought__table, lk_ix thNd 3 rfl, _, rfl, k.t, _, rfl, DPut.k (k := .inr x) e1 (small1000 (by omega)), put n2⟩
/-! ### Thought._value -/
def sp_Thought_value (T : Txt K mg w) : Sp := fun vs H Q _ => ∃ (a dx td : Addr) (k : Thk) (u : Nat) (stk : Stk) (tb : Str → Int) (ns : List Str) (sn : List Int) (si : Bool) (cv rv v : V) (e : Ex), vs = [.ref a, v] ∧ ThS T.C_Thought H a dx td k u stk tb ns sn si cv rv ∧ Ev H v e ∧ e.Wf ns [] ∧ e.deep ≤ 13 ∧ (∀ n ∈ sn, Bd n) ∧
  ∀ (H' : Hp), Same H H' → Q (.int (e.val tb offB sn)) H'

theorem ok_Thought_value (T : Txt K mg w) : FnOk P w K mg base CX0 15 T.a_Thought_value T.d_Thought_value ["self", "expression"] (sp_Thought_value T) := by
  refine T.F_Thought_value.ok sc_Thought_value (fun vs H Q E h => ?_) (fun cdv A outer s H vs Q E hr h => ?_)
  · obtain ⟨a, dx, td, k, u, stk, tb, ns, sn, si, cv, rv, v, e, rfl, _⟩ := h
    rfl
  obtain ⟨a, dx, td, k, u, stk, tb, ns, sn, si, cv, rv, v, e, rfl, hs, hv, hw, hd, hB, q⟩ := h
  refine ⟨_, (pss_one (ps_ret (pe_call (ok_value_of T 13) (hr.mono (by decide)) (by rfl) T.m_value_of T.F_value_of.kp T.b_value_of .nil pass0 (pa_cons (pv 1) (pa_cons (pe_fld (pv 0) rfl) (pa_cons pe_dnewK (pa_cons (pe_fld (pv 0) rfl) pa_nil))))))), ?_⟩
  refine ⟨_, rfl, _, rfl, a, T.C_Thought, dx, _, _, rfl, hs.ob, T.cl_Thought, T.n_Thought__table, lk_ix thNd 3 rfl, fun o fo => ?_⟩
  have so := same_upd (o := .dK []) fo
  have hs1 := hs.same so
  refine ⟨_, rfl, a, T.C_Thought, dx, _, _, rfl, hs1.ob, T.cl_Thought, T.n_Thought__seen, lk_ix thNd 2 rfl, v, k.t, o, k.sa, e, ns, [], tb, offB, sn, rfl, hv.keep (keepT_of so), hd, hw, hs1.tab.env upd_same, SqT.of hs1.see, hB, q _ so⟩
/-! ### Thought._do -/
def rvOf : Option (Str × Int) → V
  | none => .non
  | some p => .int p.2
def PdOk (ns : List Str) (cv : V) (pd : Option (Str × Int)) : Prop := ∀ x n, pd = some (x, n) → x ∈ ns ∧ 0 < n ∧ Bd n ∧ cv = .str x
theorem pd_none {ns : List Str} {cv : V} : PdOk ns cv none := fun _ _ h => by cases h
def sp_Thought_do (T : Txt K mg w) : Sp := fun vs H Q _ => ∃ (a dx td : Addr) (k : Thk) (u : Nat) (stk : Stk) (tb : Str → Int) (ns : List Str) (sn : List Int) (si : Bool) (cv v : V) (z : Bt), vs = [.ref a, v] ∧ ThS T.C_Thought H a dx td k u stk tb ns sn si cv .non ∧ Sb H v z ∧ z.Wf ns ∧ (∀ n ∈ sn, Bd n) ∧ stk.length ≤ 900000 ∧ StkOk stk ∧ StkW ns stk ∧
  ∀ (H' : Hp) (stk' : Stk) (tb' : Str → Int) (cv' : V) (pd : Option (Str × Int)), B3 a td k.t H H' → ThS T.C_Thought H' a dx td k u stk' tb' ns sn si cv' (rvOf pd) → StkOk stk' → StkW ns stk' → stk'.length ≤ stk.length + 2 →
    (∀ fl tk, runM sn fl (u + 1) (z :: flat stk) tb tk = pend sn fl u (flat stk') tb' tk pd) → PdOk ns cv' pd → Q .non H'

theorem ok_Thought_do (T : Txt K mg w) : FnOk P w K mg base CX0 16 T.a_Thought_do T.d_Thought_do ["self", "statement"] (sp_Thought_do T) := by
  refine T.F_Thought_do.ok sc_Thought_do (fun vs H Q E h => ?_) (fun cdv A outer s H vs Q E hr h => ?_)
  · obtain ⟨a, dx, td, k, u, stk, tb, ns, sn, si, cv, v, z, rfl, _⟩ := h
    rfl
  obtain ⟨a, dx, td, k, u, stk, tb, ns, sn, si, cv, v, z, rfl, hs, hv, hw, hB, hl, hok, hsw, q⟩ := h
  refine ⟨_, (pss_cons (ps_set (i := 2) sc_Thought_do.nd rfl (by first | exact Or.inl rfl | exact Or.inr rfl) (pe_ix ix_tup (pv 1) pe_int (fun _ _ => rfl)))
      (pss_one (ps_if (pt_cmpR op_eq (pv 2) pe_str (nomark _)) (pss_one (ps_expr (pe_meth (pv 0) T.cl_Thought T.me_Thought_enter (ok_Thought_enter T) (hr.mono (by decide)) T.b_Thought_enter .nil pass0 (pa_cons (pe_ifExp (pt_cmpR op_ne (pe_meth (pv 0) T.cl_Thought T.me_Thought_value (ok_Thought_value T) (hr.mono (by decide)) T.b_Thought_value .nil pass0 (pa_cons (pe_ix ix_tup (pv 1) pe_int (fun _ _ => rfl)) pa_nil)) pe_int (nomark _)) (pe_ix ix_tup (pv 1) pe_int (fun _ _ => rfl)) (pe_ix ix_tup (pv 1) pe_int (fun _ _ => rfl))) pa_nil)))) (pss_one (ps_if (pt_cmpR op_eq (pv 2) pe_str (nomark _)) (pss_one (ps_if (pt_cmpR op_ne (pe_meth (pv 0) T.cl_Thought T.me_Thought_value (ok_Thought_value T) (hr.mono (by decide)) T.b_Thought_value .nil pass0 (pa_cons (pe_ix ix_tup (pv 1) pe_int (fun _ _ => rfl)) pa_nil)) pe_int (nomark _)) (pss_cons (ps_expr (pe_meth (pv 0) T.cl_Thought T.me_Thought_enter (ok_Thought_enter T) (hr.mono (by decide)) T.b_Thought_enter .nil pass0 (pa_cons (pe_tup (pa_cons (pv 1) pa_nil)) pa_nil)))
      (pss_one (ps_expr (pe_meth (pv 0) T.cl_Thought T.me_Thought_enter (ok_Thought_enter T) (hr.mono (by decide)) T.b_Thought_enter .nil pass0 (pa_cons (pe_ix ix_tup (pv 1) pe_int (fun _ _ => rfl)) pa_nil))))) pss_nil)) (pss_one (ps_expr (pe_meth (pv 0) T.cl_Thought T.me_Thought_give (ok_Thought_give T) (hr.mono (by decide)) T.b_Thought_give .nil pass0 (pa_cons (pv 2) (pa_cons (pe_ix ix_tup (pv 1) pe_int (fun _ _ => rfl)) (pa_cons (pe_meth (pv 0) T.cl_Thought T.me_Thought_value (ok_Thought_value T) (hr.mono (by decide)) T.b_Thought_value .nil pass0 (pa_cons (pe_ix ix_tup (pv 1) pe_int (fun _ _ => rfl)) pa_nil)) pa_nil))))))))))), ?_⟩
  obtain ⟨x1, x2, x3, x4, x5, x6, x7⟩ := th_meths
  have b1 : ("while" : Str) ≠ "if" ∧ ("set" : Str) ≠ "if" ∧ ("set" : Str) ≠ "while" ∧ ("lot" : Str) ≠ "if" ∧ ("lot" : Str) ≠ "while" ∧ ("set" : Str) ≠ "lot" := by decide +kernel
  obtain ⟨b1, b2, b3, b4, b5, b6⟩ := b1
  obtain ⟨n1, n2, n3, n4, n5, n6⟩ := hs.ne
  -- a block is entered
  have fin : ∀ {H1 H2 : Hp} {ws' : List V} {ss : List Bt} {st1 : Stk}, Same H H1 → B3 a td k.t H H2 → H2 a = some (.ins T.C_Thought dx (thF k u td si cv .non)) → H2 td = some (.lst ws') → Paired (TdV H2) ws' st1 → DT H2 k.t ns tb → H2 k.sa = some (.tup (sn.map V.int)) → ThS T.C_Thought H2 a dx td k u st1 tb ns sn si cv (rvOf none) :=
    fun _ _ e1 e2 e3 e4 e5 => ⟨e1, ⟨_, e2, e3⟩, e4, e5⟩
  cases hv with
  | @ite c c1 c2 v e vs ws t f hc he ht hT hf hF =>
    refine ⟨_, rfl, c, _, 0, .str "if", rfl, rfl, SqT.of hc, atI_nat (j := 0) rfl, ?_⟩
    refine ⟨_, rfl, rfl, _, rfl, iteS ?_⟩
    refine ⟨_, rfl, a, dx, _, rfl, hs.ob, th_no x1, ?_⟩
    refine ⟨_, rfl, a, dx, _, rfl, hs.ob, th_no x2, _, rfl, c, _, 1, v, rfl, rfl, SqT.of hc, atI_nat (j := 1) rfl, a, dx, td, k, u, stk, tb, ns, sn, si, cv, .non, v, e, rfl, hs, he, hw.1.1, hw.1.2, hB, fun H1 s1 => ?_⟩
    have hs1 := hs.same s1
    obtain ⟨wv, e1, p1⟩ := hs1.to
    have k1 := keepT_of s1
    refine ⟨rfl, _, rfl, ite2 (fun g => ?_) (fun g => ?_)⟩
    · have g' : e.val tb offB sn ≠ 0 := ne_int g
      refine ⟨_, rfl, c, _, 2, .ref c1, rfl, rfl, SqT.of (s1 _ _ hc), atI_nat (j := 2) rfl, a, dx, td, k, u, stk, si, cv, .non, .ref c1, wv, t, rfl, hs1.ob, e1, p1, ⟨c1, vs, rfl, s1 _ _ ht, hT.keep k1⟩, by omega, fun H2 ws' w2 e2 p2 => ?_⟩
      have w : B3 a td k.t H H2 := (b3_of s1).trans (b3_d w2)
      refine q H2 (enter stk t) tb cv none w ⟨w2 _ _ n1 hs1.ob, ⟨_, e2, p2⟩, ?_, w2 _ _ n5 hs1.see⟩ (enter_ok hok) (enter_w hsw hw.2.1) (Nat.le_trans enter_len (by omega)) (fun fl tk => ?_) pd_none
      · obtain ⟨kv, y1, y2⟩ := hs1.tab
        exact ⟨kv, w2 _ _ n3.symm y1, y2⟩
      · show runM sn fl u ((if e.val tb offB sn ≠ 0 then t else f) ++ flat stk) tb tk = runM sn fl u (flat (enter stk t)) tb tk
        rw [if_pos g', enter_flat]
    · have g' : e.val tb offB sn = 0 := eq_int g
      refine ⟨_, rfl, c, _, 3, .ref c2, rfl, rfl, SqT.of (s1 _ _ hc), atI_nat (j := 3) rfl, a, dx, td, k, u, stk, si, cv, .non, .ref c2, wv, f, rfl, hs1.ob, e1, p1, ⟨c2, ws, rfl, s1 _ _ hf, hF.keep k1⟩, by omega, fun H2 ws' w2 e2 p2 => ?_⟩
      have w : B3 a td k.t H H2 := (b3_of s1).trans (b3_d w2)
      refine q H2 (enter stk f) tb cv none w ⟨w2 _ _ n1 hs1.ob, ⟨_, e2, p2⟩, ?_, w2 _ _ n5 hs1.see⟩ (enter_ok hok) (enter_w hsw hw.2.2) (Nat.le_trans enter_len (by omega)) (fun fl tk => ?_) pd_none
      · obtain ⟨kv, y1, y2⟩ := hs1.tab
        exact ⟨kv, w2 _ _ n3.symm y1, y2⟩
      · show runM sn fl u ((if e.val tb offB sn ≠ 0 then t else f) ++ flat stk) tb tk = runM sn fl u (flat (enter stk f)) tb tk
        rw [if_neg (fun z => z g'), enter_flat]
  | @whl c c1 v e vs t hc he ht hT =>
    have hz : Sb H (.ref c) (.whl e t) := .whl hc he ht hT
    refine ⟨_, rfl, c, _, 0, .str "while", rfl, rfl, SqT.of hc, atI_nat (j := 0) rfl, ?_⟩
    refine ⟨_, rfl, rfl, _, rfl, iteN b1 ?_⟩
    refine ⟨_, rfl, rfl, _, rfl, iteS ?_⟩
    refine ⟨_, rfl, a, dx, _, rfl, hs.ob, th_no x2, _, rfl, c, _, 1, v, rfl, rfl, SqT.of hc, atI_nat (j := 1) rfl, a, dx, td, k, u, stk, tb, ns, sn, si, cv, .non, v, e, rfl, hs, he, hw.1.1, hw.1.2, hB, fun H1 s1 => ?_⟩
    have hs1 := hs.same s1
    obtain ⟨wv, e1, p1⟩ := hs1.to
    have k1 := keepT_of s1
    refine ⟨rfl, _, rfl, ite2 (fun g => ?_) (fun g => ?_)⟩
    · have g' : e.val tb offB sn ≠ 0 := ne_int g
      refine ⟨_, rfl, a, dx, _, rfl, hs1.ob, th_no x1, _, rfl, by show 1 ≤ sizeLine; decide, fun p fp => ?_⟩
      have s2 := same_upd (o := .tup [V.ref c]) fp
      have hs2 := hs1.same s2
      obtain ⟨wv2, e2, p2⟩ := hs2.to
      have k2 := k1.trans (keepT_of s2)
      refine ⟨a, dx, td, k, u, stk, si, cv, .non, .ref p, wv2, [.whl e t], rfl, hs2.ob, e2, p2, ⟨p, _, rfl, upd_same, .one (hz.keep k2)⟩, by omega, fun H3 ws3 w3 e3 p3 => ?_⟩
      have hs12 := s1.trans s2
      have w13 : B3 a td k.t H H3 := (b3_of hs12).trans (b3_d w3)
      have k3 := hs.keepT w13
      have o3 := w3 _ _ n1 hs2.ob
      refine ⟨_, rfl, a, dx, _, rfl, o3, th_no x1, _, rfl, c, _, 2, .ref c1, rfl, rfl, SqT.of (k3 _ _ hc), atI_nat (j := 2) rfl, a, dx, td, k, u, enter stk [.whl e t], si, cv, .non, .ref c1, ws3, t, rfl, o3, e3, p3, ⟨c1, vs, rfl, k3 _ _ ht, hT.keep k3⟩, Nat.le_trans enter_len (by omega), fun H4 ws4 w4 e4 p4 => ?_⟩
      have w : B3 a td k.t H H4 := w13.trans (b3_d w4)
      refine q H4 (enter (enter stk [.whl e t]) t) tb cv none w ⟨w4 _ _ n1 o3, ⟨_, e4, p4⟩, ?_, w4 _ _ n5 (w3 _ _ n5 hs2.see)⟩ (enter_ok (enter_ok hok)) (enter_w (enter_w hsw ⟨hw, trivial⟩) hw.2) ?_ (fun fl tk => ?_) pd_none
      · obtain ⟨kv, y1, y2⟩ := hs2.tab
        exact ⟨kv, w4 _ _ n3.symm (w3 _ _ n3.symm y1), y2⟩
      · have := enter_len (s := enter stk [.whl e t]) (b := t)
        have := enter_len (s := stk) (b := [.whl e t])
        omega
      · show (if e.val tb offB sn ≠ 0 then runM sn fl u (t ++ .whl e t :: flat stk) tb tk else runM sn fl u (flat stk) tb tk) = runM sn fl u (flat (enter (enter stk [.whl e t]) t)) tb tk
        rw [if_pos g', enter_flat, enter_flat]
        rfl
    · have g' : e.val tb offB sn = 0 := eq_int g
      refine q H1 stk tb cv none (b3_of s1) hs1 hok hsw (by omega) (fun fl tk => ?_) pd_none
      show (if e.val tb offB sn ≠ 0 then runM sn fl u (t ++ .whl e t :: flat stk) tb tk else runM sn fl u (flat stk) tb tk) = runM sn fl u (flat stk) tb tk
      rw [if_neg (fun z => z g')]
  | @set c x v e hc he =>
    refine ⟨_, rfl, c, _, 0, .str "set", rfl, rfl, SqT.of hc, atI_nat (j := 0) rfl, ?_⟩
    refine ⟨_, rfl, rfl, _, rfl, iteN b2 ?_⟩
    refine ⟨_, rfl, rfl, _, rfl, iteN b3 ?_⟩
    refine ⟨_, rfl, a, dx, _, rfl, hs.ob, th_no x3, _, rfl, _, rfl, c, _, 1, .str x, rfl, rfl, SqT.of hc, atI_nat (j := 1) rfl, ?_⟩
    refine ⟨_, rfl, a, dx, _, rfl, hs.ob, th_no x2, _, rfl, c, _, 2, v, rfl, rfl, SqT.of hc, atI_nat (j := 2) rfl, a, dx, td, k, u, stk, tb, ns, sn, si, cv, .non, v, e, rfl, hs, he, hw.2.1, hw.2.2, hB, fun H1 s1 => ?_⟩
    have hs1 := hs.same s1
    refine ⟨a, dx, td, k, u, stk, tb, ns, sn, si, cv, .non, "set", x, _, rfl, hs1, hw.1, val_bd hs.tab.bd hB e hw.2.1, .inr ⟨fun z => b6 z.1, fun H2 w2 d2 => ?_⟩⟩
    have w : B3 a td k.t H H2 := (b3_of s1).trans (b3_t w2)
    obtain ⟨wv, e1, p1⟩ := hs1.to
    refine q H2 stk _ cv none w ⟨w2 _ _ n2 hs1.ob, ⟨wv, w2 _ _ n3 e1, L2.Paired.mapP p1 fun _ _ z => z.keep (hs1.keepT (b3_t w2))⟩, d2, w2 _ _ n6 hs1.see⟩ hok hsw (by omega) (fun fl tk => rfl) pd_none
  | @lot c x v e hc he =>
    refine ⟨_, rfl, c, _, 0, .str "lot", rfl, rfl, SqT.of hc, atI_nat (j := 0) rfl, ?_⟩
    refine ⟨_, rfl, rfl, _, rfl, iteN b4 ?_⟩
    refine ⟨_, rfl, rfl, _, rfl, iteN b5 ?_⟩
    refine ⟨_, rfl, a, dx, _, rfl, hs.ob, th_no x3, _, rfl, _, rfl, c, _, 1, .str x, rfl, rfl, SqT.of hc, atI_nat (j := 1) rfl, ?_⟩
    refine ⟨_, rfl, a, dx, _, rfl, hs.ob, th_no x2, _, rfl, c, _, 2, v, rfl, rfl, SqT.of hc, atI_nat (j := 2) rfl, a, dx, td, k, u, stk, tb, ns, sn, si, cv, .non, v, e, rfl, hs, he, hw.2.1, hw.2.2, hB, fun H1 s1 => ?_⟩
    have hs1 := hs.same s1
    have vb := val_bd (on := offB) hs.tab.bd hB e hw.2.1
    obtain ⟨wv, e1, p1⟩ := hs1.to
    by_cases g : 0 < e.val tb offB sn
    · refine ⟨a, dx, td, k, u, stk, tb, ns, sn, si, cv, .non, "lot", x, _, rfl, hs1, hw.1, vb, .inl ⟨rfl, g, fun H2 w2 o2 => ?_⟩⟩
      have w : B3 a td k.t H H2 := (b3_of s1).trans (b3_a w2)
      refine q H2 stk tb (.str x) (some (x, e.val tb offB sn)) w ⟨o2, ⟨wv, w2 _ _ n1.symm e1, L2.Paired.mapP p1 fun _ _ z => z.keep (hs1.keepT (b3_a w2))⟩, ?_, w2 _ _ n4 hs1.see⟩ hok hsw (by omega) (fun fl tk => ?_) (fun y m h => ?_)
      · obtain ⟨kv, y1, y2⟩ := hs1.tab
        exact ⟨kv, w2 _ _ n2.symm y1, y2⟩
      · show (if 0 < e.val tb offB sn then _ else _) = _
        rw [if_pos g]
        rfl
      · cases h
        exact ⟨hw.1, g, vb, rfl⟩
    · refine ⟨a, dx, td, k, u, stk, tb, ns, sn, si, cv, .non, "lot", x, _, rfl, hs1, hw.1, vb, .inr ⟨fun z => g z.2, fun H2 w2 d2 => ?_⟩⟩
      have w : B3 a td k.t H H2 := (b3_of s1).trans (b3_t w2)
      refine q H2 stk _ cv none w ⟨w2 _ _ n2 hs1.ob, ⟨wv, w2 _ _ n3 e1, L2.Paired.mapP p1 fun _ _ z => z.keep (hs1.keepT (b3_t w2))⟩, d2, w2 _ _ n6 hs1.see⟩ hok hsw (by omega) (fun fl tk => ?_) pd_none
      show (if 0 < e.val tb offB sn then _ else _) = _
      rw [if_neg g]
      rfl
/-! ### Thought.go_on -/
theorem paired_last {α β : Type} {R : α → β → Prop} {ws : List α} {s : List β} {p : β} (h : Paired R ws (s ++ [p])) : ∃ w0 v, ws = w0 ++ [v] ∧ Paired R w0 s ∧ R v p := by
  induction s generalizing ws with
  | nil =>
    cases h with
    | cons r t =>
      cases t
      exact ⟨[], _, rfl, .nil, r⟩
  | cons q r ih =>
    cases h with
    | cons r1 t =>
      obtain ⟨w0, v, rfl, p1, p2⟩ := ih t
      exact ⟨_ :: w0, v, rfl, .cons r1 p1, p2⟩
/-- how a thought goes on from (u, stk, tb) to (u', stk', tb') -/
def GoR (sn : List Int) (u : Nat) (stk : Stk) (tb : Str → Int) (u' : Nat) (stk' : Stk) (tb' : Str → Int) (si' : Bool) (pd : Option (Str × Int)) : Prop :=
  (si' = true ∧ stk' = [] ∧ pd = none ∧ ∀ fl tk, runM sn fl u (flat stk) tb tk = .out tk) ∨ (si' = false ∧ (∀ fl tk, runM sn fl u (flat stk) tb tk = pend sn fl u' (flat stk') tb' tk pd) ∧ (pd ≠ none → u' < u))
def sp_Thought_go_on (T : Txt K mg w) : Sp := fun vs H Q _ => ∃ (a dx td : Addr) (k : Thk) (u : Nat) (stk : Stk) (tb : Str → Int) (ns : List Str) (sn : List Int) (cv : V), vs = [.ref a] ∧ ThS T.C_Thought H a dx td k u stk tb ns sn false cv .non ∧ (∀ n ∈ sn, Bd n) ∧ stk.length + 2 * u ≤ 200000 ∧ StkOk stk ∧ StkW ns stk ∧
  ∀ (H' : Hp) (td' : Addr) (u' : Nat) (stk' : Stk) (tb' : Str → Int) (si' : Bool) (cv' : V) (pd : Option (Str × Int)), B3 a td k.t H H' → ThS T.C_Thought H' a dx td' k u' stk' tb' ns sn si' cv' (rvOf pd) → StkOk stk' → StkW ns stk' → stk'.length + 2 * u' ≤ stk.length + 2 * u →
    GoR sn u stk tb u' stk' tb' si' pd → (si' = false → td' = td) → (pd = none → stk' = []) → PdOk ns cv' pd → Q .non H'

theorem ok_Thought_go_on (T : Txt K mg w) : FnOk P w K mg base CX0 17 T.a_Thought_go_on T.d_Thought_go_on ["self"] (sp_Thought_go_on T) := by
  refine T.F_Thought_go_on.ok sc_Thought_go_on (fun vs H Q E h => ?_) (fun cdv A outer s H vs Q E hr h => ?_)
  · obtain ⟨a, dx, td, k, u, stk, tb, ns, sn, cv, rfl, _⟩ := h
    rfl
  obtain ⟨a, dx, td, k, u, stk, tb, ns, sn, cv, rfl, hs, hB, hl, hok, hsw, q⟩ := h
  refine ⟨_, (pss_one (ps_while PassesOwn.never (PW.pt (pw_and (pt_truth (pe_fld (pv 0) rfl) (fun _ => rfl)) (pw_and1 (pt_cmpR op_isN (pe_fld (pv 0) rfl) pe_non (nomark _))))) (pss_one (ps_if (pt_cmpR op_eq (pe_fld (pv 0) rfl) pe_int (nomark _)) (pss_cons (ps_fld (pv 0) pe_bl rfl)
      (pss_one (ps_fld (pv 0) (pe_lst pa_nil) rfl))) (pss_cons (ps_fldaug (pv 0) pe_int in_sub)
      (pss_cons (ps_asg (pe_bm0 PySem.F.plainAttrs_list PySem.F.slot_list_pop PySem.F.type_list_pop mt_pop (pe_fld (pv 0) rfl)) (pg_tup rfl (pgs_cons (pg_name (i := 1) sc_Thought_go_on.nd rfl (by first | exact Or.inl rfl | exact Or.inr rfl)) (pgs_cons (pg_name (i := 2) sc_Thought_go_on.nd rfl (by first | exact Or.inl rfl | exact Or.inr rfl)) pgs_nil))))
      (C8.pss_cut (ps_if (pt_cmpR op_lt (pe_op op_add (pv 2) pe_int) (pe_callB call_len_seq (by rfl) T.z_len (by first | exact PySem.boot_len | decide +kernel) (pa_cons (pv 1) pa_nil)) (nomark _)) (pss_one (ps_expr (pe_bm PySem.F.plainAttrs_list PySem.F.slot_list_append PySem.F.type_list_append mt_append (pe_fld (pv 0) rfl) (pa_cons (pe_tup (pa_cons (pv 1) (pa_cons (pe_op op_add (pv 2) pe_int) pa_nil))) pa_nil)))) pss_nil)
      (pss_one (ps_expr (pe_meth (pv 0) T.cl_Thought T.me_Thought_do (ok_Thought_do T) (hr.mono (by decide)) T.b_Thought_do .nil pass0 (pa_cons (pe_ix ix_tup (pv 1) (pv 2) (fun _ _ => rfl)) pa_nil))))))))))), ?_⟩
  obtain ⟨x1, x2, x3, x4, x5, x6, x7⟩ := th_meths
  refine ⟨fun m σ H' => ∃ (y1 y2 : Option V) (td' : Addr) (u' : Nat) (stk' : Stk) (tb' : Str → Int) (si' : Bool) (cv' : V) (pd : Option (Str × Int)), σ = [some (.ref a), y1, y2] ∧ m = 2 * u' + (if stk' = [] then 0 else 1) ∧ B3 a td k.t H H' ∧ ThS T.C_Thought H' a dx td' k u' stk' tb' ns sn si' cv' (rvOf pd) ∧ StkOk stk' ∧ StkW ns stk' ∧ stk'.length + 2 * u' ≤ stk.length + 2 * u ∧
    GoR sn u stk tb u' stk' tb' si' pd ∧ (si' = false → td' = td) ∧ PdOk ns cv' pd ∧ u' ≤ u, ⟨_, _, _, td, u, stk, tb, false, cv, none, rfl, rfl, B3.refl _ _ _ _, hs, hok, hsw, Nat.le_refl _, .inr ⟨rfl, fun fl tk => rfl, fun z => absurd rfl z⟩, fun _ => rfl, pd_none, Nat.le_refl _⟩, ?_⟩
  rintro m σ H1 ⟨y1, y2, td1, u1, stk1, tb1, si1, cv1, pd, rfl, rfl, w1, hs1, ok1, sw1, l1, go1, tdq, pdo, uu⟩
  obtain ⟨wv, e1, p1⟩ := hs1.to
  have fin : (pd = none → stk1 = []) → Q .non H1 := fun h => q H1 td1 u1 stk1 tb1 si1 cv1 pd w1 hs1 ok1 sw1 l1 go1 tdq h pdo
  refine ⟨_, rfl, a, T.C_Thought, dx, _, _, rfl, hs1.ob, T.cl_Thought, T.n_Thought__todo, lk_ix thNd 5 rfl, _, .inl ⟨wv, SqL.of e1, rfl⟩, ite2 (fun c1 => ?_) (fun c1 => ?_)⟩
  rotate_left
  · refine fin fun _ => ?_
    have : wv = [] := by
      cases wv with
      | nil => rfl
      | cons x r => exact absurd rfl c1
    subst this
    cases p1
    rfl
  refine ⟨_, rfl, a, T.C_Thought, dx, _, _, rfl, hs1.ob, T.cl_Thought, T.n_Thought_results, lk_ix thNd 8 rfl, rfl, _, rfl, ?_⟩
  cases pd with
  | some pr => exact iteF (fin fun h => by cases h)
  | none =>
  have nst : stk1 ≠ [] := fun z => by
    rw [z] at p1
    cases p1
    cases c1
  have si0 : si1 = false := by
    rcases go1 with ⟨_, z, _⟩ | ⟨z, _⟩
    · exact absurd z nst
    · exact z
  subst si0
  obtain rfl := tdq rfl
  have go2 : ∀ fl tk, runM sn fl u (flat stk) tb tk = runM sn fl u1 (flat stk1) tb1 tk := by
    rcases go1 with ⟨z, _⟩ | ⟨_, z, _⟩
    · cases z
    · exact z
  obtain ⟨n1, n2, n3, n4, n5, n6⟩ := hs1.ne
  refine iteT ⟨fun σ' H' => ∃ (y1 y2 : Option V) (td' : Addr) (u' : Nat) (stk' : Stk) (tb' : Str → Int) (si' : Bool) (cv' : V) (pd : Option (Str × Int)), σ' = [some (.ref a), y1, y2] ∧ 2 * u' + (if stk' = [] then 0 else 1) < 2 * u1 + (if stk1 = [] then 0 else 1) ∧ B3 a td1 k.t H H' ∧ ThS T.C_Thought H' a dx td' k u' stk' tb' ns sn si' cv' (rvOf pd) ∧ StkOk stk' ∧ StkW ns stk' ∧ stk'.length + 2 * u' ≤ stk.length + 2 * u ∧
    GoR sn u stk tb u' stk' tb' si' pd ∧ (si' = false → td' = td1) ∧ PdOk ns cv' pd ∧ u' ≤ u, fun σ' H' ⟨z1, z2, td', u', stk', tb', si', cv', pd, e, lt, r⟩ => ⟨_, lt, z1, z2, td', u', stk', tb', si', cv', pd, e, rfl, r⟩, ?_⟩
  rw [if_neg nst]
  refine ⟨_, rfl, a, T.C_Thought, dx, _, _, rfl, hs1.ob, T.cl_Thought, T.n_Thought__left, lk_ix thNd 4 rfl, rfl, _, rfl, ite2 (fun c2 => ?_) (fun c2 => ?_)⟩
  · -- no unit is left
    have u0 : u1 = 0 := by
      have := V.int.inj (of_decide_eq_true c2)
      omega
    subst u0
    refine ⟨_, rfl, a, T.C_Thought, dx, _, rfl, hs1.ob, T.cl_Thought, T.n_Thought__silent, by show 9 < 1000; decide, ?_⟩
    rw [pf_ix thNd 6 rfl]
    have o2 : upd H1 a (.ins T.C_Thought dx (thF k 0 td1 true cv1 .non)) a = some (.ins T.C_Thought dx (thF k 0 td1 true cv1 .non)) := upd_same
    have w2 : But a H1 (upd H1 a (.ins T.C_Thought dx (thF k 0 td1 true cv1 .non))) := but_upd
    refine ⟨by show 0 ≤ sizeLine; decide, fun t2 f2 => ?_⟩
    have nt2 : a ≠ t2 := fun z => by
      rw [← z, upd_same] at f2
      cases f2
    refine ⟨_, rfl, a, T.C_Thought, dx, thF k 0 td1 true cv1 .non, rfl, by rw [upd_ne nt2]; exact o2, T.cl_Thought, T.n_Thought__todo, by show 9 < 1000; decide, ?_⟩
    rw [pf_ix thNd 5 rfl]
    have w3 : But a H1 (upd (upd (upd H1 a (.ins T.C_Thought dx (thF k 0 td1 true cv1 .non))) t2 (.lst [])) a (.ins T.C_Thought dx (thF k 0 t2 true cv1 .non))) := (w2.trans (but_of (same_upd f2))).trans but_upd
    refine ⟨_, _, t2, 0, [], tb1, true, cv1, none, rfl, by decide, w1.trans (b3_a w3), ⟨upd_same, ⟨[], by rw [upd_ne nt2.symm]; exact upd_same, .nil⟩, ?_, w3 _ _ n4 hs1.see⟩, .nil, (fun _ m => by cases m), by show 0 ≤ _; omega, .inl ⟨rfl, rfl, rfl, fun fl tk => ?_⟩, (fun z => by cases z), pd_none, Nat.zero_le _⟩
    · obtain ⟨kv, y1, y2⟩ := hs1.tab
      exact ⟨kv, w3 _ _ n2.symm y1, y2⟩
    · rw [go2]
      have : flat stk1 ≠ [] := by
        rcases List.eq_nil_or_concat stk1 with z | ⟨s0, p0, z⟩
        · exact absurd z nst
        · rw [List.concat_eq_append] at z
          subst z
          have := (ok1.init).2
          rw [flat_snoc]
          intro z
          have z2 := (List.append_eq_nil_iff.mp z).1
          have := congrArg List.length z2
          rw [List.length_drop, List.length_nil] at this
          omega
      cases hf : flat stk1 with
      | nil => exact absurd hf this
      | cons z r => rfl
  -- a unit is used
  obtain ⟨u2, rfl⟩ : ∃ u2, u1 = u2 + 1 := by
    refine ⟨u1 - 1, ?_⟩
    have : u1 ≠ 0 := fun z => c2 (by rw [z]; exact decide_eq_true rfl)
    omega
  have eu : (((u2 + 1 : Nat) : Int)) - 1 = (u2 : Int) := by omega
  refine ⟨_, rfl, a, T.C_Thought, dx, _, _, rfl, hs1.ob, T.cl_Thought, T.n_Thought__left, lk_ix thNd 4 rfl, _, _, rfl, rfl, dx, _, hs1.ob, by show 9 < 1000; decide, ?_⟩
  rw [pf_ix thNd 4 rfl, eu]
  have w2 : But a H1 (upd H1 a (.ins T.C_Thought dx (thF k u2 td1 false cv1 .non))) := but_upd
  have o2 : upd H1 a (.ins T.C_Thought dx (thF k u2 td1 false cv1 .non)) a = some (.ins T.C_Thought dx (thF k u2 td1 false cv1 .non)) := upd_same
  have kt2 : KeepT H1 (upd H1 a (.ins T.C_Thought dx (thF k u2 td1 false cv1 .non))) := hs1.keepT (b3_a w2)
  have e2 := w2 _ _ n1.symm e1
  have see2 := w2 _ _ n4 hs1.see
  have tab2 : DT (upd H1 a (.ins T.C_Thought dx (thF k u2 td1 false cv1 .non))) k.t ns tb1 := by
    obtain ⟨kv, y1, y2⟩ := hs1.tab
    exact ⟨kv, w2 _ _ n2.symm y1, y2⟩
  obtain ⟨s0, p0, rfl⟩ : ∃ s0 p0, stk1 = s0 ++ [p0] := by
    rcases List.eq_nil_or_concat stk1 with z | ⟨s0, p0, z⟩
    · exact absurd z nst
    · exact ⟨s0, p0, by rw [z, List.concat_eq_append]⟩
  obtain ⟨w0, v0, rfl, p2, ap, bv, rfl, hap, c, us, rfl, hc, hC⟩ := paired_last (L2.Paired.mapP p1 fun _ _ z => z.keep kt2)
  obtain ⟨bs, i⟩ := p0
  obtain ⟨ok2, hi⟩ := ok1.init
  have sw2 : StkW ns s0 := fun p m => sw1 p (List.mem_append_left _ m)
  have bw : bwL ns bs := sw1 (bs, i) (List.mem_append_right _ (List.mem_singleton.mpr rfl))
  show tSeq _ _ _ _ (upd H1 a (.ins T.C_Thought dx (thF k u2 td1 false cv1 .non)))
  revert w2 o2 kt2 e2 see2 tab2 hap hc hC p2
  generalize upd H1 a (.ins T.C_Thought dx (thF k u2 td1 false cv1 .non)) = H2
  intro w2 o2 kt2 see2 tab2 p2 e2 hc hap hC
  refine ⟨_, rfl, a, T.C_Thought, dx, _, _, rfl, o2, T.cl_Thought, T.n_Thought__todo, lk_ix thNd 5 rfl, .inl ⟨rfl, _, SqL.of e2⟩, td1, _, .ref ap, rfl, rfl, e2, by rw [List.length_append]; exact List.getElem?_concat_length, ?_⟩
  rw [List.dropLast_concat]
  have nap : ap ≠ td1 := fun z => by rw [z, e2] at hap; cases hap
  refine ⟨ap, _, rfl, SqT.of (by rw [upd_ne nap]; exact hap), rfl, _, _, rfl, _, _, rfl, rfl, ?_⟩
  have kt3 : KeepT H2 (upd H2 td1 (.lst w0)) := keepT_lst e2
  have w3 : But td1 H2 (upd H2 td1 (.lst w0)) := but_upd
  have hs3 : ThS T.C_Thought (upd H2 td1 (.lst w0)) a dx td1 k u2 s0 tb1 ns sn false cv1 .non := by
    refine ⟨w3 _ _ n1 o2, ⟨w0, upd_same, L2.Paired.mapP p2 fun _ _ z => z.keep kt3⟩, ?_, w3 _ _ n5 see2⟩
    obtain ⟨kv, y1, y2⟩ := tab2
    exact ⟨kv, w3 _ _ n3.symm y1, y2⟩
  have w13 : B3 a td1 k.t H (upd H2 td1 (.lst w0)) := (w1.trans (b3_a w2)).trans (b3_d w3)
  replace hc := kt3 _ _ hc
  replace hC := hC.keep kt3
  clear e1 p1 fin c1 hs1 w2 o2 e2 see2 tab2 p2 hap kt2
  revert hs3 w13 hc hC
  generalize upd H2 td1 (.lst w0) = H3
  intro hs3 w13 hc hC
  clear w3 kt3
  have cl : us.length = bs.length := hC.len
  obtain ⟨v, gv, hz⟩ : ∃ v, us[i]? = some v ∧ ∃ z, bs[i]? = some z ∧ Sb H3 v z := by
    obtain ⟨v, e, h⟩ := hC.get' (List.getElem?_eq_getElem hi)
    exact ⟨v, e, _, List.getElem?_eq_getElem hi, h⟩
  obtain ⟨z, gz, hz⟩ := hz
  refine ⟨fun σ' H' => ∃ st4 : Stk, σ' = [some (.ref a), some (.ref c), some (.int (i : Nat))] ∧ B3 a td1 k.t H H' ∧ KeepT H3 H' ∧ ThS T.C_Thought H' a dx td1 k u2 st4 tb1 ns sn false cv1 .non ∧ StkOk st4 ∧ StkW ns st4 ∧ st4.length ≤ s0.length + 1 ∧ flat st4 = bs.drop (i + 1) ++ flat s0, ?_, ?_⟩
  · refine ⟨_, rfl, _, _, rfl, rfl, _, rfl, c, _, rfl, .inr (SqT.of hc), _, _, rfl, rfl, _, rfl, ite2 (fun c3 => ?_) (fun c3 => ?_)⟩
    · have c3' : ((i : Nat) : Int) + 1 < ((us.length : Nat) : Int) := of_decide_eq_true c3
      obtain ⟨wv3, e3, p3⟩ := hs3.to
      refine ⟨_, rfl, a, T.C_Thought, dx, _, _, rfl, hs3.ob, T.cl_Thought, T.n_Thought__todo, lk_ix thNd 5 rfl, .inl ⟨rfl, _, SqL.of e3⟩, _, rfl, _, rfl, _, _, rfl, rfl, by show 2 ≤ sizeLine; decide, fun p fp => ?_⟩
      have s4 := same_upd (o := .tup [V.ref c, .int ((i : Int) + 1)]) fp
      have np : p ≠ td1 := (ne_of_none e3 fp).symm
      have pl := p3.length
      have sl : s0.length ≤ 200000 := by
        have := List.length_append (as := s0) (bs := [(bs, i)])
        simp only [List.length_singleton] at this
        omega
      refine ⟨td1, wv3, _, rfl, rfl, s4 _ _ e3, by rw [sizeLine_eq]; omega, ?_⟩
      have k4 : KeepT H3 (upd (upd H3 p (.tup [V.ref c, .int ((i : Int) + 1)])) td1 (.lst (wv3 ++ [.ref p]))) := (keepT_of s4).trans (keepT_lst (s4 _ _ e3))
      have w4 : But td1 H3 (upd (upd H3 p (.tup [V.ref c, .int ((i : Int) + 1)])) td1 (.lst (wv3 ++ [.ref p]))) := (but_of s4).trans but_upd
      refine ⟨s0 ++ [(bs, i + 1)], rfl, w13.trans (b3_d w4), k4, ⟨w4 _ _ n1 hs3.ob, ⟨_, upd_same, (L2.Paired.mapP p3 fun _ _ z => z.keep k4).snoc ⟨p, .ref c, rfl, by rw [upd_ne np]; exact upd_same, c, us, rfl, k4 _ _ hc, hC.keep k4⟩⟩, ?_, w4 _ _ n5 hs3.see⟩, ok2.snoc (by show i + 1 < bs.length; omega), sw2.snoc bw, by rw [List.length_append]; exact Nat.le_refl _, by rw [flat_snoc]⟩
      obtain ⟨kv, y1, y2⟩ := hs3.tab
      exact ⟨kv, w4 _ _ n3.symm y1, y2⟩
    · have c3' : ¬ ((i : Nat) : Int) + 1 < ((us.length : Nat) : Int) := fun z => c3 (decide_eq_true z)
      refine ⟨s0, rfl, w13, KeepT.refl _, hs3, ok2, sw2, by omega, ?_⟩
      rw [List.drop_eq_nil_of_le (by omega)]
      rfl
  rintro σ4 H4 ⟨st4, rfl, w4, k4, hs4, ok4, sw4, l4, f4⟩
  have hc4 := k4 _ _ hc
  have sl : st4.length ≤ 900000 ∧ st4.length + 2 * u2 + 2 ≤ stk.length + 2 * u := by
    have := List.length_append (as := s0) (bs := [(bs, i)])
    simp only [List.length_singleton] at this
    omega
  refine ⟨_, rfl, a, dx, _, rfl, hs4.ob, th_no x4, _, rfl, _, rfl, c, _, _, v, rfl, rfl, SqT.of hc4, at_ofG (j := i) rfl gv, a, dx, td1, k, u2, st4, tb1, ns, sn, false, cv1, v, z, rfl, hs4, hz.keep k4, bwL_get bw gz, hB, sl.1, ok4, sw4, fun H5 st5 tb5 cv5 pd5 w5 hs5 ok5 sw5 l5 m5 po5 => ?_⟩
  refine ⟨_, _, td1, u2, st5, tb5, false, cv5, pd5, rfl, ?_, w4.trans w5, hs5, ok5, sw5, by omega, .inr ⟨rfl, fun fl tk => ?_, fun _ => by omega⟩, fun _ => rfl, po5, by omega⟩
  · split <;> omega
  · rw [go2, ← m5, f4, flat_snoc]
    have : bs.drop i = z :: bs.drop (i + 1) := by
      have hd := List.drop_eq_getElem_cons hi
      rw [hd]
      have : bs[i] = z := Option.some.inj ((List.getElem?_eq_getElem hi).symm.trans gz)
      rw [this]
    show runM sn fl (u2 + 1) (bs.drop i ++ flat s0) tb1 tk = _
    rw [this]
    rfl
/-! ### Thought.move_and_cells -/
def sp_Thought_move_and_cells (T : Txt K mg w) : Sp := fun vs H Q _ => ∃ (a dx td : Addr) (k : Thk) (u u0 : Nat) (stk : Stk) (tb : Str → Int) (cs : List (Str × Int)) (ss : List Bt) (an : Ex) (xs sn : List Int) (si : Bool) (cv rv : V) (n : Int), vs = [.ref a, .int n] ∧ ThS T.C_Thought H a dx td k u stk tb (cs.map (·.1)) sn si cv rv ∧ ThC T.C_Brain H k u0 cs ss an xs ∧ an.Wf (cs.map (·.1)) [] ∧ an.deep ≤ 13 ∧ (∀ n ∈ sn, Bd n) ∧
  ∀ (p r : Addr) (mv : Int) (zs : List Int) (H' : Hp), Same H H' → H' p = some (.tup [.int mv, .ref r]) → H' r = some (.tup (zs.map V.int)) → ((si = true ∧ mv = 0 ∧ zs = xs) ∨ (si = false ∧ mv = (if an.val tb offB sn < n then an.val tb offB sn else 0) ∧ zs = (cs.map (·.1)).map tb)) → Q (.ref p) H'

theorem ok_Thought_move_and_cells (T : Txt K mg w) : FnOk P w K mg base CX0 16 T.a_Thought_move_and_cells T.d_Thought_move_and_cells ["self", "count"] (sp_Thought_move_and_cells T) := by
  refine T.F_Thought_move_and_cells.ok sc_Thought_move_and_cells (fun vs H Q E h => ?_) (fun cdv A outer s H vs Q E hr h => ?_)
  · obtain ⟨a, dx, td, k, u, u0, stk, tb, cs, ss, an, xs, sn, si, cv, rv, n, rfl, _⟩ := h
    rfl
  obtain ⟨a, dx, td, k, u, u0, stk, tb, cs, ss, an, xs, sn, si, cv, rv, n, rfl, hs, hC, hw, hd, hB, q⟩ := h
  refine ⟨_, (pss_cons (ps_if (pt_truth (pe_fld (pv 0) rfl) (fun _ => rfl)) (pss_one (ps_ret (pe_tup (pa_cons pe_int (pa_cons (pe_fld (pv 0) rfl) pa_nil))))) pss_nil)
      (pss_cons (ps_set (i := 2) sc_Thought_move_and_cells.nd rfl (by first | exact Or.inl rfl | exact Or.inr rfl) (pe_meth (pv 0) T.cl_Thought T.me_Thought_value (ok_Thought_value T) (hr.mono (by decide)) T.b_Thought_value .nil pass0 (pa_cons (pe_fld (pe_fld (pv 0) rfl) rfl) pa_nil)))
      (pss_one (ps_ret (pe_tup (pa_cons (pe_ifExp (pt_cmpR op_lt (pv 2) (pv 1) (nomark _)) (pv 2) pe_int) (pa_cons (pe_callTy call_tuple_of (by rfl) T.z_tuple (by first | exact PySem.boot_tuple | decide +kernel) (pa_cons (pe_lc (own := [("name", 3), ("_", 4)]) (g := gTup K 2 (gCons (gName 3) (gCons (gName 4) gNil))) (tt := tYes) rfl sc_Thought_move_and_cells.nd (pi_tup (pe_fld (pe_fld (pv 0) rfl) rfl)) (blkOk_by (N := N_Thought_move_and_cells) (sc := defScope s_Thought_move_and_cells) (by decide +kernel)) (fun _ _ _ _ _ => (by exact (pg_tup rfl (pgs_cons (pg_name (i := 3) sc_Thought_move_and_cells.nd rfl (by first | exact Or.inl rfl | exact Or.inr rfl)) (pgs_cons (pg_name (i := 4) sc_Thought_move_and_cells.nd rfl (by first | exact Or.inl rfl | exact Or.inr rfl)) pgs_nil))))) (fun _ _ _ _ _ => pts_nil) (fun _ _ _ _ _ => (by exact (pe_dget (d_room hr) (show PE _ _ (tFld K _ _) from (pe_fld (pv 0) rfl)) (pv 3) (fun _ _ => rfl))))) pa_nil)) pa_nil))))))), ?_⟩
  refine ⟨_, rfl, a, T.C_Thought, dx, _, _, rfl, hs.ob, T.cl_Thought, T.n_Thought__silent, lk_ix thNd 6 rfl, _, rfl, ite2 (fun c1 => ?_) (fun c1 => ?_)⟩
  · refine ⟨_, rfl, a, T.C_Thought, dx, _, _, rfl, hs.ob, T.cl_Thought, T.n_Thought__before, lk_ix thNd 1 rfl, by show 2 ≤ sizeLine; decide, fun p fp => ?_⟩
    have sp := same_upd (o := .tup [V.int 0, .ref k.be]) fp
    exact q p k.be 0 xs _ sp upd_same (sp _ _ hC.be) (.inl ⟨c1, rfl, rfl⟩)
  have si0 : si = false := by
    cases si with
    | false => rfl
    | true => exact absurd rfl c1
  obtain ⟨ca, bl, av, cvs, ws, dxb, h1, h2, h3, h4, h5, h6⟩ := hC.br
  refine ⟨_, rfl, a, dx, _, rfl, hs.ob, th_no th_meths.2.1, _, rfl, a, T.C_Thought, dx, _, _, rfl, hs.ob, T.cl_Thought, T.n_Thought__brain, lk_ix thNd 0 rfl, k.br, T.C_Brain, dxb, _, _, rfl, h1, T.cl_Brain, T.n_Brain_answer, lk_ix (i := 3) brNd rfl, a, dx, td, k, u, stk, tb, cs.map (·.1), sn, si, cv, rv, av, an, rfl, hs, h6, hw, hd, hB, fun H1 s1 => ?_⟩
  have hs1 := hs.same s1
  obtain ⟨kvs, e1, e2, e3, e4⟩ := hs1.tab
  refine ⟨_, rfl, _, rfl, _, _, rfl, rfl, _, rfl, ite2 (fun c2 => ⟨_, rfl, ?_⟩) (fun c2 => ?_)⟩
  all_goals
    refine ⟨_, rfl, a, T.C_Thought, dx, _, _, rfl, hs1.ob, T.cl_Thought, T.n_Thought__brain, lk_ix thNd 0 rfl, k.br, T.C_Brain, dxb, _, _, rfl, s1 _ _ h1, T.cl_Brain, T.n_Brain_cells, lk_ix (i := 1) brNd rfl, ca, rfl, ⟨_, SqT.of (s1 _ _ h2)⟩, fun D hD => ?_⟩
    refine lc_tup (a := ca) (xs := cvs) (fun i H2 => Same H1 H2 ∧ H2 D = some (.lst ((((cs.map (·.1)).map tb).take i).map V.int))) ⟨same_upd hD, upd_same⟩ (fun i H2 _ h => SqT.of (h.1 _ _ (s1 _ _ h2))) (fun i v H2 hv h => ?_) (fun H2 h => ?_)
    · obtain ⟨s2, d2⟩ := h
      obtain ⟨t, ht, U, rfl, hU⟩ := pget h3 hv
      have il : i < cs.length := (List.getElem?_eq_some_iff.mp ht).1
      have mt : t.1 ∈ cs.map (·.1) := List.mem_map.mpr ⟨t, List.mem_of_getElem? ht, rfl⟩
      refine ⟨U, _, rfl, SqT.of (s2 _ _ (s1 _ _ hU)), rfl, _, _, rfl, _, _, rfl, rfl, ?_⟩
      refine ⟨rfl, ?_⟩
      refine ⟨_, rfl, a, T.C_Thought, dx, _, _, rfl, s2 _ _ hs1.ob, T.cl_Thought, T.n_Thought__table, lk_ix thNd 3 rfl, _, rfl, k.t, _, rfl, dget_of (s2 _ _ e1) (e4 t.1 mt).1, ?_⟩
      refine ⟨_, d2, ?_, fun c o e => ?_, ?_⟩
      · rw [List.length_map, List.length_take, List.length_map, List.length_map]
        have := hC.l2
        exact small1000 (by omega)
      · rw [upd_ne (ne_of_none e hD)]
        exact s2 _ _ e
      · rw [upd_same, List.take_add_one, List.getElem?_map, List.getElem?_map, ht]
        show some (HO.lst _) = some (HO.lst (List.map V.int (_ ++ [tb t.1])))
        rw [List.map_append]
        rfl
    obtain ⟨s2, d2⟩ := h
    have lc : cvs.length = ((cs.map (·.1)).map tb).length := by rw [List.length_map, List.length_map]; exact Paired.length h3
    rw [lc, List.take_of_length_le (Nat.le_refl _)] at d2
    refine ⟨D, _, rfl, .inl ⟨SqL.of d2, fun r fr => ⟨by show 2 ≤ sizeLine; decide, fun p fp => ?_⟩⟩⟩
    have s3 := same_upd (o := .tup (((cs.map (·.1)).map tb).map V.int)) fr
    refine q p r _ _ _ (((s1.trans s2).trans s3).trans (same_upd fp)) upd_same ((same_upd fp) _ _ upd_same) (.inr ⟨si0, ?_, rfl⟩)
  · exact (if_pos (of_decide_eq_true c2)).symm
  · exact (if_neg (fun z => c2 (decide_eq_true z))).symm
/-! ### Tape.take -/
def sp_Tape_take (T : Txt K mg w) : Sp := fun vs H Q _ => ∃ (x rl tl : Addr) (c : Int) (rs : List Int) (ts : List (Int × Int)), vs = [.ref x, .int c] ∧ TapeAt T.C_Tape H x rl tl rs ts ∧ rl ≠ tl ∧ 0 < c ∧ ts.length ≤ 200000 ∧
  ∀ H', (∀ b o, b ≠ tl → H b = some o → H' b = some o) → TapeAt T.C_Tape H' x rl tl rs (ts ++ [(takeK rs ts.length c, c)]) → Q (.int (takeK rs ts.length c)) H'

theorem ok_Tape_take (T : Txt K mg w) : FnOk P w K mg base CX0 1 T.a_Tape_take T.d_Tape_take ["self", "count"] (sp_Tape_take T) := by
  refine T.F_Tape_take.ok sc_Tape_take (fun vs H Q E h => ?_) (fun cdv A outer s H vs Q E hr h => ?_)
  · obtain ⟨x, rl, tl, c, rs, ts, rfl, _⟩ := h
    rfl
  obtain ⟨x, rl, tl, c, rs, ts, rfl, ⟨⟨dx, hx⟩, hR, vs, hT, hp⟩, nrt, c0, hl, q⟩ := h
  refine ⟨_, (pss_cons (ps_set (i := 2) sc_Tape_take.nd rfl (by first | exact Or.inl rfl | exact Or.inr rfl) (pe_callB call_len_seq (by rfl) T.z_len (by first | exact PySem.boot_len | decide +kernel) (pa_cons (pe_fld (pv 0) rfl) pa_nil)))
      (C8.pss_cut (ps_set (i := 3) sc_Tape_take.nd rfl (by first | exact Or.inl rfl | exact Or.inr rfl) (pe_ifExp (pt_cmpR op_lt (pv 2) (pe_callB call_len_seq (by rfl) T.z_len (by first | exact PySem.boot_len | decide +kernel) (pa_cons (pe_fld (pv 0) rfl) pa_nil)) (nomark _)) (pe_op op_mod (pe_ix ix_list (pe_fld (pv 0) rfl) (pv 2) (fun _ _ => rfl)) (pv 1)) pe_int))
      (pss_cons (ps_expr (pe_bm PySem.F.plainAttrs_list PySem.F.slot_list_append PySem.F.type_list_append mt_append (pe_fld (pv 0) rfl) (pa_cons (pe_tup (pa_cons (pv 3) (pa_cons (pv 1) pa_nil))) pa_nil)))
      (pss_one (ps_ret (pv 3)))))), ?_⟩
  have vl := Paired.length hp
  refine ⟨_, rfl, x, T.C_Tape, dx, _, _, rfl, hx, T.cl_Tape, T.n_Tape_taken, tpf_t _ _, tl, vs, rfl, .inl (SqL.of hT), ?_⟩
  refine ⟨fun σ' H' => σ' = [some (.ref x), some (.int c), some (.int (vs.length : Int)), some (.int (takeK rs ts.length c))] ∧ H' = H, ?_, ?_⟩
  · refine ⟨_, rfl, _, rfl, x, T.C_Tape, dx, _, _, rfl, hx, T.cl_Tape, T.n_Tape__results, tpf_r _ _, rl, _, rfl, .inl (SqL.of hR), _, _, rfl, rfl, _, rfl, ite2 (fun e => ?_) (fun e => ?_)⟩
    · have e' : (vs.length : Int) < (((rs.map V.int).length : Nat) : Int) := of_decide_eq_true e
      rw [List.length_map] at e'
      have hlt : ts.length < rs.length := by omega
      have eg : rs[ts.length]? = some (rs[ts.length]) := List.getElem?_eq_getElem hlt
      have ek : takeK rs ts.length c = rs[ts.length] % c := by
        unfold takeK
        rw [eg]
      rw [ek]
      exact ⟨_, rfl, x, T.C_Tape, dx, _, _, rfl, hx, T.cl_Tape, T.n_Tape__results, tpf_r _ _, _, rfl, rl, _, _, .int (rs[ts.length]), rfl, rfl, SqL.of hR, at_ofG (j := ts.length) (by omega) (by rw [List.getElem?_map, eg]; rfl), _, rfl, _, _, rfl, rfl, c0, rfl, rfl⟩
    · have e' : ¬ (vs.length : Int) < (((rs.map V.int).length : Nat) : Int) := fun z => e (decide_eq_true z)
      rw [List.length_map] at e'
      have ek : takeK rs ts.length c = 0 := by
        unfold takeK
        rw [List.getElem?_eq_none (by omega)]
      rw [ek]
      exact ⟨rfl, rfl⟩
  rintro σ1 H1 ⟨rfl, rfl⟩
  refine ⟨_, rfl, x, T.C_Tape, dx, _, _, rfl, hx, T.cl_Tape, T.n_Tape_taken, tpf_t _ _, .inl ⟨rfl, _, SqL.of hT⟩, _, rfl, _, rfl, by show 2 ≤ sizeLine; decide, fun U hU => ?_⟩
  have s1 := same_upd (o := .tup [V.int (takeK rs ts.length c), .int c]) hU
  refine ⟨tl, vs, _, rfl, rfl, s1 _ _ hT, (by rw [sizeLine_eq]; omega), ?_⟩
  have nx : x ≠ tl := fun z => by
    rw [z, hT] at hx
    cases hx
  have nU : U ≠ tl := (ne_of_none hT hU).symm
  refine ⟨_, rfl, q _ (fun b o n e => by rw [upd_ne n]; exact s1 _ _ e) ⟨⟨dx, by rw [upd_ne nx]; exact s1 _ _ hx⟩, by rw [upd_ne nrt]; exact s1 _ _ hR, _, upd_same, paired_snoc (Paired.mono (fun _ _ h => h.keep ((keepT_of s1).trans (keepT_lst (s1 _ _ hT)))) hp) ⟨U, rfl, by rw [upd_ne nU]; exact upd_same⟩⟩⟩
/-! ### think -/
/-- what a move comes to -/
def Outc (sn : List Int) (fl : Nat → Int → Int) (u : Nat) (ss : List Bt) (ns : List Str) (xs : List Int) (an : Ex) (n : Int) (mv : Int) (zs : List Int) (tk : List (Int × Int)) : Prop :=
  (runM sn fl u ss (tb0 ns xs) [] = .out tk ∧ mv = 0 ∧ zs = xs) ∨ ∃ u' tb, runM sn fl u ss (tb0 ns xs) [] = .done u' tb tk ∧ mv = (if an.val tb offB sn < n then an.val tb offB sn else 0) ∧ zs = ns.map tb
def flT (rs : List Int) (k : Nat) : Nat → Int → Int := fun j n => takeK rs (k + j) n
theorem TapeAt.to {C : Addr} {H H' : Hp} {x rl tl : Addr} {rs : List Int} {ts : List (Int × Int)} (h : TapeAt C H x rl tl rs ts) (b : ∀ c o, (c = x ∨ c = rl ∨ c = tl) → H c = some o → H' c = some o) (k : KeepT H H') : TapeAt C H' x rl tl rs ts := by
  obtain ⟨⟨dx, e⟩, hr, vs, h1, h2⟩ := h
  exact ⟨⟨dx, b _ _ (.inl rfl) e⟩, b _ _ (.inr (.inl rfl)) hr, vs, b _ _ (.inr (.inr rfl)) h1, L2.Paired.mapP h2 fun _ _ z => z.keep k⟩
theorem takeK_bd {rs : List Int} {i : Nat} {n : Int} (h0 : 0 < n) (h : Bd n) : Bd (takeK rs i n) := by
  unfold takeK
  split
  · have := Int.emod_nonneg ‹Int› (show n ≠ 0 by omega)
    have := Int.emod_lt_of_pos ‹Int› h0
    exact ⟨by omega, by have := h.2; omega⟩
  · exact ⟨by decide, by decide⟩
def sp_think (T : Txt K mg w) : Sp := fun vs H Q _ => ∃ (k : Thk) (vw tp rl tl : Addr) (u0 : Nat) (cs : List (Str × Int)) (ss : List Bt) (an : Ex) (xs : List Int) (ws : List V) (es : List Evt) (n : Int) (rs : List Int) (ts : List (Int × Int)), vs = [.ref k.br, .ref k.be, .ref vw, .int n, .ref tp] ∧ ThC T.C_Brain H k u0 cs ss an xs ∧ an.Wf (cs.map (·.1)) [] ∧ an.deep ≤ 13 ∧ bwL (cs.map (·.1)) ss ∧ u0 ≤ 65535 ∧
  H vw = some (.tup ws) ∧ Paired (VwV H) ws es ∧ es.length ≤ 1000 ∧ (∀ n ∈ seenL es, Bd n) ∧ TapeAt T.C_Tape H tp rl tl rs ts ∧ rl ≠ tl ∧ ts.length ≤ 10 ∧
  ∀ (p r : Addr) (mv : Int) (zs : List Int) (tk : List (Int × Int)) (H' : Hp), But tl H H' → TapeAt T.C_Tape H' tp rl tl rs (ts ++ tk) → H' p = some (.tup [.int mv, .ref r]) → H' r = some (.tup (zs.map V.int)) → tk.length ≤ 65536 → Outc (seenL es) (flT rs ts.length) u0 ss (cs.map (·.1)) xs an n mv zs tk → Q (.ref p) H'

theorem ok_think (T : Txt K mg w) : FnOk P w K mg base CX0 18 T.a_think T.d_think ["brain", "cells", "view", "count", "tape"] (sp_think T) := by
  refine T.F_think.ok sc_think (fun vs H Q E h => ?_) (fun cdv A outer s H vs Q E hr h => ?_)
  · obtain ⟨k, vw, tp, rl, tl, u0, cs, ss, an, xs, ws, es, n, rs, ts, rfl, _⟩ := h
    rfl
  obtain ⟨k, vw, tp, rl, tl, u0, cs, ss, an, xs, ws, es, n, rs, ts, rfl, hC, hw, hd, hbw, hu, hv, hpv, hle, hB, hT, nrt, hts, q⟩ := h
  refine ⟨_, (pss_cons (ps_set (i := 5) sc_think.nd rfl (by first | exact Or.inl rfl | exact Or.inr rfl) (pe_make T.mk_Thought (ok_Thought_init T) (hr.mono (by decide)) (by rfl) T.m_Thought T.b_Thought_init .nil pass0 (pa_cons (pv 0) (pa_cons (pv 1) (pa_cons (pe_call (ok_view_numbers T) (hr.mono (by decide)) (by rfl) T.m_view_numbers T.F_view_numbers.kp T.b_view_numbers .nil pass0 (pa_cons (pv 2) pa_nil)) pa_nil)))))
      (pss_cons (ps_expr (pe_meth0 (pv 5) T.cl_Thought T.me_Thought_go_on (ok_Thought_go_on T) (hr.mono (by decide)) T.b_Thought_go_on .nil pass0))
      (pss_cons (ps_while PassesOwn.never (pt_cmpR op_notN (pe_fld (pv 5) rfl) pe_non (nomark _)) (pss_cons (ps_set (i := 5) sc_think.nd rfl (by first | exact Or.inl rfl | exact Or.inr rfl) (pe_meth (pv 5) T.cl_Thought T.me_Thought_after (ok_Thought_after T) (hr.mono (by decide)) T.b_Thought_after .nil pass0 (pa_cons (pe_meth (pv 4) T.cl_Tape T.me_Tape_take (ok_Tape_take T) (hr.mono (by decide)) T.b_Tape_take .nil pass0 (pa_cons (pe_fld (pv 5) rfl) pa_nil)) pa_nil)))
      (pss_one (ps_expr (pe_meth0 (pv 5) T.cl_Thought T.me_Thought_go_on (ok_Thought_go_on T) (hr.mono (by decide)) T.b_Thought_go_on .nil pass0)))))
      (pss_one (ps_ret (pe_meth (pv 5) T.cl_Thought T.me_Thought_move_and_cells (ok_Thought_move_and_cells T) (hr.mono (by decide)) T.b_Thought_move_and_cells .nil pass0 (pa_cons (pv 3) pa_nil))))))), ?_⟩
  refine ⟨_, rfl, _, rfl, _, rfl, vw, ws, es, rfl, hv, hpv, hle, fun sa H1 s1 fsa hsa => ?_⟩
  have hC1 := hC.same s1
  refine make_thought T hC1.br hC1.be hC1.len hC1.l2 hC1.nd hC1.bd hsa fun a dx t td H2 s2 fa ft ftd hy => ?_
  have s12 := s1.trans s2
  have k2 : (⟨k.br, k.be, sa, t⟩ : Thk).br = k.br := rfl
  have C2 : ThC T.C_Brain H2 ⟨k.br, k.be, sa, t⟩ u0 cs ss an xs := (hC1.same s2).to rfl rfl
  have stw : StkW (cs.map (·.1)) (enter [] ss) := enter_w (fun _ m => by cases m) hbw
  have stk0 : StkOk (enter [] ss) := enter_ok StkOk.nil
  have el : (enter [] ss).length ≤ 1 := enter_len
  generalize hst : enter [] ss = stk0' at hy stw stk0 el
  have hf : flat stk0' = ss := by
    rw [← hst, enter_flat]
    exact List.append_nil ss
  refine ⟨_, rfl, a, dx, _, rfl, hy.ob, th_no th_meths.2.2.2.2.1, a, dx, td, ⟨k.br, k.be, sa, t⟩, u0, stk0', _, _, _, _, rfl, hy, hB, by omega, stk0, stw, fun H3 td3 u3 stk3 tb3 si3 cv3 pd3 w3 hs3 ok3 sw3 l3 go3 tdq3 pe3 po3 => ?_⟩
  have b3 : But tl H H3 := fun c o nc e => w3 c o (ne_of_none e (s1.free fa)) (ne_of_none e (s1.free ftd)) (ne_of_none e (s1.free ft)) (s12 _ _ e)
  have C3 := C2.b3 hy w3
  have T3 : TapeAt T.C_Tape H3 tp rl tl rs (ts ++ []) := by
    rw [List.append_nil]
    have k3 := hy.keepT w3
    refine (hT.same s12).to (fun c o hc e => w3 c o ?_ ?_ ?_ e) k3
    all_goals
      have hh : ∃ o, H c = some o := by
        obtain ⟨⟨dx, e1⟩, e2, vs, e3, _⟩ := hT
        rcases hc with rfl | rfl | rfl
        · exact ⟨_, e1⟩
        · exact ⟨_, e2⟩
        · exact ⟨_, e3⟩
      obtain ⟨o', e'⟩ := hh
    · exact ne_of_none e' (s1.free fa)
    · exact ne_of_none e' (s1.free ftd)
    · exact ne_of_none e' (s1.free ft)
  refine ⟨fun m σ' H' => ∃ (a dx td : Addr) (k' : Thk) (u : Nat) (stk : Stk) (tb : Str → Int) (si : Bool) (cv : V) (pd : Option (Str × Int)) (tk : List (Int × Int)), σ' = [some (.ref k.br), some (.ref k.be), some (.ref vw), some (.int n), some (.ref tp), some (.ref a)] ∧ m = (if pd = none then 0 else u + 1) ∧ k'.br = k.br ∧ k'.be = k.be ∧ ThS T.C_Thought H' a dx td k' u stk tb (cs.map (·.1)) (seenL es) si cv (rvOf pd) ∧ ThC T.C_Brain H' k' u0 cs ss an xs ∧ StkOk stk ∧ StkW (cs.map (·.1)) stk ∧ stk.length + 2 * u ≤ 200000 ∧ TapeAt T.C_Tape H' tp rl tl rs (ts ++ tk) ∧ But tl H H' ∧ (pd ≠ none → td ≠ tl) ∧ PdOk (cs.map (·.1)) cv pd ∧ (pd ≠ none → si = false ∧ tk.length + u ≤ u0) ∧ (pd = none → stk = []) ∧ tk.length ≤ u0 + 1 ∧
      runM (seenL es) (flT rs ts.length) u0 ss (tb0 (cs.map (·.1)) xs) [] = (if si = true then .out tk else pend (seenL es) (flT rs ts.length) u (flat stk) tb tk pd),
    ⟨_, a, dx, td3, ⟨k.br, k.be, sa, t⟩, u3, stk3, tb3, si3, cv3, pd3, [], rfl, rfl, rfl, rfl, hs3, C3, ok3, sw3, by omega, T3, b3, fun ne => ?_, po3, fun ne => ?_, pe3, Nat.zero_le _, ?_⟩, ?_⟩
  · rcases go3 with ⟨_, _, z, _⟩ | ⟨z, _, g⟩
    · exact absurd z ne
    · rw [tdq3 z]
      obtain ⟨_, _, vs, e3, _⟩ := hT
      exact (ne_of_none e3 (s1.free ftd)).symm
  · rcases go3 with ⟨_, _, z, _⟩ | ⟨z, _, g⟩
    · exact absurd z ne
    · have := g ne
      exact ⟨z, by show 0 + u3 ≤ u0; omega⟩
  · rcases go3 with ⟨z, _, _, g⟩ | ⟨z, g, _⟩
    · rw [z, if_pos rfl, ← hf]
      exact g _ _
    · rw [z, if_neg (by decide), ← hf]
      exact g _ _
  clear hs3 C3 T3 b3 po3 go3 w3 ok3 sw3 l3 tdq3 pe3 hy C2 hC1 hsa stw stk0 hst hf s2 s12 fa ft ftd el k2
  rintro m σ H4 ⟨a, dx, td, k4, u, stk, tb, si, cv, pd, tk, rfl, rfl, kb, ke, hs, C4, ok4, sw4, l4, T4, b4, nt4, po4, ps4, pn4, lt4, rn4⟩
  refine ⟨_, rfl, a, T.C_Thought, dx, _, _, rfl, hs.ob, T.cl_Thought, T.n_Thought_results, lk_ix thNd 8 rfl, rfl, _, rfl, ?_⟩
  cases pd with
  | none =>
    refine iteF ?_
    obtain rfl := pn4 rfl
    refine ⟨_, rfl, a, dx, _, rfl, hs.ob, th_no th_meths.2.2.2.2.2.2, _, rfl, a, dx, td, k4, u, u0, [], tb, cs, ss, an, xs, seenL es, si, cv, _, n, rfl, hs, C4, hw, hd, hB, fun p r mv zs H5 s5 e5 e6 oc => ?_⟩
    refine q p r mv zs tk H5 (b4.trans (but_of s5)) (T4.same s5) e5 e6 (by omega) ?_
    rcases oc with ⟨z, m0, z0⟩ | ⟨z, m0, z0⟩
    · rw [z, if_pos rfl] at rn4
      exact .inl ⟨rn4, m0, z0⟩
    · rw [z, if_neg (by decide)] at rn4
      exact .inr ⟨u, tb, rn4.trans runM_nil, m0, z0⟩
  | some pr =>
    obtain ⟨x, c⟩ := pr
    obtain ⟨rfl, lu⟩ := ps4 (fun z => by cases z)
    obtain ⟨mx, c0, cb, rfl⟩ := po4 x c rfl
    rw [if_neg (by decide)] at rn4
    refine iteT ?_
    rw [if_neg (fun z => by cases z)]
    refine ⟨fun σ' H' => ∃ (a dx td : Addr) (k' : Thk) (u' : Nat) (stk : Stk) (tb : Str → Int) (si : Bool) (cv : V) (pd : Option (Str × Int)) (tk : List (Int × Int)), σ' = [some (.ref k.br), some (.ref k.be), some (.ref vw), some (.int n), some (.ref tp), some (.ref a)] ∧ (if pd = none then 0 else u' + 1) < u + 1 ∧ k'.br = k.br ∧ k'.be = k.be ∧ ThS T.C_Thought H' a dx td k' u' stk tb (cs.map (·.1)) (seenL es) si cv (rvOf pd) ∧ ThC T.C_Brain H' k' u0 cs ss an xs ∧ StkOk stk ∧ StkW (cs.map (·.1)) stk ∧ stk.length + 2 * u' ≤ 200000 ∧ TapeAt T.C_Tape H' tp rl tl rs (ts ++ tk) ∧ But tl H H' ∧ (pd ≠ none → td ≠ tl) ∧ PdOk (cs.map (·.1)) cv pd ∧ (pd ≠ none → si = false ∧ tk.length + u' ≤ u0) ∧ (pd = none → stk = []) ∧ tk.length ≤ u0 + 1 ∧
      runM (seenL es) (flT rs ts.length) u0 ss (tb0 (cs.map (·.1)) xs) [] = (if si = true then .out tk else pend (seenL es) (flT rs ts.length) u' (flat stk) tb tk pd), fun σ' H' ⟨z1, z2, z3, z4, z5, z6, z7, z8, z9, zA, zB, e, lt, r⟩ => ⟨_, lt, z1, z2, z3, z4, z5, z6, z7, z8, z9, zA, zB, e, rfl, r⟩, ?_⟩
    obtain ⟨⟨dxt, et1⟩, et2, vst, et3, et4⟩ := id T4
    have tn := th_meths
    have tno : (tpf rl tl).lookup ("take" : Str) = none := tpf_no _ _ (by decide +kernel) (by decide +kernel)
    refine ⟨_, rfl, a, dx, _, rfl, hs.ob, th_no th_meths.2.2.2.2.2.1, _, rfl, tp, dxt, _, rfl, et1, tno, _, rfl, a, T.C_Thought, dx, _, _, rfl, hs.ob, T.cl_Thought, T.n_Thought_results, lk_ix thNd 8 rfl, tp, rl, tl, c, rs, ts ++ tk, rfl, T4, nrt, c0, by rw [List.length_append]; omega, fun H5 b5 T5 => ?_⟩
    have er : takeK rs (ts ++ tk).length c = flT rs ts.length tk.length c := by rw [List.length_append]; rfl
    rw [er] at T5 ⊢
    have rb : Bd (flT rs ts.length tk.length c) := takeK_bd c0 cb
    have ntd := nt4 (fun z => by cases z)
    have k5 : KeepT H4 H5 := But.keepT (p := tl) b5 et3
    have na : a ≠ tl := fun z => by
      have o := hs.ob
      rw [z, et3] at o
      cases o
    have hs5 : ThS T.C_Thought H5 a dx td k4 u stk tb (cs.map (·.1)) (seenL es) false (.str x) (rvOf (some (x, c))) := by
      obtain ⟨ob, ⟨wv, w1, w2⟩, ⟨kv, g1, g2⟩, see⟩ := hs
      exact ⟨b5 _ _ na ob, ⟨wv, b5 _ _ ntd w1, L2.Paired.mapP w2 fun _ _ z => z.keep k5⟩, ⟨kv, b5 _ _ (fun z => by rw [z, et3] at g1; cases g1) g1, g2⟩, k5 _ _ see⟩
    have C5 : ThC T.C_Brain H5 k4 u0 cs ss an xs := C4.keep k5 fun o e => b5 _ _ (fun z => by
      obtain ⟨ca, bl, av, w, ws, dxb, h1, _⟩ := C4.br
      rw [z, et3] at h1
      cases h1) e
    refine ⟨a, dx, td, k4, u, u0, stk, tb, cs, ss, an, xs, seenL es, x, _, _, rfl, hs5, mx, rb, C5, fun a' dx' td' k' H6 s6 fa ftd ft kb' ke' ks' hs6 => ?_⟩
    refine ⟨_, rfl, a', dx', _, rfl, hs6.ob, th_no th_meths.2.2.2.2.1, a', dx', td', k', u, stk, _, _, _, _, rfl, hs6, hB, l4, ok4, sw4, fun H7 td7 u7 stk7 tb7 si7 cv7 pd7 w7 hs7 ok7 sw7 l7 go7 tdq7 pe7 po7 => ?_⟩
    have C6 := (C5.same s6).to kb' ke'
    obtain ⟨⟨dx5, g1⟩, g2, vs5, g3, g4⟩ := id T5
    have T7 : TapeAt T.C_Tape H7 tp rl tl rs (ts ++ (tk ++ [(flT rs ts.length tk.length c, c)])) := by
      rw [← List.append_assoc]
      refine (T5.same s6).to (fun z o hz e => w7 z o ?_ ?_ ?_ e) (hs6.keepT w7)
      all_goals
        have hh : ∃ o, H5 z = some o := by
          rcases hz with rfl | rfl | rfl
          · exact ⟨_, g1⟩
          · exact ⟨_, g2⟩
          · exact ⟨_, g3⟩
        obtain ⟨o', e'⟩ := hh
      · exact ne_of_none e' fa
      · exact ne_of_none e' ftd
      · exact ne_of_none e' ft
    refine ⟨a', dx', td7, k', u7, stk7, tb7, si7, cv7, pd7, tk ++ [(flT rs ts.length tk.length c, c)], rfl, ?_, kb'.trans kb, ke'.trans ke, hs7, C6.b3 hs6 w7, ok7, sw7, by omega, T7, fun z o nz e => ?_, fun ne => ?_, po7, fun ne => ?_, pe7, ?_, ?_⟩
    · split
      · omega
      · rename_i ne
        rcases go7 with ⟨_, _, z, _⟩ | ⟨_, _, g⟩
        · exact absurd z ne
        · have := g ne
          omega
    · have e5 := b5 _ _ nz (b4 _ _ nz e)
      exact w7 _ _ (ne_of_none e5 fa) (ne_of_none e5 ftd) (ne_of_none e5 ft) (s6 _ _ e5)
    · rcases go7 with ⟨_, _, z, _⟩ | ⟨z, _, g⟩
      · exact absurd z ne
      · rw [tdq7 z]
        exact (ne_of_none g3 ftd).symm
    · rcases go7 with ⟨_, _, z, _⟩ | ⟨z, _, g⟩
      · exact absurd z ne
      · have := g ne
        refine ⟨z, ?_⟩
        rw [List.length_append, List.length_singleton]
        omega
    · rw [List.length_append, List.length_singleton]
      omega
    · rw [rn4]
      show runM (seenL es) (flT rs ts.length) u (flat stk) (putT tb x (flT rs ts.length tk.length c)) (tk ++ [(flT rs ts.length tk.length c, c)]) = _
      rcases go7 with ⟨z, _, _, g⟩ | ⟨z, g, _⟩
      · rw [z, if_pos rfl]
        exact g _ _
      · rw [z, if_neg (by decide)]
        exact g _ _
/-! ### Brain.__init__ -/
def sp_Brain_init (T : Txt K mg w) : Sp := fun vs H Q _ => ∃ (x dx ca0 bl : Addr) (u : Int) (an : V) (cv ws : List V) (cs : List (Str × Int)), vs = [.ref x, .int u, .ref ca0, .ref bl, an] ∧ H x = some (.ins T.C_Brain dx []) ∧ H ca0 = some (.tup cv) ∧ Paired (CellV H) cv cs ∧ cs.length ≤ 100 ∧ H bl = some (.tup ws) ∧
  ∀ (ca : Addr) (cv' : List V) (H' : Hp), But x H H' → H' x = some (.ins T.C_Brain dx [("units", .int u), ("cells", .ref ca), ("block", .ref bl), ("answer", an)]) → H' ca = some (.tup cv') → Paired (CellV H') cv' cs → Q .non H'

theorem ok_Brain_init (T : Txt K mg w) : FnOk P w K mg base CX0 1 T.a_Brain_init T.d_Brain_init ["self", "units", "cells", "block", "answer"] (sp_Brain_init T) := by
  refine T.F_Brain_init.ok sc_Brain_init (fun vs H Q E h => ?_) (fun cdv A outer s H vs Q E hr h => ?_)
  · obtain ⟨x, dx, ca0, bl, u, an, cv, ws, cs, rfl, _⟩ := h
    rfl
  obtain ⟨x, dx, ca0, bl, u, an, cv, ws, cs, rfl, hx, hc, hp, hl, hb, q⟩ := h
  refine ⟨_, (pss_cons (ps_fld (pv 0) (pv 1) rfl)
      (pss_cons (ps_fld (pv 0) (pe_callTy call_tuple_of (by rfl) T.z_tuple (by first | exact PySem.boot_tuple | decide +kernel) (pa_cons (pe_lc (own := [("name", 5), ("value", 6)]) (g := gTup K 2 (gCons (gName 5) (gCons (gName 6) gNil))) (tt := tYes) rfl sc_Brain_init.nd (pi_tup (pv 2)) (blkOk_by (N := N_Brain_init) (sc := defScope s_Brain_init) (by decide +kernel)) (fun _ _ _ _ _ => (by exact (pg_tup rfl (pgs_cons (pg_name (i := 5) sc_Brain_init.nd rfl (by first | exact Or.inl rfl | exact Or.inr rfl)) (pgs_cons (pg_name (i := 6) sc_Brain_init.nd rfl (by first | exact Or.inl rfl | exact Or.inr rfl)) pgs_nil))))) (fun _ _ _ _ _ => pts_nil) (fun _ _ _ _ _ => (by exact (pe_tup (pa_cons (pv 5) (pa_cons (pv 6) pa_nil)))))) pa_nil)) rfl)
      (pss_cons (ps_fld (pv 0) (pe_callTy call_tuple_of (by rfl) T.z_tuple (by first | exact PySem.boot_tuple | decide +kernel) (pa_cons (pv 3) pa_nil)) rfl)
      (pss_one (ps_fld (pv 0) (pv 4) rfl))))), ?_⟩
  refine ⟨_, rfl, _, rfl, x, T.C_Brain, dx, [], rfl, hx, T.cl_Brain, T.n_Brain_units, by show 0 < 1000; decide, ?_⟩
  have b1 : But x H (upd H x (.ins T.C_Brain dx [("units", .int u)])) := but_upd
  have nc : ca0 ≠ x := fun z => by rw [z, hx] at hc; cases hc
  have nb : bl ≠ x := fun z => by rw [z, hx] at hb; cases hb
  have k1 : KeepT H (upd H x (.ins T.C_Brain dx [("units", .int u)])) := fun c ys e => b1 c _ (fun z => by rw [z, hx] at e; cases e) e
  have x1 : upd H x (.ins T.C_Brain dx [("units", .int u)]) x = some (.ins T.C_Brain dx [("units", .int u)]) := upd_same
  show tSeq _ _ _ _ (upd H x (.ins T.C_Brain dx [("units", .int u)]))
  have p1 := L2.Paired.mapP hp fun _ _ q => q.keep k1
  have c1 := b1 _ _ nc hc
  have d1 := b1 _ _ nb hb
  revert b1 x1 p1 c1 d1
  generalize upd H x (.ins T.C_Brain dx [("units", .int u)]) = H1
  intro b1 x1 p1 c1 d1
  clear k1
  refine ⟨_, rfl, ca0, rfl, ⟨_, SqT.of c1⟩, fun D hD => ?_⟩
  refine lc_tup (a := ca0) (xs := cv) (fun i H2 => Same H1 H2 ∧ ∃ rs, H2 D = some (.lst rs) ∧ Paired (CellV H2) rs (cs.take i)) ⟨same_upd hD, [], upd_same, .nil⟩ (fun i H2 _ h => SqT.of (h.1 _ _ c1)) (fun i v H2 hv h => ?_) (fun H2 h => ?_)
  · obtain ⟨s2, rs, e2, p2⟩ := h
    obtain ⟨t, ht, U2, rfl, hU2⟩ := pget p1 hv
    have l2 := Paired.length p2
    rw [List.length_take] at l2
    refine ⟨U2, _, rfl, SqT.of (s2 _ _ hU2), rfl, _, _, rfl, _, _, rfl, rfl, ?_⟩
    refine ⟨rfl, ?_⟩
    refine ⟨_, rfl, _, rfl, by show 2 ≤ sizeLine; decide, fun U hU => ?_⟩
    have sU := same_upd (o := .tup [V.str t.1, .int t.2]) hU
    have nU : U ≠ D := (ne_of_none e2 hU).symm
    have kU := (keepT_of sU).trans (keepT_lst (ys := rs ++ [.ref U]) (sU _ _ e2))
    refine ⟨_, sU _ _ e2, small1000 (by omega), fun c o e => ?_, _, upd_same, ?_⟩
    · rw [upd_ne (ne_of_none e hD)]
      exact sU _ _ (s2 _ _ e)
    · exact paired_snoc_take (L2.Paired.mapP p2 fun _ _ z => z.keep kU) ht ⟨U, rfl, by rw [upd_ne nU]; exact upd_same⟩
  obtain ⟨s2, rs, e2, p2⟩ := h
  rw [show cv.length = cs.length from Paired.length p1, List.take_of_length_le (Nat.le_refl _)] at p2
  refine ⟨D, _, rfl, .inl ⟨SqL.of e2, fun ca fc => ?_⟩⟩
  have s3 := same_upd (o := .tup rs) fc
  have s13 := s2.trans s3
  have x3 := s13 _ _ x1
  have nx : ca ≠ x := (ne_of_none x1 (s2.free fc)).symm
  refine ⟨_, rfl, x, T.C_Brain, dx, _, rfl, x3, T.cl_Brain, T.n_Brain_cells, by show 1 < 1000; decide, ?_⟩
  rw [pf_new (show ("cells" : Str) ∉ (["units"] : List Str) by decide +kernel)]
  refine ⟨_, rfl, bl, ws, rfl, .inr ⟨SqT.of (by rw [upd_ne nb]; exact s13 _ _ d1), ?_⟩⟩
  refine ⟨_, rfl, x, T.C_Brain, dx, [("units", .int u), ("cells", .ref ca)], rfl, upd_same, T.cl_Brain, T.n_Brain_block, by show 2 < 1000; decide, ?_⟩
  rw [pf_new (show ("block" : Str) ∉ (["units", "cells"] : List Str) by decide +kernel), upd_upd]
  refine ⟨_, rfl, _, rfl, x, T.C_Brain, dx, [("units", .int u), ("cells", .ref ca), ("block", .ref bl)], rfl, upd_same, T.cl_Brain, T.n_Brain_answer, by show 3 < 1000; decide, ?_⟩
  rw [pf_new (show ("answer" : Str) ∉ (["units", "cells", "block"] : List Str) by decide +kernel), upd_upd]
  refine q ca rs _ (fun c o n e => ?_) upd_same (by rw [upd_ne nx]; exact upd_same) (L2.Paired.mapP p2 fun _ _ z => z.keep fun c ys e => ?_)
  · rw [upd_ne n]
    exact s13 _ _ (b1 _ _ n e)
  · rw [upd_ne (fun z => by rw [z, s2 _ _ x1] at e; cases e)]
    exact s3 _ _ e
/-! ### Tape.__init__ -/
def sp_Tape_init (T : Txt K mg w) : Sp := fun vs H Q _ => ∃ (x dx a : Addr) (rs : List Int), vs = [.ref x, .ref a] ∧ H x = some (.ins T.C_Tape dx []) ∧ SqL K H a (rs.map V.int) ∧
  ∀ (rl tl : Addr) (H' : Hp), (∀ b o, b ≠ x → H b = some o → H' b = some o) → H' x = some (.ins T.C_Tape dx (tpf rl tl)) → H' rl = some (.lst (rs.map V.int)) → H' tl = some (.lst []) → H rl = none → H tl = none → rl ≠ tl → Q .non H'

theorem ok_Tape_init (T : Txt K mg w) : FnOk P w K mg base CX0 1 T.a_Tape_init T.d_Tape_init ["self", "results"] (sp_Tape_init T) := by
  refine T.F_Tape_init.ok sc_Tape_init (fun vs H Q E h => ?_) (fun cdv A outer s H vs Q E hr h => ?_)
  · obtain ⟨x, dx, a, rs, rfl, _⟩ := h
    rfl
  obtain ⟨x, dx, a, rs, rfl, hx, hS, q⟩ := h
  refine ⟨_, (pss_cons (ps_fld (pv 0) (pe_callTy call_list_of (by rfl) T.z_list (by first | exact PySem.boot_list | decide +kernel) (pa_cons (pv 1) pa_nil)) rfl)
      (pss_one (ps_fld (pv 0) (pe_lst pa_nil) rfl))), ?_⟩
  refine ⟨_, rfl, a, _, rfl, .inl hS, fun rl h1 => ?_⟩
  have s1 := same_upd (o := .lst (rs.map V.int)) h1
  have r1 : rl ≠ x := (ne_of_none hx h1).symm
  refine ⟨_, rfl, x, T.C_Tape, dx, [], rfl, s1 _ _ hx, T.cl_Tape, T.n_Tape__results, by show 0 < 1000; decide, ?_⟩
  refine ⟨by show 0 ≤ sizeLine; decide, fun tl h2 => ?_⟩
  have t1 : tl ≠ x := fun z => by
    rw [z, upd_same] at h2
    cases h2
  have h2' : upd H rl (.lst (rs.map V.int)) tl = none := by
    rw [upd_ne t1] at h2
    exact h2
  have h3 : H tl = none := s1.free h2'
  have t2 : rl ≠ tl := fun z => by
    rw [← z, upd_same] at h2'
    cases h2'
  refine ⟨_, rfl, x, T.C_Tape, dx, _, rfl, by rw [upd_ne t1.symm]; exact upd_same, T.cl_Tape, T.n_Tape_taken, by show 1 < 1000; decide, ?_⟩
  refine q rl tl _ (fun b o n e => ?_) upd_same ?_ ?_ h1 h3 t2
  · rw [upd_ne n, upd_ne (ne_of_none e h3), upd_ne n]
    exact s1 _ _ e
  · rw [upd_ne r1, upd_ne t2, upd_ne r1, upd_same]
  · rw [upd_ne t1, upd_same]
/-! ### _law_pool -/
def sp_law_pool (T : Txt K mg w) : Sp := fun vs H Q _ => ∃ (a : Addr) (ns : List Int) (b : Int), vs = [.ref a, .int b] ∧ SqL K H a (ns.map V.int) ∧ ∀ (p c : Addr) (H' : Hp), Same H H' → H p = none → H c = none → Pool H' p c b → Q (.ref p) H'

theorem ok_law_pool (T : Txt K mg w) : FnOk P w K mg base CX0 1 T.a_law_pool T.d_law_pool ["script", "budget"] (sp_law_pool T) := by
  refine T.F_law_pool.ok sc_law_pool (fun vs H Q E h => ?_) (fun cdv A outer s H vs Q E hr h => ?_)
  · obtain ⟨a, ns, b, rfl, _⟩ := h
    rfl
  obtain ⟨a, ns, b, rfl, hS, q⟩ := h
  refine ⟨_, (pss_one (ps_ret (pe_lst (pa_cons (pe_callTy call_list_of (by rfl) T.z_list (by first | exact PySem.boot_list | decide +kernel) (pa_cons (pv 0) pa_nil)) (pa_cons pe_int (pa_cons pe_int (pa_cons pe_int (pa_cons pe_int (pa_cons (pv 1) pa_nil))))))))), ?_⟩
  refine ⟨_, rfl, a, _, rfl, .inl hS, fun c hc => ⟨_, rfl, by show 6 ≤ sizeLine; decide, fun p hp => ?_⟩⟩
  refine q p c _ (upd2_same hc hp) ((same_upd hc).free hp) hc ⟨ns, 0, 0, 1, 0, upd_same, same_upd hp _ _ upd_same, Int.le_refl 0, fun z => ?_⟩
  rw [z] at hp
  rw [upd_same] at hp
  cases hp
/-! ### _law_draw -/
def sp_law_draw (T : Txt K mg w) : Sp := fun vs H Q _ => ∃ (p c : Addr) (n b : Int), vs = [.ref p, .int n] ∧ 0 < n ∧ n < 1073741824 ∧ Pool H p c b ∧ ∀ (k : Int) (H' : Hp), 0 ≤ k → k < n → But p H H' → Pool H' p c b → Q (.int k) H'

theorem ok_law_draw (T : Txt K mg w) : FnOk P w K mg base CX0 1 T.a_law_draw T.d_law_draw ["pool", "size"] (sp_law_draw T) := by
  refine T.F_law_draw.ok sc_law_draw (fun vs H Q E h => ?_) (fun cdv A outer s H vs Q E hr h => ?_)
  · obtain ⟨p, c, n, b, rfl, _⟩ := h
    rfl
  obtain ⟨p, c, n, b, rfl, hn, hn2, hP, q⟩ := h
  have hP0 := hP
  obtain ⟨ns, i, r, u, t, hp, hc, hi, hcp⟩ := hP
  refine ⟨_, (C8.pss_cut (ps_if (PW.pt (pw_and (pt_cmpR op_le (pe_ix ix_list (pv 0) pe_int (fun _ _ => rfl)) pe_int (nomark _)) (pw_and (pt_cmpR op_le (pe_ix ix_list (pv 0) pe_int (fun _ _ => rfl)) pe_int (nomark _)) (pw_and1 (pt_cmpR op_lt (pe_ix ix_list (pv 0) pe_int (fun _ _ => rfl)) (pe_callB call_len_seq (by rfl) T.z_len (by first | exact PySem.boot_len | decide +kernel) (pa_cons (pe_ix ix_list (pv 0) pe_int (fun _ _ => rfl)) pa_nil)) (nomark _)))))) (pss_cons (ps_set (i := 2) sc_law_draw.nd rfl (by first | exact Or.inl rfl | exact Or.inr rfl) (pe_ix ix_list (pe_ix ix_list (pv 0) pe_int (fun _ _ => rfl)) (pe_ix ix_list (pv 0) pe_int (fun _ _ => rfl)) (fun _ _ => rfl)))
      (pss_cons (ps_asg (pe_op op_add (pe_ix ix_list (pv 0) pe_int (fun _ _ => rfl)) pe_int) (pg_sub (pv 0) pe_int set_list))
      (pss_cons (ps_asg (pe_op op_mod (pe_callTy call_int1 (by rfl) T.z_int (by first | exact PySem.boot_int | decide +kernel) (pa_cons (pe_op op_add (pe_op op_mul (pe_ix ix_list (pv 0) pe_int (fun _ _ => rfl)) pe_int) (pv 2)) pa_nil)) pe_int) (pg_sub (pv 0) pe_int set_list))
      (pss_cons (ps_asg pe_int (pg_sub (pv 0) pe_int set_list))
      (pss_one (ps_if (pt_cmpR op_ge (pv 2) (pe_op op_pow pe_int pe_int) (nomark _)) (pss_one (ps_asg (pv 2) (pg_sub (pv 0) pe_int set_list))) pss_nil)))))) pss_nil)
      (pss_cons (ps_if (pt_cmpR op_gt (pe_ix ix_list (pv 0) pe_int (fun _ _ => rfl)) pe_int (nomark _)) (pss_cons (ps_set (i := 3) sc_law_draw.nd rfl (by first | exact Or.inl rfl | exact Or.inr rfl) (pe_op op_mod (pe_callTy call_int1 (by rfl) T.z_int (by first | exact PySem.boot_int | decide +kernel) (pa_cons (pe_ix ix_list (pv 0) pe_int (fun _ _ => rfl)) pa_nil)) (pv 1)))
      (pss_cons (ps_asg (pe_op op_fdiv (pe_ix ix_list (pv 0) pe_int (fun _ _ => rfl)) (pv 1)) (pg_sub (pv 0) pe_int set_list))
      (pss_cons (ps_asg pe_int (pg_sub (pv 0) pe_int set_list))
      (pss_one (ps_ret (pv 3)))))) pss_nil)
      (pss_cons (ps_asg (pe_op op_sub (pe_ix ix_list (pv 0) pe_int (fun _ _ => rfl)) pe_int) (pg_sub (pv 0) pe_int set_list))
      (pss_cons (ps_asg (pe_op op_mod (pe_callTy call_int1 (by rfl) T.z_int (by first | exact PySem.boot_int | decide +kernel) (pa_cons (pe_op op_add (pe_op op_mul (pe_ix ix_list (pv 0) pe_int (fun _ _ => rfl)) pe_int) pe_int) pa_nil)) pe_int) (pg_sub (pv 0) pe_int set_list))
      (pss_one (ps_ret (pe_op op_mod (pe_op op_mod (pe_callTy call_int1 (by rfl) T.z_int (by first | exact PySem.boot_int | decide +kernel) (pa_cons (pe_op op_add (pe_op op_mul (pe_ix ix_list (pv 0) pe_int (fun _ _ => rfl)) pe_int) pe_int) pa_nil)) pe_int) (pv 1)))))))), ?_⟩
  let ps : Int → Int → Int → Int → List V := fun i r u t => [.ref c, .int i, .int r, .int u, .int t, .int b]
  have at0 : ∀ i r u t, atI (ps i r u t) 0 = some (.ref c) := fun _ _ _ _ => atI_nat (j := 0) rfl
  have at1 : ∀ i r u t, atI (ps i r u t) 1 = some (.int i) := fun _ _ _ _ => atI_nat (j := 1) rfl
  have at2 : ∀ i r u t, atI (ps i r u t) 2 = some (.int r) := fun _ _ _ _ => atI_nat (j := 2) rfl
  have at3 : ∀ i r u t, atI (ps i r u t) 3 = some (.int u) := fun _ _ _ _ => atI_nat (j := 3) rfl
  have at4 : ∀ i r u t, atI (ps i r u t) 4 = some (.int t) := fun _ _ _ _ => atI_nat (j := 4) rfl
  refine ⟨fun σ' H' => ∃ y i r u t, σ' = [some (.ref p), some (.int n), y, none] ∧ But p H H' ∧ H' p = some (.lst (ps i r u t)) ∧ 0 ≤ i, ?_, ?_⟩
  · refine ⟨_, rfl, p, _, 2, .int r, rfl, rfl, SqL.of hp, at2 _ _ _ _, _, _, rfl, rfl, _, rfl, ite2 (fun _ => ?_) (fun _ => ⟨none, i, r, u, t, rfl, But.refl _ _, hp, hi⟩)⟩
    refine ⟨_, rfl, p, _, 4, .int t, rfl, rfl, SqL.of hp, at4 _ _ _ _, _, _, rfl, rfl, _, rfl, ite2 (fun _ => ?_) (fun _ => ⟨none, i, r, u, t, rfl, But.refl _ _, hp, hi⟩)⟩
    refine ⟨_, rfl, p, _, 1, .int i, rfl, rfl, SqL.of hp, at1 _ _ _ _, _, rfl, p, _, 0, .ref c, rfl, rfl, SqL.of hp, at0 _ _ _ _, c, _, rfl, .inl (SqL.of hc), _, _, rfl, rfl, _, rfl, ite2 (fun c3 => ?_) (fun _ => ⟨none, i, r, u, t, rfl, But.refl _ _, hp, hi⟩)⟩
    have c3' : i < (((ns.map V.int).length : Nat) : Int) := of_decide_eq_true c3
    rw [List.length_map] at c3'
    have hlt : i.toNat < ns.length := by omega
    have gi : (ns.map V.int)[i.toNat]? = some (.int ns[i.toNat]) := by rw [List.getElem?_map, List.getElem?_eq_getElem hlt]; rfl
    -- cell = pool[0][pool[1]]
    refine ⟨_, rfl, p, _, 0, .ref c, rfl, rfl, SqL.of hp, at0 _ _ _ _, _, rfl, p, _, 1, .int i, rfl, rfl, SqL.of hp, at1 _ _ _ _, c, _, i, _, rfl, rfl, SqL.of hc, at_of (j := i.toNat) (by omega) gi, ?_⟩
    generalize ns[i.toNat] = z
    -- pool[1] = pool[1] + 1; pool[3] = ..; pool[4] = 7
    refine ⟨_, rfl, p, _, 1, .int i, rfl, rfl, SqL.of hp, at1 _ _ _ _, _, _, rfl, rfl, _, rfl, p, _, 1, 1, rfl, rfl, hp, rfl, ?_⟩
    refine ⟨_, rfl, p, ps (i + 1) r u t, 3, .int u, rfl, rfl, SqL.of upd_same, at3 _ _ _ _, _, _, rfl, rfl, .inr ⟨by decide, by decide⟩, _, rfl, _, _, rfl, rfl, .inl ⟨_, rfl, _, _, rfl, rfl, by show (0 : Int) < 2147483647; decide, _, rfl, p, ps (i + 1) r u t, 3, 3, rfl, rfl, upd_same, rfl, ?_⟩⟩
    rw [upd_upd]
    refine ⟨_, rfl, p, ps (i + 1) r ((u * 31 + z) % 2147483647) t, 4, 4, rfl, rfl, upd_same, rfl, ?_⟩
    rw [upd_upd]
    -- if cell >= 10 ** 18: pool[2] = cell
    refine ⟨_, rfl, _, _, rfl, rfl, ⟨by decide, by decide, by decide⟩, _, _, rfl, rfl, _, rfl, ite2 (fun _ => ?_) (fun _ => ?_)⟩
    · refine ⟨_, rfl, _, rfl, p, ps (i + 1) r ((u * 31 + z) % 2147483647) 7, 2, 2, rfl, rfl, upd_same, rfl, ?_⟩
      rw [upd_upd]
      exact ⟨_, i + 1, z, _, 7, rfl, but_upd, upd_same, by omega⟩
    · exact ⟨_, i + 1, r, _, 7, rfl, but_upd, upd_same, by omega⟩
  clear hp hi at0
  rintro σ1 H1 ⟨y, i, r, u, t, rfl, b1, hp, hi⟩
  have hc1 : H1 c = some (.lst (ns.map V.int)) := b1 _ _ hcp hc
  refine ⟨_, rfl, p, _, 2, .int r, rfl, rfl, SqL.of hp, at2 _ _ _ _, _, _, rfl, rfl, _, rfl, ite2 (fun _ => ?_) (fun _ => ?_)⟩
  · -- a large cell is used up
    refine ⟨_, rfl, p, _, 2, .int r, rfl, rfl, SqL.of hp, at2 _ _ _ _, .inl ⟨_, rfl, _, rfl, _, _, rfl, rfl, hn, ?_⟩⟩
    refine ⟨_, rfl, p, _, 2, .int r, rfl, rfl, SqL.of hp, at2 _ _ _ _, _, rfl, _, _, rfl, rfl, ⟨hn, hn2⟩, _, rfl, p, _, 2, 2, rfl, rfl, hp, rfl, ?_⟩
    refine ⟨_, rfl, p, ps i (r / n) u t, 4, 4, rfl, rfl, upd_same, rfl, ?_⟩
    rw [upd_upd]
    refine ⟨_, rfl, q _ _ (Int.emod_nonneg _ (by omega)) (Int.emod_lt_of_pos _ hn) (b1.trans but_upd) ⟨ns, i, r / n, u, 0, upd_same, ?_, hi, hcp⟩⟩
    rw [upd_ne hcp]
    exact hc1
  · refine ⟨_, rfl, p, _, 4, .int t, rfl, rfl, SqL.of hp, at4 _ _ _ _, _, _, rfl, rfl, _, rfl, p, _, 4, 4, rfl, rfl, hp, rfl, ?_⟩
    refine ⟨_, rfl, p, ps i r u (t - 1), 3, .int u, rfl, rfl, SqL.of upd_same, at3 _ _ _ _, _, _, rfl, rfl, .inr ⟨by decide, by decide⟩, _, _, rfl, rfl, .inl ⟨_, rfl, _, _, rfl, rfl, by show (0 : Int) < 2147483647; decide, _, rfl, p, ps i r u (t - 1), 3, 3, rfl, rfl, upd_same, rfl, ?_⟩⟩
    rw [upd_upd]
    refine ⟨_, rfl, p, ps i r ((u * 48271 + 12345) % 2147483647) (t - 1), 3, _, rfl, rfl, SqL.of upd_same, at3 _ _ _ _, _, _, rfl, rfl, .inr ⟨by decide, by decide⟩, _, _, rfl, rfl, .inl ⟨_, rfl, _, _, rfl, rfl, by show (0 : Int) < 2147483647; decide, _, rfl, _, _, rfl, rfl, hn, ?_⟩⟩
    refine q _ _ (Int.emod_nonneg _ (by omega)) (Int.emod_lt_of_pos _ hn) (b1.trans but_upd) ⟨ns, i, r, _, t - 1, upd_same, ?_, hi, hcp⟩
    rw [upd_ne hcp]
    exact hc1
/-! ### _law_spend -/
def sp_law_spend (T : Txt K mg w) : Sp := fun vs H Q _ => ∃ (p c : Addr) (b : Int), vs = [.ref p] ∧ Pool H p c b ∧ ∀ (k : Bool) (H' : Hp) (b' : Int), But p H H' → Pool H' p c b' → Q (.bl k) H'

theorem ok_law_spend (T : Txt K mg w) : FnOk P w K mg base CX0 1 T.a_law_spend T.d_law_spend ["pool"] (sp_law_spend T) := by
  refine T.F_law_spend.ok sc_law_spend (fun vs H Q E h => ?_) (fun cdv A outer s H vs Q E hr h => ?_)
  · obtain ⟨p, c, b, rfl, _⟩ := h
    rfl
  obtain ⟨p, c, b, rfl, ⟨ns, i, r, u, t, hp, hc, hi, hcp⟩, q⟩ := h
  refine ⟨_, (pss_cons (ps_asg (pe_op op_sub (pe_ix ix_list (pv 0) pe_int (fun _ _ => rfl)) pe_int) (pg_sub (pv 0) pe_int set_list))
      (pss_one (ps_ret (pe_cmpR op_ge (pe_ix ix_list (pv 0) pe_int (fun _ _ => rfl)) pe_int (nomark _))))), ?_⟩
  refine ⟨_, rfl, p, _, 5, .int b, rfl, rfl, SqL.of hp, atI_nat (j := 5) rfl, _, _, rfl, rfl, _, rfl, p, _, 5, 5, rfl, rfl, hp, rfl, ?_⟩
  refine ⟨_, rfl, p, [.ref c, .int i, .int r, .int u, .int t, .int (b - 1)], 5, .int (b - 1), rfl, rfl, SqL.of upd_same, atI_nat (j := 5) rfl, _, _, rfl, rfl, q _ _ (b - 1) but_upd ⟨ns, i, r, u, t, upd_same, ?_, hi, hcp⟩⟩
  rw [upd_ne hcp]
  exact hc
/-! ### _law_few -/
def sp_law_few (T : Txt K mg w) : Sp := fun vs H Q _ => ∃ (p c : Addr) (m b : Int), vs = [.ref p, .int m] ∧ 0 ≤ m ∧ m < 1000 ∧ Pool H p c b ∧ ∀ (k : Int) (H' : Hp), 0 ≤ k → k ≤ m → But p H H' → Pool H' p c b → Q (.int k) H'

theorem ok_law_few (T : Txt K mg w) : FnOk P w K mg base CX0 2 T.a_law_few T.d_law_few ["pool", "most"] (sp_law_few T) := by
  refine T.F_law_few.ok sc_law_few (fun vs H Q E h => ?_) (fun cdv A outer s H vs Q E hr h => ?_)
  · obtain ⟨p, c, m, b, rfl, _⟩ := h
    rfl
  obtain ⟨p, c, m, b, rfl, m0, m1, hP, q⟩ := h
  refine ⟨_, (pss_cons (ps_set (i := 2) sc_law_few.nd rfl (by first | exact Or.inl rfl | exact Or.inr rfl) (pe_call (ok_law_draw T) (hr.mono (by decide)) (by rfl) T.m_law_draw T.F_law_draw.kp T.b_law_draw .nil pass0 (pa_cons (pv 0) (pa_cons pe_int pa_nil))))
      (pss_cons (ps_if (pt_cmpR op_eq (pv 2) pe_int (nomark _)) (pss_one (ps_ret (pe_call (ok_law_draw T) (hr.mono (by decide)) (by rfl) T.m_law_draw T.F_law_draw.kp T.b_law_draw .nil pass0 (pa_cons (pv 0) (pa_cons (pe_op op_add (pv 1) pe_int) pa_nil))))) pss_nil)
      (pss_one (ps_ret (pe_callB (call_min2 rfl) (by rfl) T.z_min (by first | exact PySem.boot_min | decide +kernel) (pa_cons (pv 2) (pa_cons (pv 1) pa_nil))))))), ?_⟩
  refine ⟨_, rfl, p, c, 4, b, rfl, by decide, by decide, hP, fun k H1 h0 h1 b1 P1 => ?_⟩
  refine ⟨_, rfl, rfl, _, rfl, ite2 (fun _ => ⟨_, rfl, _, rfl, _, _, rfl, rfl, p, c, m + 1, b, rfl, by omega, by omega, P1, fun k2 H2 g0 g1 b2 P2 => q _ _ g0 (by omega) (b1.trans b2) P2⟩) (fun _ => ⟨_, rfl, _, rfl, _, _, rfl, ?_⟩)⟩
  exact q _ _ (by split <;> omega) (by split <;> omega) b1 P1
/-! ### _law_number -/
def sp_law_number (T : Txt K mg w) : Sp := fun vs H Q _ => ∃ (p c : Addr) (b : Int), vs = [.ref p] ∧ Pool H p c b ∧ ∀ (k : Int) (H' : Hp), Bd k → But p H H' → Pool H' p c b → Q (.int k) H'

theorem ok_law_number (T : Txt K mg w) : FnOk P w K mg base CX0 2 T.a_law_number T.d_law_number ["pool"] (sp_law_number T) := by
  refine T.F_law_number.ok sc_law_number (fun vs H Q E h => ?_) (fun cdv A outer s H vs Q E hr h => ?_)
  · obtain ⟨p, c, b, rfl, _⟩ := h
    rfl
  obtain ⟨p, c, b, rfl, hP, q⟩ := h
  refine ⟨_, (pss_cons (ps_if (pt_cmpR op_eq (pe_call (ok_law_draw T) (hr.mono (by decide)) (by rfl) T.m_law_draw T.F_law_draw.kp T.b_law_draw .nil pass0 (pa_cons (pv 0) (pa_cons pe_int pa_nil))) pe_int (nomark _)) (pss_one (ps_ret (pe_call (ok_law_draw T) (hr.mono (by decide)) (by rfl) T.m_law_draw T.F_law_draw.kp T.b_law_draw .nil pass0 (pa_cons (pv 0) (pa_cons pe_int pa_nil))))) pss_nil)
      (pss_one (ps_ret (pe_call (ok_law_draw T) (hr.mono (by decide)) (by rfl) T.m_law_draw T.F_law_draw.kp T.b_law_draw .nil pass0 (pa_cons (pv 0) (pa_cons pe_int pa_nil)))))), ?_⟩
  refine ⟨_, rfl, p, c, 3, b, rfl, by decide, by decide, hP, fun k H1 h0 h1 b1 P1 => ?_⟩
  refine ⟨rfl, _, rfl, ite2 (fun _ => ?_) (fun _ => ?_)⟩
  · exact ⟨_, rfl, p, c, 65536, b, rfl, by decide, by decide, P1, fun k2 H2 g0 g1 b2 P2 => q _ _ ⟨g0, g1⟩ (b1.trans b2) P2⟩
  · exact ⟨_, rfl, p, c, 9, b, rfl, by decide, by decide, P1, fun k2 H2 g0 g1 b2 P2 => q _ _ ⟨g0, by omega⟩ (b1.trans b2) P2⟩
/-! ### _law_same -/
def sp_law_same (T : Txt K mg w) (n : Nat) : Sp := fun vs H Q _ => ∃ (x y : V) (d : PyData), vs = [x, y] ∧ Da H x d ∧ Da H y d ∧ d.depth < n ∧ wide d = true ∧ Q (.bl true) H
theorem no_law_same (T : Txt K mg w) : ∀ vs H Q E, ¬ sp_law_same T 0 vs H Q E := fun vs H Q E ⟨_, _, _, _, _, _, h, _⟩ => Nat.not_lt_zero _ h

theorem step_law_same (T : Txt K mg w) {n : Nat} (G : FnOk P w K mg base CX0 (0 + n) T.a_law_same T.d_law_same ["actual", "due"] (sp_law_same T n)) : FnOk P w K mg base CX0 (0 + n + 1) T.a_law_same T.d_law_same ["actual", "due"] (sp_law_same T (n + 1)) := by
  refine T.F_law_same.ok sc_law_same (fun vs H Q E h => ?_) (fun cdv A outer s H vs Q E hr h => ?_)
  · obtain ⟨x, y, d, rfl, _⟩ := h
    rfl
  obtain ⟨x, y, d, rfl, hx, hy, hd, hw, q⟩ := h
  refine ⟨_, (pss_cons (ps_if (PW.pt (pw_or (pt_truth (pe_callB call_isi (by rfl) T.z_isinstance (by first | exact PySem.boot_isinstance | decide +kernel) (pa_cons (pv 1) (pa_cons (pe_bltn (v := .ty "tuple") (by rfl) T.z_tuple (by decide +kernel) rfl) pa_nil))) (fun _ => rfl)) (pw_or1 (pt_truth (pe_callB call_isi (by rfl) T.z_isinstance (by first | exact PySem.boot_isinstance | decide +kernel) (pa_cons (pv 1) (pa_cons (pe_bltn (v := .ty "list") (by rfl) T.z_list (by decide +kernel) rfl) pa_nil))) (fun _ => rfl))))) (pss_cons (ps_if (PW.pt (pw_or (pt_cmpR op_ne (pe_callB call_isi (by rfl) T.z_isinstance (by first | exact PySem.boot_isinstance | decide +kernel) (pa_cons (pv 1) (pa_cons (pe_bltn (v := .ty "tuple") (by rfl) T.z_tuple (by decide +kernel) rfl) pa_nil))) (pe_callB call_isi (by rfl) T.z_isinstance (by first | exact PySem.boot_isinstance | decide +kernel) (pa_cons (pv 0) (pa_cons (pe_bltn (v := .ty "tuple") (by rfl) T.z_tuple (by decide +kernel) rfl) pa_nil))) (nomark _)) (pw_or1 (pt_cmpR op_ne (pe_callB call_isi (by rfl) T.z_isinstance (by first | exact PySem.boot_isinstance | decide +kernel) (pa_cons (pv 1) (pa_cons (pe_bltn (v := .ty "list") (by rfl) T.z_list (by decide +kernel) rfl) pa_nil))) (pe_callB call_isi (by rfl) T.z_isinstance (by first | exact PySem.boot_isinstance | decide +kernel) (pa_cons (pv 0) (pa_cons (pe_bltn (v := .ty "list") (by rfl) T.z_list (by decide +kernel) rfl) pa_nil))) (nomark _))))) (pss_one (ps_ret pe_bl)) pss_nil)
      (pss_cons (ps_if (pt_cmpR op_ne (pe_callB call_len_seq (by rfl) T.z_len (by first | exact PySem.boot_len | decide +kernel) (pa_cons (pv 0) pa_nil)) (pe_callB call_len_seq (by rfl) T.z_len (by first | exact PySem.boot_len | decide +kernel) (pa_cons (pv 1) pa_nil)) (nomark _)) (pss_one (ps_ret pe_bl)) pss_nil)
      (pss_cons (ps_for PassesOwn.never rfl (pi_range1 (by rfl) T.z_range (pa_cons (pe_callB call_len_seq (by rfl) T.z_len (by first | exact PySem.boot_len | decide +kernel) (pa_cons (pv 1) pa_nil)) pa_nil)) (pg_name (i := 2) sc_law_same.nd rfl (by first | exact Or.inl rfl | exact Or.inr rfl)) (pss_one (ps_if (pt_not (pt_truth (pe_call G hr (by rfl) T.m_law_same T.F_law_same.kp T.b_law_same .nil pass0 (pa_cons (pe_ix (IxR.or ix_list ix_tup) (pv 0) (pv 2) (fun _ _ => rfl)) (pa_cons (pe_ix (IxR.or ix_list ix_tup) (pv 1) (pv 2) (fun _ _ => rfl)) pa_nil))) (fun _ => rfl))) (pss_one (ps_ret pe_bl)) pss_nil)))
      (pss_one (ps_ret pe_bl))))) pss_nil)
      (pss_cons (ps_if (PW.pt (pw_or (pt_cmpR op_isN (pv 1) pe_non (nomark _)) (pw_or1 (pt_truth (pe_callB call_isi (by rfl) T.z_isinstance (by first | exact PySem.boot_isinstance | decide +kernel) (pa_cons (pv 1) (pa_cons (pe_bltn (v := .ty "bool") (by rfl) T.z_bool (by decide +kernel) rfl) pa_nil))) (fun _ => rfl))))) (pss_one (ps_ret (pe_and (pe_cmpR op_eq (pe_cmpR op_isN (pv 0) pe_non (nomark _)) (pe_cmpR op_isN (pv 1) pe_non (nomark _)) (nomark _)) (pe_and (pe_or (pe_cmpR op_isN (pv 1) pe_non (nomark _)) (pe_one (pe_callB call_isi (by rfl) T.z_isinstance (by first | exact PySem.boot_isinstance | decide +kernel) (pa_cons (pv 0) (pa_cons (pe_bltn (v := .ty "bool") (by rfl) T.z_bool (by decide +kernel) rfl) pa_nil))))) (pe_one (pe_cmpR op_eq (pv 0) (pv 1) (nomark _))))))) pss_nil)
      (pss_cons (ps_if (pt_truth (pe_callB call_isi (by rfl) T.z_isinstance (by first | exact PySem.boot_isinstance | decide +kernel) (pa_cons (pv 1) (pa_cons (pe_bltn (v := .ty "int") (by rfl) T.z_int (by decide +kernel) rfl) pa_nil))) (fun _ => rfl)) (pss_one (ps_ret (pe_and (pe_callB call_isi (by rfl) T.z_isinstance (by first | exact PySem.boot_isinstance | decide +kernel) (pa_cons (pv 0) (pa_cons (pe_bltn (v := .ty "int") (by rfl) T.z_int (by decide +kernel) rfl) pa_nil))) (pe_and (pe_not (pe_callB call_isi (by rfl) T.z_isinstance (by first | exact PySem.boot_isinstance | decide +kernel) (pa_cons (pv 0) (pa_cons (pe_bltn (v := .ty "bool") (by rfl) T.z_bool (by decide +kernel) rfl) pa_nil)))) (pe_one (pe_cmpR op_eq (pv 0) (pv 1) (nomark _))))))) pss_nil)
      (pss_one (ps_ret (pe_and (pe_callB call_isi (by rfl) T.z_isinstance (by first | exact PySem.boot_isinstance | decide +kernel) (pa_cons (pv 0) (pa_cons (pe_bltn (v := .ty "str") (by rfl) T.z_str (by decide +kernel) rfl) pa_nil))) (pe_one (pe_cmpR op_eq (pv 0) (pv 1) (nomark _))))))))), ?_⟩
  cases d with
  | dict kvs => cases hx
  | none =>
    cases hx
    cases hy
    refine ⟨_, rfl, .non, .ty "tuple", .type "NoneType", .type "tuple", false, rfl, .ty _, .base .non, kit_ty (by decide +kernel), false, rfl, ?_⟩
    refine ⟨_, rfl, .non, .ty "list", .type "NoneType", .type "list", false, rfl, .ty _, .base .non, kit_ty (by decide +kernel), false, rfl, ?_⟩
    refine ⟨_, rfl, rfl, _, rfl, ?_⟩
    refine ⟨_, rfl, rfl, _, rfl, rfl, rfl, _, rfl, ?_⟩
    refine ⟨_, rfl, rfl, _, rfl, ?_⟩
    exact ⟨_, rfl, _, rfl, _, rfl, rfl, q⟩
  | bool b =>
    cases hx
    cases hy
    refine ⟨_, rfl, .bl b, .ty "tuple", .type "bool", .type "tuple", false, rfl, .ty _, .base (.bl b), kit_ty (by decide +kernel), false, rfl, ?_⟩
    refine ⟨_, rfl, .bl b, .ty "list", .type "bool", .type "list", false, rfl, .ty _, .base (.bl b), kit_ty (by decide +kernel), false, rfl, ?_⟩
    refine ⟨_, rfl, rfl, _, rfl, ?_⟩
    refine ⟨_, rfl, .bl b, .ty "bool", .type "bool", .type "bool", true, rfl, .ty _, .base (.bl b), kit_ty (by decide +kernel), true, rfl, ?_⟩
    refine ⟨_, rfl, rfl, _, rfl, rfl, rfl, _, rfl, ?_⟩
    refine ⟨_, rfl, rfl, _, rfl, ?_⟩
    refine ⟨_, rfl, .bl b, .ty "bool", .type "bool", .type "bool", true, rfl, .ty _, .base (.bl b), kit_ty (by decide +kernel), _, rfl, ?_⟩
    refine ⟨_, rfl, _, rfl, rfl, ?_⟩
    show Q (.bl (decide (V.bl b = V.bl b))) _
    rw [decide_eq_true rfl]
    exact q
  | int i =>
    cases hx
    cases hy
    refine ⟨_, rfl, .int i, .ty "tuple", .type "int", .type "tuple", false, rfl, .ty _, .base (.int i), kit_ty (by decide +kernel), false, rfl, ?_⟩
    refine ⟨_, rfl, .int i, .ty "list", .type "int", .type "list", false, rfl, .ty _, .base (.int i), kit_ty (by decide +kernel), false, rfl, ?_⟩
    refine ⟨_, rfl, rfl, _, rfl, ?_⟩
    refine ⟨_, rfl, .int i, .ty "bool", .type "int", .type "bool", false, rfl, .ty _, .base (.int i), kit_ty (by decide +kernel), false, rfl, ?_⟩
    refine ⟨_, rfl, .int i, .ty "int", .type "int", .type "int", true, rfl, .ty _, .base (.int i), kit_ty (by decide +kernel), true, rfl, ?_⟩
    refine ⟨_, rfl, .int i, .ty "int", .type "int", .type "int", true, rfl, .ty _, .base (.int i), kit_ty (by decide +kernel), _, rfl, ?_⟩
    refine ⟨_, rfl, .int i, .ty "bool", .type "int", .type "bool", false, rfl, .ty _, .base (.int i), kit_ty (by decide +kernel), _, rfl, _, rfl, ?_⟩
    refine ⟨_, rfl, _, rfl, rfl, ?_⟩
    show Q (.bl (decide (V.int i = V.int i))) _
    rw [decide_eq_true rfl]
    exact q
  | str x =>
    cases hx
    cases hy
    refine ⟨_, rfl, .str x, .ty "tuple", .type "str", .type "tuple", false, rfl, .ty _, .base (.str x), kit_ty (by decide +kernel), false, rfl, ?_⟩
    refine ⟨_, rfl, .str x, .ty "list", .type "str", .type "list", false, rfl, .ty _, .base (.str x), kit_ty (by decide +kernel), false, rfl, ?_⟩
    refine ⟨_, rfl, rfl, _, rfl, ?_⟩
    refine ⟨_, rfl, .str x, .ty "bool", .type "str", .type "bool", false, rfl, .ty _, .base (.str x), kit_ty (by decide +kernel), false, rfl, ?_⟩
    refine ⟨_, rfl, .str x, .ty "int", .type "str", .type "int", false, rfl, .ty _, .base (.str x), kit_ty (by decide +kernel), false, rfl, ?_⟩
    refine ⟨_, rfl, .str x, .ty "str", .type "str", .type "str", true, rfl, .ty _, .base (.str x), kit_ty (by decide +kernel), _, rfl, ?_⟩
    refine ⟨_, rfl, _, rfl, rfl, ?_⟩
    show Q (.bl (decide (V.str x = V.str x))) _
    rw [decide_eq_true rfl]
    exact q
  | tuple ds =>
    cases hx with
    | @tup px xs _ hpx lx ex =>
    cases hy with
    | @tup py ys _ hpy ly ey =>
    simp only [wide, Bool.and_eq_true, decide_eq_true_eq] at hw
    have hl : ((xs.length : Nat) : Int) = ((ys.length : Nat) : Int) := by rw [lx, ly]
    refine ⟨_, rfl, .ref py, .ty "tuple", .type "tuple", .type "tuple", true, rfl, .ty _, .base (.tup hpy), kit_ty (by decide +kernel), true, rfl, ?_⟩
    refine ⟨_, rfl, .ref py, .ty "tuple", .type "tuple", .type "tuple", true, rfl, .ty _, .base (.tup hpy), kit_ty (by decide +kernel), _, rfl, .ref px, .ty "tuple", .type "tuple", .type "tuple", true, rfl, .ty _, .base (.tup hpx), kit_ty (by decide +kernel), rfl, _, rfl, ?_⟩
    refine ⟨_, rfl, .ref py, .ty "list", .type "tuple", .type "list", false, rfl, .ty _, .base (.tup hpy), kit_ty (by decide +kernel), _, rfl, .ref px, .ty "list", .type "tuple", .type "list", false, rfl, .ty _, .base (.tup hpx), kit_ty (by decide +kernel), rfl, _, rfl, ?_⟩
    refine ⟨_, rfl, px, xs, rfl, .inr (SqT.of hpx), _, rfl, py, ys, rfl, .inr (SqT.of hpy), rfl, _, rfl, iteNS (congrArg V.int hl) ?_⟩
    refine ⟨_, rfl, py, ys, rfl, .inr (SqT.of hpy), _, rfl, by omega, by omega, for_range (fun i σ' H' => ∃ yk, σ' = [some (.ref px), some (.ref py), yk] ∧ H' = H) ⟨_, rfl, rfl⟩ ?_ ?_⟩
    · rintro i σ1 H1 hi ⟨yk, rfl, rfl⟩
      have hi2 : i < ds.length := by rw [← ly]; exact hi
      have gd : ds[i]? = some ds[i] := List.getElem?_eq_getElem hi2
      have gx : xs[i]? = some xs[i] := List.getElem?_eq_getElem (by rw [lx]; exact hi2)
      have gy : ys[i]? = some ys[i] := List.getElem?_eq_getElem (by rw [ly]; exact hi2)
      have e0 : (0 : Int) + (i : Int) = ((i : Nat) : Int) := Int.zero_add _
      refine ⟨_, rfl, _, rfl, .inr ⟨px, xs, _, _, rfl, rfl, SqT.of hpx, at_of e0 gx, _, rfl, _, rfl, .inr ⟨py, ys, _, _, rfl, rfl, SqT.of hpy, at_of e0 gy, xs[i], ys[i], ds[i], rfl, ex i _ _ gx gd, ey i _ _ gy gd, ?_, wide_get hw.2 gd, true, rfl, _, rfl, rfl⟩⟩⟩
      have dg := depth_get gd
      simp only [PyData.depth] at hd
      omega
    · rintro σ1 H1 ⟨yk, rfl, rfl⟩
      exact q
  | list ds =>
    cases hx with
    | @lst px xs _ hpx lx ex =>
    cases hy with
    | @lst py ys _ hpy ly ey =>
    simp only [wide, Bool.and_eq_true, decide_eq_true_eq] at hw
    have hl : ((xs.length : Nat) : Int) = ((ys.length : Nat) : Int) := by rw [lx, ly]
    refine ⟨_, rfl, .ref py, .ty "tuple", .type "list", .type "tuple", false, rfl, .ty _, .base (.lst hpy), kit_ty (by decide +kernel), false, rfl, ?_⟩
    refine ⟨_, rfl, .ref py, .ty "list", .type "list", .type "list", true, rfl, .ty _, .base (.lst hpy), kit_ty (by decide +kernel), true, rfl, ?_⟩
    refine ⟨_, rfl, .ref py, .ty "tuple", .type "list", .type "tuple", false, rfl, .ty _, .base (.lst hpy), kit_ty (by decide +kernel), _, rfl, .ref px, .ty "tuple", .type "list", .type "tuple", false, rfl, .ty _, .base (.lst hpx), kit_ty (by decide +kernel), rfl, _, rfl, ?_⟩
    refine ⟨_, rfl, .ref py, .ty "list", .type "list", .type "list", true, rfl, .ty _, .base (.lst hpy), kit_ty (by decide +kernel), _, rfl, .ref px, .ty "list", .type "list", .type "list", true, rfl, .ty _, .base (.lst hpx), kit_ty (by decide +kernel), rfl, _, rfl, ?_⟩
    refine ⟨_, rfl, px, xs, rfl, .inl (SqL.of hpx), _, rfl, py, ys, rfl, .inl (SqL.of hpy), rfl, _, rfl, iteNS (congrArg V.int hl) ?_⟩
    refine ⟨_, rfl, py, ys, rfl, .inl (SqL.of hpy), _, rfl, by omega, by omega, for_range (fun i σ' H' => ∃ yk, σ' = [some (.ref px), some (.ref py), yk] ∧ H' = H) ⟨_, rfl, rfl⟩ ?_ ?_⟩
    · rintro i σ1 H1 hi ⟨yk, rfl, rfl⟩
      have hi2 : i < ds.length := by rw [← ly]; exact hi
      have gd : ds[i]? = some ds[i] := List.getElem?_eq_getElem hi2
      have gx : xs[i]? = some xs[i] := List.getElem?_eq_getElem (by rw [lx]; exact hi2)
      have gy : ys[i]? = some ys[i] := List.getElem?_eq_getElem (by rw [ly]; exact hi2)
      have e0 : (0 : Int) + (i : Int) = ((i : Nat) : Int) := Int.zero_add _
      refine ⟨_, rfl, _, rfl, .inl ⟨px, xs, _, _, rfl, rfl, SqL.of hpx, at_of e0 gx, _, rfl, _, rfl, .inl ⟨py, ys, _, _, rfl, rfl, SqL.of hpy, at_of e0 gy, xs[i], ys[i], ds[i], rfl, ex i _ _ gx gd, ey i _ _ gy gd, ?_, wide_get hw.2 gd, true, rfl, _, rfl, rfl⟩⟩⟩
      have dg := depth_get gd
      simp only [PyData.depth] at hd
      omega
    · rintro σ1 H1 ⟨yk, rfl, rfl⟩
      exact q
theorem ok_law_same (T : Txt K mg w) : ∀ n, FnOk P w K mg base CX0 (0 + n) T.a_law_same T.d_law_same ["actual", "due"] (sp_law_same T n)
  | 0 => ⟨fun vs H Q E h => absurd h (no_law_same T vs H Q E), fun A outer s H args us vs Q E _ _ _ _ h => absurd h (no_law_same T vs H Q E)⟩
  | n + 1 => step_law_same T (ok_law_same T n)
/-! ### _law_keys -/
def sp_law_keys (T : Txt K mg w) : Sp := fun vs H Q _ => vs = [] ∧ ∀ (p : Addr) (H' : Hp), Same H H' → H p = none → H' p = some (.lst (kwL.map V.str)) → Q (.ref p) H'

theorem ok_law_keys (T : Txt K mg w) : FnOk P w K mg base CX0 1 T.a_law_keys T.d_law_keys [] (sp_law_keys T) := by
  refine T.F_law_keys.ok sc_law_keys (fun vs H Q E h => ?_) (fun cdv A outer s H vs Q E hr h => ?_)
  · obtain ⟨rfl, _⟩ := h
    rfl
  obtain ⟨rfl, q⟩ := h
  refine ⟨_, (pss_cons (ps_set (i := 0) sc_law_keys.nd rfl (by first | exact Or.inl rfl | exact Or.inr rfl) pe_str)
      (pss_one (ps_ret (pe_bm PySem.F.plainAttrs_str PySem.F.slot_str_split PySem.F.type_str_split mt_split (pe_op op_add_str (pv 0) pe_str) (pa_cons pe_str pa_nil))))), ?_⟩
  refine ⟨_, rfl, _, _, rfl, rfl, by decide +kernel, rfl, _, _, rfl, rfl, by decide +kernel, by decide +kernel, fun p hp => ?_⟩
  refine q p _ (same_upd hp) hp ?_
  rw [upd_same, kw_split]
/-! ### _law_name -/
def sp_law_name (T : Txt K mg w) : Sp := fun vs H Q _ => ∃ (p c pt : Addr) (ts : List Str) (b : Int), vs = [.ref p, .ref pt] ∧ Pool H p c b ∧ pt ≠ p ∧ H pt = some (.lst (ts.map V.str)) ∧ ts.length < 20 ∧ ∀ (x : Str) (H' : Hp), Nm x → x ∉ ts → But p H H' → Pool H' p c b → Q (.str x) H'

theorem ok_law_name (T : Txt K mg w) : FnOk P w K mg base CX0 3 T.a_law_name T.d_law_name ["pool", "taken"] (sp_law_name T) := by
  refine T.F_law_name.ok sc_law_name (fun vs H Q E h => ?_) (fun cdv A outer s H vs Q E hr h => ?_)
  · obtain ⟨p, c, pt, ts, b, rfl, _⟩ := h
    rfl
  obtain ⟨p, c, pt, ts, b, rfl, hP, npt, ht, h20, q⟩ := h
  refine ⟨_, (pss_cons (ps_set (i := 2) sc_law_name.nd rfl (by first | exact Or.inl rfl | exact Or.inr rfl) pe_str)
      (pss_cons (ps_set (i := 3) sc_law_name.nd rfl (by first | exact Or.inl rfl | exact Or.inr rfl) (pe_ix ix_str (pv 2) (pe_call (ok_law_draw T) (hr.mono (by decide)) (by rfl) T.m_law_draw T.F_law_draw.kp T.b_law_draw .nil pass0 (pa_cons (pv 0) (pa_cons pe_int pa_nil))) (fun _ _ => rfl)))
      (pss_cons (ps_for PassesOwn.never rfl (pi_range1 (by rfl) T.z_range (pa_cons (pe_call (ok_law_few T) (hr.mono (by decide)) (by rfl) T.m_law_few T.F_law_few.kp T.b_law_few .nil pass0 (pa_cons (pv 0) (pa_cons pe_int pa_nil))) pa_nil)) (pg_name (i := 4) sc_law_name.nd rfl (by first | exact Or.inl rfl | exact Or.inr rfl)) (pss_one (ps_set (i := 3) sc_law_name.nd rfl (by first | exact Or.inl rfl | exact Or.inr rfl) (pe_op op_add_str (pv 3) (pe_ix ix_str (pv 2) (pe_call (ok_law_draw T) (hr.mono (by decide)) (by rfl) T.m_law_draw T.F_law_draw.kp T.b_law_draw .nil pass0 (pa_cons (pv 0) (pa_cons pe_int pa_nil))) (fun _ _ => rfl))))))
      (C8.pss_cut (ps_if (PW.pt (pw_or (pt_cmpR op_in_seq (pv 3) (pv 1) (by with_unfolding_all rfl)) (pw_or1 (pt_cmpR op_in_seq (pv 3) (pe_call0 (ok_law_keys T) (hr.mono (by decide)) (by rfl) T.m_law_keys T.F_law_keys.kp T.b_law_keys .nil pass0) (by with_unfolding_all rfl))))) (pss_one (ps_for PassesOwn.never rfl (pi_range1 (by rfl) T.z_range (pa_cons pe_int pa_nil)) (pg_name (i := 4) sc_law_name.nd rfl (by first | exact Or.inl rfl | exact Or.inr rfl)) (pss_one (ps_if (pt_cmpR op_notIn_seq (pe_op op_add_str pe_str (pe_callTy call_str_int (by rfl) T.z_str (by first | exact PySem.boot_str | decide +kernel) (pa_cons (pv 4) pa_nil))) (pv 1) (by with_unfolding_all rfl)) (pss_one (ps_set (i := 3) sc_law_name.nd rfl (by first | exact Or.inl rfl | exact Or.inr rfl) (pe_op op_add_str pe_str (pe_callTy call_str_int (by rfl) T.z_str (by first | exact PySem.boot_str | decide +kernel) (pa_cons (pv 4) pa_nil))))) pss_nil)))) pss_nil)
      (pss_one (ps_ret (pv 3))))))), ?_⟩
  refine ⟨_, rfl, _, rfl, p, c, 26, b, rfl, by decide, by decide, hP, fun r H1 r0 r1 b1 P1 => ?_⟩
  obtain ⟨d, ad, ld⟩ := ld_let r0 r1
  refine ⟨ldN, r, d, rfl, rfl, by decide +kernel, ad, ?_⟩
  refine ⟨_, rfl, p, c, 11, b, rfl, by decide, by decide, P1, fun m H2 m0 m1 b2 P2 => ?_⟩
  refine ⟨m, rfl, by omega, by omega, for_range (fun i σ' H' => ∃ (x : Str) (y : Option V), σ' = [some (.ref p), some (.ref pt), some (.str ldN), some (.str x), y] ∧ But p H H' ∧ Pool H' p c b ∧ ∃ r, x.cps.toList = d :: r ∧ (∀ d ∈ r, NmC d) ∧ r.length = i) ⟨_, _, rfl, b1.trans b2, P2, [], rfl, (fun _ m => by cases m), rfl⟩ ?_ ?_⟩
  · rintro i σ3 H3 hi ⟨x, y, rfl, b3, P3, rr, xe, xn, xl⟩
    refine ⟨_, rfl, _, rfl, _, rfl, p, c, 36, b, rfl, by decide, by decide, P3, fun r H4 r0 r1 b4 P4 => ?_⟩
    obtain ⟨d2, ad2, ld2⟩ := ld_nm r0 r1
    have xL : x.length = i + 1 := by
      show x.cps.toList.length = i + 1
      rw [xe, List.length_cons, xl]
    refine ⟨ldN, r, d2, rfl, rfl, by decide +kernel, ad2, x, _, rfl, rfl, ?_, ⟨_, _, rfl, b3.trans b4, P4, rr ++ [d2], ?_, ?_, ?_⟩⟩
    · show x.length + 1 ≤ sizeLine
      exact small_le (by omega)
    · rw [app_cps, xe]
      rfl
    · intro d3 m3
      rcases List.mem_append.mp m3 with m3 | m3
      · exact xn d3 m3
      · rw [List.mem_singleton.mp m3]
        exact ld2
    · rw [List.length_append, xl]
      rfl
  · rintro σ3 H3 ⟨x0, y, rfl, b3, P3, rr, xe, xn, xl⟩
    have et := b3 _ _ npt ht
    have xF : NmF x0 := ⟨d, rr, xe, ld, xn, by omega⟩
    refine ⟨fun σ' H' => ∃ (x : Str) (y : Option V), σ' = [some (.ref p), some (.ref pt), some (.str ldN), some (.str x), y] ∧ But p H H' ∧ Pool H' p c b ∧ Nm x ∧ x ∉ ts, ?_, ?_⟩
    · refine ⟨_, rfl, _, rfl, pt, ts.map V.str, rfl, .inl (SqL.of et), rfl, strs_flat ts, _, rfl, ite2 (fun _ => ?_) (fun c1 => ?_)⟩
      · refine ⟨20, rfl, by decide, by decide, for_range (fun i σ' H' => ∃ (x : Str) (y : Option V), σ' = [some (.ref p), some (.ref pt), some (.str ldN), some (.str x), y] ∧ H' = H3 ∧ VW ts x0 i x) ⟨_, _, rfl, rfl, .inr ⟨rfl, fun k z => absurd z (Nat.not_lt_zero k)⟩⟩ ?_ ?_⟩
        · rintro i σ6 H6 hi ⟨x6, y6, rfl, rfl, vw⟩
          obtain ⟨sl, lg⟩ := small_str (k := 0 + (i : Int)) (by omega) (by omega)
          refine ⟨_, rfl, _, rfl, lg, _, _, rfl, rfl, ?_, _, rfl, pt, _, rfl, .inl (SqL.of et), rfl, strs_flat ts, _, rfl, ite2 (fun c => ?_) (fun c => ⟨_, _, rfl, rfl, ?_⟩)⟩
          · show 1 + _ ≤ sizeLine
            exact small_le (by omega)
          · refine ⟨_, rfl, _, rfl, lg, _, _, rfl, rfl, ?_, ⟨_, _, rfl, rfl, .inl ?_⟩⟩
            · show 1 + _ ≤ sizeLine
              exact small_le (by omega)
            · have c2 := not_in c
              show Nm (("v" : Str) ++ Str.ofString (toString (0 + (i : Int)))) ∧ ("v" : Str) ++ Str.ofString (toString (0 + (i : Int))) ∉ ts
              have c2 : ("v" : Str) ++ Str.ofString (toString (0 + (i : Int))) ∉ ts := c2
              rw [vS_val] at c2 ⊢
              exact ⟨vS_nm (by omega), c2⟩
          · have c2 : ("v" : Str) ++ Str.ofString (toString (0 + (i : Int))) ∈ ts := is_in c
            rw [vS_val] at c2
            exact vw.next c2
        · rintro σ6 H6 ⟨x6, y6, rfl, rfl, vw⟩
          obtain ⟨w1, w2⟩ := VW.fin vw h20
          exact ⟨_, _, rfl, b3, P3, w1, w2⟩

      · refine ⟨_, rfl, rfl, fun pk H5 s5 n5 e5 => ?_⟩
        have b5 := b3.trans (but_of s5)
        have P5 := P3.same s5
        have et5 := s5 _ _ et
        refine ⟨pk, _, rfl, .inl (SqL.of e5), rfl, strs_flat kwL, _, rfl, ite2 (fun _ => ?_) (fun c2 => ⟨_, _, rfl, b5, P5, ⟨xF, inv_f c2⟩, inv_f c1⟩)⟩
        refine ⟨20, rfl, by decide, by decide, for_range (fun i σ' H' => ∃ (x : Str) (y : Option V), σ' = [some (.ref p), some (.ref pt), some (.str ldN), some (.str x), y] ∧ H' = H5 ∧ VW ts x0 i x) ⟨_, _, rfl, rfl, .inr ⟨rfl, fun k z => absurd z (Nat.not_lt_zero k)⟩⟩ ?_ ?_⟩
        · rintro i σ6 H6 hi ⟨x6, y6, rfl, rfl, vw⟩
          obtain ⟨sl, lg⟩ := small_str (k := 0 + (i : Int)) (by omega) (by omega)
          refine ⟨_, rfl, _, rfl, lg, _, _, rfl, rfl, ?_, _, rfl, pt, _, rfl, .inl (SqL.of et5), rfl, strs_flat ts, _, rfl, ite2 (fun c => ?_) (fun c => ⟨_, _, rfl, rfl, ?_⟩)⟩
          · show 1 + _ ≤ sizeLine
            exact small_le (by omega)
          · refine ⟨_, rfl, _, rfl, lg, _, _, rfl, rfl, ?_, ⟨_, _, rfl, rfl, .inl ?_⟩⟩
            · show 1 + _ ≤ sizeLine
              exact small_le (by omega)
            · have c2 := not_in c
              show Nm (("v" : Str) ++ Str.ofString (toString (0 + (i : Int)))) ∧ ("v" : Str) ++ Str.ofString (toString (0 + (i : Int))) ∉ ts
              have c2 : ("v" : Str) ++ Str.ofString (toString (0 + (i : Int))) ∉ ts := c2
              rw [vS_val] at c2 ⊢
              exact ⟨vS_nm (by omega), c2⟩
          · have c2 : ("v" : Str) ++ Str.ofString (toString (0 + (i : Int))) ∈ ts := is_in c
            rw [vS_val] at c2
            exact vw.next c2
        · rintro σ6 H6 ⟨x6, y6, rfl, rfl, vw⟩
          obtain ⟨w1, w2⟩ := VW.fin vw h20
          exact ⟨_, _, rfl, b5, P5, w1, w2⟩
    · rintro σ4 H4 ⟨x, y, rfl, b4, P4, nx, fx⟩
      exact ⟨_, rfl, q x H4 nx fx b4 P4⟩
/-! ### _law_names -/
def sp_law_names (T : Txt K mg w) : Sp := fun vs H Q _ => ∃ (p c : Addr) (m b : Int), vs = [.ref p, .int m] ∧ 0 ≤ m ∧ m < 20 ∧ Pool H p c b ∧ ∀ (pn : Addr) (ns : List Str) (H' : Hp), But p H H' → Pool H' p c b → H pn = none → H' pn = some (.lst (ns.map V.str)) → (ns.length : Int) ≤ m → (∀ x ∈ ns, Nm x) → ns.Nodup → Q (.ref pn) H'

theorem ok_law_names (T : Txt K mg w) : FnOk P w K mg base CX0 4 T.a_law_names T.d_law_names ["pool", "most"] (sp_law_names T) := by
  refine T.F_law_names.ok sc_law_names (fun vs H Q E h => ?_) (fun cdv A outer s H vs Q E hr h => ?_)
  · obtain ⟨p, c, m, b, rfl, _⟩ := h
    rfl
  obtain ⟨p, c, m, b, rfl, m0, m1, hP, q⟩ := h
  refine ⟨_, (pss_cons (ps_set (i := 2) sc_law_names.nd rfl (by first | exact Or.inl rfl | exact Or.inr rfl) (pe_lst pa_nil))
      (pss_cons (ps_for PassesOwn.never rfl (pi_range1 (by rfl) T.z_range (pa_cons (pe_call (ok_law_few T) (hr.mono (by decide)) (by rfl) T.m_law_few T.F_law_few.kp T.b_law_few .nil pass0 (pa_cons (pv 0) (pa_cons (pv 1) pa_nil))) pa_nil)) (pg_name (i := 3) sc_law_names.nd rfl (by first | exact Or.inl rfl | exact Or.inr rfl)) (pss_one (ps_expr (pe_bm PySem.F.plainAttrs_list PySem.F.slot_list_append PySem.F.type_list_append mt_append (pv 2) (pa_cons (pe_call (ok_law_name T) (hr.mono (by decide)) (by rfl) T.m_law_name T.F_law_name.kp T.b_law_name .nil pass0 (pa_cons (pv 0) (pa_cons (pv 2) pa_nil))) pa_nil)))))
      (pss_one (ps_ret (pv 2))))), ?_⟩
  refine ⟨by show 0 ≤ sizeLine; decide, fun W hW => ?_⟩
  have nW := hP.ne hW
  have nW2 := hP.ne2 hW
  refine ⟨_, rfl, _, rfl, p, c, m, b, rfl, m0, by omega, hP.upd nW nW2 _, fun k H2 k0 k1 b2 P2 => ?_⟩
  refine ⟨k, rfl, by omega, by omega, for_range (fun i σ' H' => ∃ (ns : List Str) (y : Option V), σ' = [some (.ref p), some (.int m), some (.ref W), y] ∧ But p H H' ∧ Pool H' p c b ∧ H' W = some (.lst (ns.map V.str)) ∧ ns.length = i ∧ (∀ x ∈ ns, Nm x) ∧ ns.Nodup)
    ⟨[], _, rfl, (but_of (same_upd hW)).trans b2, P2, b2 _ _ nW upd_same, rfl, (fun _ m => by cases m), List.nodup_nil⟩ ?_ ?_⟩
  · rintro i σ3 H3 hi ⟨ns, y, rfl, b3, P3, e3, l3, n3, d3⟩
    refine ⟨_, rfl, .inl ⟨rfl, _, SqL.of e3⟩, _, rfl, _, rfl, p, c, W, ns, b, rfl, P3, nW, e3, by omega, fun x H4 nx fx b4 P4 => ?_⟩
    refine ⟨W, _, _, rfl, rfl, b4 _ _ nW e3, ?_, ⟨ns ++ [x], _, rfl, fun d o nd eo => ?_, P4.upd nW nW2 _, ?_, ?_, ?_, ?_⟩⟩
    · rw [List.length_map]
      exact small1000 (by omega)
    · rw [upd_ne (ne_of_none eo hW)]
      exact (b3.trans b4) d o nd eo
    · rw [upd_same, List.map_append]
      rfl
    · rw [List.length_append, l3]
      rfl
    · intro z mz
      rcases List.mem_append.mp mz with mz | mz
      · exact n3 z mz
      · rw [List.mem_singleton.mp mz]
        exact nx
    · rw [List.nodup_append]
      refine ⟨d3, List.nodup_cons.mpr ⟨by simp, List.nodup_nil⟩, fun a ma b mb => ?_⟩
      rw [List.mem_singleton.mp mb]
      exact fun e => fx (e ▸ ma)
  · rintro σ3 H3 ⟨ns, y, rfl, b3, P3, e3, l3, n3, d3⟩
    exact ⟨_, rfl, q W ns H3 b3 P3 hW e3 (by omega) n3 d3⟩
/-! ### _law_expression -/
def signK : List Str := ["+", "-", "*", "/", "mod", "<", "=", "+"]
def sp_law_expression (T : Txt K mg w) (n : Nat) : Sp := fun vs H Q _ => ∃ (p c pn : Addr) (ns : List Str) (deep b : Int), vs = [.ref p, .ref pn, .int deep] ∧ 1 ≤ deep ∧ deep ≤ n ∧ Pool H p c b ∧ pn ≠ p ∧ H pn = some (.lst (ns.map V.str)) ∧
  ns.length ≤ 100 ∧ ∀ (v : V) (e : Ex) (H' : Hp) (b' : Int), Ev H' v e → (e.deep : Int) ≤ deep → e.Wf ns [] → But p H H' → Pool H' p c b' → Q v H'
theorem no_law_expression (T : Txt K mg w) : ∀ vs H Q E, ¬ sp_law_expression T 0 vs H Q E := fun vs H Q E ⟨_, _, _, _, _, _, _, h1, h2, _⟩ => by omega

theorem step_law_expression (T : Txt K mg w) {n : Nat} (G : FnOk P w K mg base CX0 (2 + n) T.a_law_expression T.d_law_expression ["pool", "names", "deep"] (sp_law_expression T n)) : FnOk P w K mg base CX0 (2 + n + 1) T.a_law_expression T.d_law_expression ["pool", "names", "deep"] (sp_law_expression T (n + 1)) := by
  refine T.F_law_expression.ok sc_law_expression (fun vs H Q E h => ?_) (fun cdv A outer s H vs Q E hr h => ?_)
  · obtain ⟨p, c, pn, ns, deep, b, rfl, _⟩ := h
    rfl
  obtain ⟨p, c, pn, ns, deep, b, rfl, d0, d1, hP, npn, hn, ln, q⟩ := h
  refine ⟨_, (pss_cons (ps_set (i := 3) sc_law_expression.nd rfl (by first | exact Or.inl rfl | exact Or.inr rfl) (pe_call (ok_law_draw T) (hr.mono (by omega)) (by rfl) T.m_law_draw T.F_law_draw.kp T.b_law_draw .nil pass0 (pa_cons (pv 0) (pa_cons pe_int pa_nil))))
      (C8.pss_cut (ps_if (PW.pt (pw_and (pt_cmpR op_gt (pv 2) pe_int (nomark _)) (pw_and (pt_cmpR op_lt (pv 3) pe_int (nomark _)) (pw_and1 (pt_truth (pe_call (ok_law_spend T) (hr.mono (by omega)) (by rfl) T.m_law_spend T.F_law_spend.kp T.b_law_spend .nil pass0 (pa_cons (pv 0) pa_nil)) (fun _ => rfl)))))) (pss_cons (ps_if (pt_cmpR op_gt (pv 3) pe_int (nomark _)) (pss_one (ps_ret (pe_tup (pa_cons pe_str (pa_cons (pe_call G hr (by rfl) T.m_law_expression T.F_law_expression.kp T.b_law_expression .nil pass0 (pa_cons (pv 0) (pa_cons (pv 1) (pa_cons (pe_op op_sub (pv 2) pe_int) pa_nil)))) pa_nil))))) pss_nil)
      (pss_cons (ps_set (i := 4) sc_law_expression.nd rfl (by first | exact Or.inl rfl | exact Or.inr rfl) (pe_ix ix_tup (pe_tup (pa_cons pe_str (pa_cons pe_str (pa_cons pe_str (pa_cons pe_str (pa_cons pe_str (pa_cons pe_str (pa_cons pe_str (pa_cons pe_str pa_nil))))))))) (pv 3) (fun _ _ => rfl)))
      (pss_cons (ps_set (i := 5) sc_law_expression.nd rfl (by first | exact Or.inl rfl | exact Or.inr rfl) (pe_call G hr (by rfl) T.m_law_expression T.F_law_expression.kp T.b_law_expression .nil pass0 (pa_cons (pv 0) (pa_cons (pv 1) (pa_cons (pe_op op_sub (pv 2) pe_int) pa_nil)))))
      (pss_one (ps_ret (pe_tup (pa_cons (pv 4) (pa_cons (pv 5) (pa_cons (pe_call G hr (by rfl) T.m_law_expression T.F_law_expression.kp T.b_law_expression .nil pass0 (pa_cons (pv 0) (pa_cons (pv 1) (pa_cons (pe_op op_sub (pv 2) pe_int) pa_nil)))) pa_nil))))))))) pss_nil)
      (pss_cons (ps_if (pt_cmpR op_eq (pv 3) pe_int (nomark _)) (pss_one (ps_ret (pe_tup (pa_cons pe_str pa_nil)))) pss_nil)
      (pss_cons (ps_if (PW.pt (pw_and (pt_truth (pv 1) (fun _ => rfl)) (pw_and1 (pt_cmpR op_eq (pe_op op_mod (pe_callTy call_int1 (by rfl) T.z_int (by first | exact PySem.boot_int | decide +kernel) (pa_cons (pv 3) pa_nil)) pe_int) pe_int (nomark _))))) (pss_one (ps_ret (pe_tup (pa_cons pe_str (pa_cons (pe_ix ix_list (pv 1) (pe_call (ok_law_draw T) (hr.mono (by omega)) (by rfl) T.m_law_draw T.F_law_draw.kp T.b_law_draw .nil pass0 (pa_cons (pv 0) (pa_cons (pe_callB call_len_seq (by rfl) T.z_len (by first | exact PySem.boot_len | decide +kernel) (pa_cons (pv 1) pa_nil)) pa_nil))) (fun _ _ => rfl)) pa_nil))))) pss_nil)
      (pss_one (ps_ret (pe_tup (pa_cons pe_str (pa_cons (pe_call (ok_law_number T) (hr.mono (by omega)) (by rfl) T.m_law_number T.F_law_number.kp T.b_law_number .nil pass0 (pa_cons (pv 0) pa_nil)) pa_nil))))))))), ?_⟩
  refine ⟨_, rfl, p, c, 14, b, rfl, by decide, by decide, hP, fun k H1 h0 h1 b1 P1 => ?_⟩
  refine ⟨fun σ' H' => ∃ (y1 y2 : Option V) (b' : Int), σ' = [some (.ref p), some (.ref pn), some (.int deep), some (.int k), y1, y2] ∧ But p H H' ∧ Pool H' p c b', ?_, ?_⟩
  · refine ⟨_, rfl, _, _, rfl, rfl, _, rfl, ite2 (fun c1 => ?_) (fun _ => ⟨_, _, b, rfl, b1, P1⟩)⟩
    refine ⟨_, rfl, _, _, rfl, rfl, _, rfl, ite2 (fun c2 => ?_) (fun _ => ⟨_, _, b, rfl, b1, P1⟩)⟩
    have c1' : (1 : Int) < deep := of_decide_eq_true c1
    have c2' : k < (9 : Int) := of_decide_eq_true c2
    refine ⟨_, rfl, p, c, b, rfl, P1, fun kk H2 b' b2 P2 => ⟨_, rfl, ite2 (fun _ => ?_) (fun _ => ⟨_, _, b', rfl, b1.trans b2, P2⟩)⟩⟩
    have bb := b1.trans b2
    refine ⟨_, rfl, _, _, rfl, rfl, _, rfl, ite2 (fun c3 => ?_) (fun c3 => ?_)⟩
    · refine ⟨_, rfl, _, rfl, _, rfl, _, _, rfl, rfl, p, c, pn, ns, deep - 1, b', rfl, by omega, by omega, P2, npn, bb _ _ npn hn, ln, fun v e H4 b3' ev ed ew b4 P4 => ⟨by show 2 ≤ sizeLine; decide, fun U hU => ?_⟩⟩
      refine q _ (.view e) _ b3' (.view upd_same (ev.keep (keepT_of (same_upd hU)))) ?_ ew ((bb.trans b4).trans (but_of (same_upd hU))) (P4.upd (P4.ne hU) (P4.ne2 hU) _)
      show ((e.deep + 1 : Nat) : Int) ≤ deep
      omega
    · have c3' : ¬ (7 : Int) < k := fun z => c3 (decide_eq_true z)
      refine ⟨by show 8 ≤ sizeLine; decide, fun U0 hU0 => ?_⟩
      have s3 := same_upd (o := .tup (signK.map V.str)) hU0
      have P3 := P2.upd (P2.ne hU0) (P2.ne2 hU0) (.tup (signK.map V.str))
      obtain ⟨z, mz, az⟩ := pick (ss := signK) h0 (by show k < 8; omega)
      have hz : z ∈ opL := by
        have : signK.all (fun s => decide (s ∈ opL)) = true := by decide +kernel
        exact of_decide_eq_true (List.all_eq_true.mp this z mz)
      have bc := bb.trans (but_of s3)
      refine ⟨_, rfl, U0, _, k, _, rfl, rfl, SqT.of upd_same, az, ?_⟩
      refine ⟨_, rfl, _, rfl, _, rfl, _, _, rfl, rfl, p, c, pn, ns, deep - 1, b', rfl, by omega, by omega, P3, npn, bc _ _ npn hn, ln, fun v e H4 b4' ev ed ew b4 P4 => ?_⟩
      have bd := bc.trans b4
      refine ⟨_, rfl, _, rfl, _, rfl, _, rfl, _, rfl, _, _, rfl, rfl, p, c, pn, ns, deep - 1, b4', rfl, by omega, by omega, P4, npn, bd _ _ npn hn, ln, fun v2 e2 H5 b5' ev2 ed2 ew2 b5 P5 => ⟨by show 3 ≤ sizeLine; decide, fun U hU => ?_⟩⟩
      have k5 := (P4.keepT b5).trans (keepT_of (same_upd (o := .tup [V.str z, v, v2]) hU))
      refine q _ (.op z e e2) _ b5' (.op upd_same (ev.keep k5) (ev2.keep (keepT_of (same_upd hU)))) ?_ ⟨hz, ew, ew2⟩ ((bd.trans b5).trans (but_of (same_upd hU))) (P5.upd (P5.ne hU) (P5.ne2 hU) _)
      show ((max e.deep e2.deep + 1 : Nat) : Int) ≤ deep
      omega
  · rintro σ2 H2 ⟨y1, y2, b', rfl, b2, P2⟩
    refine ⟨_, rfl, rfl, _, rfl, ite2 (fun _ => ⟨by show 1 ≤ sizeLine; decide, fun U hU => ?_⟩) (fun _ => ?_)⟩
    · exact q _ .long _ b' (.long upd_same) d0 trivial (b2.trans (but_of (same_upd hU))) (P2.upd (P2.ne hU) (P2.ne2 hU) _)
    · refine ⟨_, rfl, _, .inl ⟨_, SqL.of (b2 _ _ npn hn), rfl⟩, ite2 (fun c1 => ⟨_, rfl, .inl ⟨_, rfl, _, _, rfl, rfl, (by show (0 : Int) < 2; decide), rfl, _, rfl, ite2 (fun _ => ?_) (fun _ => ?_)⟩⟩) (fun _ => ?_)⟩
      · have lpos : 0 < ns.length := by
          cases ns with
          | nil => cases c1
          | cons x r => exact Nat.succ_pos _
        refine ⟨_, rfl, _, rfl, _, rfl, pn, _, rfl, .inl (SqL.of (b2 _ _ npn hn)), p, c, ((ns.map V.str).length : Int), b', rfl, by rw [List.length_map]; omega, by rw [List.length_map]; omega, P2, fun j H3 j0 j1 b3 P3 => ?_⟩
        rw [List.length_map] at j1
        obtain ⟨x, mx, ax⟩ := pick j0 j1
        have bc := b2.trans b3
        refine ⟨pn, _, j, _, rfl, rfl, SqL.of (bc _ _ npn hn), ax, ⟨by show 2 ≤ sizeLine; decide, fun U hU => ?_⟩⟩
        exact q _ (.var x) _ b' (.var upd_same) d0 mx (bc.trans (but_of (same_upd hU))) (P3.upd (P3.ne hU) (P3.ne2 hU) _)
      · refine ⟨_, rfl, p, c, b', rfl, P2, fun m H3 bm b3 P3 => ⟨by show 2 ≤ sizeLine; decide, fun U hU => ?_⟩⟩
        exact q _ (.num m) _ b' (.num upd_same) d0 bm ((b2.trans b3).trans (but_of (same_upd hU))) (P3.upd (P3.ne hU) (P3.ne2 hU) _)
      · refine ⟨_, rfl, p, c, b', rfl, P2, fun m H3 bm b3 P3 => ⟨by show 2 ≤ sizeLine; decide, fun U hU => ?_⟩⟩
        exact q _ (.num m) _ b' (.num upd_same) d0 bm ((b2.trans b3).trans (but_of (same_upd hU))) (P3.upd (P3.ne hU) (P3.ne2 hU) _)
theorem ok_law_expression (T : Txt K mg w) : ∀ n, FnOk P w K mg base CX0 (2 + n) T.a_law_expression T.d_law_expression ["pool", "names", "deep"] (sp_law_expression T n)
  | 0 => ⟨fun vs H Q E h => absurd h (no_law_expression T vs H Q E), fun A outer s H args us vs Q E _ _ _ _ h => absurd h (no_law_expression T vs H Q E)⟩
  | n + 1 => step_law_expression T (ok_law_expression T n)
/-! ### _law_thought -/
def sp_law_thoughts (T : Txt K mg w) (n : Nat) : Sp := fun vs H Q _ => ∃ (p c pn : Addr) (ns : List Str) (deep b : Int) (lo : Bool), vs = [.ref p, .ref pn, .int deep, .bl lo] ∧ 0 ≤ deep ∧ deep < n ∧ Pool H p c b ∧ pn ≠ p ∧ H pn = some (.lst (ns.map V.str)) ∧ ns.length ≤ 100 ∧
  ∀ (bl : Addr) (us : List V) (ss : List Bt) (H' : Hp) (b' : Int), H' bl = some (.tup us) → Bb H' us ss → (blv ss : Int) ≤ deep → bwL ns ss → But p H H' → Pool H' p c b' → Q (.ref bl) H'
theorem no_law_thoughts (T : Txt K mg w) : ∀ vs H Q E, ¬ sp_law_thoughts T 0 vs H Q E := fun vs H Q E ⟨_, _, _, _, _, _, _, _, h1, h2, _⟩ => by omega

def sp_law_thought (T : Txt K mg w) (n : Nat) : Sp := fun vs H Q _ => ∃ (p c pn : Addr) (ns : List Str) (deep b : Int) (lo : Bool), vs = [.ref p, .ref pn, .int deep, .bl lo] ∧ 0 ≤ deep ∧ deep ≤ n ∧ Pool H p c b ∧ pn ≠ p ∧ H pn = some (.lst (ns.map V.str)) ∧ ns.length ≤ 100 ∧
  ∀ (L : Addr) (us : List V) (ss : List Bt) (H' : Hp) (b' : Int), H' L = some (.lst us) → us.length ≤ 1 → Bb H' us ss → (blv ss : Int) ≤ deep → bwL ns ss → But p H H' → Pool H' p c b' → Q (.ref L) H'

theorem ok_law_thought (T : Txt K mg w) {n : Nat} (G : FnOk P w K mg base CX0 (15 + 2 * n) T.a_law_thoughts T.d_law_thoughts ["pool", "names", "deep", "loops"] (sp_law_thoughts T n)) : FnOk P w K mg base CX0 (15 + 2 * n + 1) T.a_law_thought T.d_law_thought ["pool", "names", "deep", "loops"] (sp_law_thought T n) := by
  refine T.F_law_thought.ok sc_law_thought (fun vs H Q E h => ?_) (fun cdv A outer s H vs Q E hr h => ?_)
  · obtain ⟨p, c, pn, ns, deep, b, lo, rfl, _⟩ := h
    rfl
  obtain ⟨p, c, pn, ns, deep, b, lo, rfl, d0, d1, hP, npn, hn, ln, q⟩ := h
  refine ⟨_, (pss_cons (ps_set (i := 4) sc_law_thought.nd rfl (by first | exact Or.inl rfl | exact Or.inr rfl) (pe_call (ok_law_draw T) (hr.mono (by omega)) (by rfl) T.m_law_draw T.F_law_draw.kp T.b_law_draw .nil pass0 (pa_cons (pv 0) (pa_cons pe_int pa_nil))))
      (C8.pss_cut (ps_if (PW.pt (pw_and (pt_cmpR op_eq (pv 4) pe_int (nomark _)) (pw_and (pt_cmpR op_gt (pv 2) pe_int (nomark _)) (pw_and1 (pt_truth (pv 3) (fun _ => rfl)))))) (pss_cons (ps_set (i := 5) sc_law_thought.nd rfl (by first | exact Or.inl rfl | exact Or.inr rfl) (pe_call (ok_law_expression T 13) (hr.mono (by omega)) (by rfl) T.m_law_expression T.F_law_expression.kp T.b_law_expression .nil pass0 (pa_cons (pv 0) (pa_cons (pv 1) (pa_cons pe_int pa_nil)))))
      (pss_one (ps_ret (pe_lst (pa_cons (pe_tup (pa_cons pe_str (pa_cons (pv 5) (pa_cons (pe_call G (hr.mono (by omega)) (by rfl) T.m_law_thoughts T.F_law_thoughts.kp T.b_law_thoughts .nil pass0 (pa_cons (pv 0) (pa_cons (pv 1) (pa_cons (pe_op op_sub (pv 2) pe_int) (pa_cons (pv 3) pa_nil))))) pa_nil)))) pa_nil))))) pss_nil)
      (C8.pss_cut (ps_if (PW.pt (pw_and (pt_cmpR op_lt (pv 4) pe_int (nomark _)) (pw_and1 (pt_cmpR op_gt (pv 2) pe_int (nomark _))))) (pss_cons (ps_set (i := 5) sc_law_thought.nd rfl (by first | exact Or.inl rfl | exact Or.inr rfl) (pe_call (ok_law_expression T 13) (hr.mono (by omega)) (by rfl) T.m_law_expression T.F_law_expression.kp T.b_law_expression .nil pass0 (pa_cons (pv 0) (pa_cons (pv 1) (pa_cons pe_int pa_nil)))))
      (pss_cons (ps_set (i := 6) sc_law_thought.nd rfl (by first | exact Or.inl rfl | exact Or.inr rfl) (pe_call G (hr.mono (by omega)) (by rfl) T.m_law_thoughts T.F_law_thoughts.kp T.b_law_thoughts .nil pass0 (pa_cons (pv 0) (pa_cons (pv 1) (pa_cons (pe_op op_sub (pv 2) pe_int) (pa_cons (pv 3) pa_nil))))))
      (pss_one (ps_ret (pe_lst (pa_cons (pe_tup (pa_cons pe_str (pa_cons (pv 5) (pa_cons (pv 6) (pa_cons (pe_call G (hr.mono (by omega)) (by rfl) T.m_law_thoughts T.F_law_thoughts.kp T.b_law_thoughts .nil pass0 (pa_cons (pv 0) (pa_cons (pv 1) (pa_cons (pe_op op_sub (pv 2) pe_int) (pa_cons (pv 3) pa_nil))))) pa_nil))))) pa_nil)))))) pss_nil)
      (pss_cons (ps_if (pt_truth (pv 1) (fun _ => rfl)) (pss_cons (ps_set (i := 7) sc_law_thought.nd rfl (by first | exact Or.inl rfl | exact Or.inr rfl) (pe_ix ix_list (pv 1) (pe_call (ok_law_draw T) (hr.mono (by omega)) (by rfl) T.m_law_draw T.F_law_draw.kp T.b_law_draw .nil pass0 (pa_cons (pv 0) (pa_cons (pe_callB call_len_seq (by rfl) T.z_len (by first | exact PySem.boot_len | decide +kernel) (pa_cons (pv 1) pa_nil)) pa_nil))) (fun _ _ => rfl)))
      (pss_one (ps_ret (pe_lst (pa_cons (pe_tup (pa_cons (pe_ix ix_tup (pe_tup (pa_cons pe_str (pa_cons pe_str pa_nil))) (pe_callTy call_int1 (by rfl) T.z_int (by first | exact PySem.boot_int | decide +kernel) (pa_cons (pe_cmpR op_gt (pv 4) pe_int (nomark _)) pa_nil)) (fun _ _ => rfl)) (pa_cons (pv 7) (pa_cons (pe_call (ok_law_expression T 13) (hr.mono (by omega)) (by rfl) T.m_law_expression T.F_law_expression.kp T.b_law_expression .nil pass0 (pa_cons (pv 0) (pa_cons (pv 1) (pa_cons pe_int pa_nil)))) pa_nil)))) pa_nil))))) pss_nil)
      (pss_one (ps_ret (pe_lst pa_nil))))))), ?_⟩
  refine ⟨_, rfl, p, c, 10, b, rfl, by decide, by decide, hP, fun k H1 h0 h1 b1 P1 => ?_⟩
  have hn1 := b1 _ _ npn hn
  refine ⟨fun σ' H' => ∃ (y1 y2 y3 : Option V), σ' = [some (.ref p), some (.ref pn), some (.int deep), some (.bl lo), some (.int k), y1, y2, y3] ∧ H' = H1, ?_, ?_⟩
  · refine ⟨_, rfl, rfl, _, rfl, ite2 (fun c1 => ?_) (fun _ => ⟨_, _, _, rfl, rfl⟩)⟩
    refine ⟨_, rfl, _, _, rfl, rfl, _, rfl, ite2 (fun c2 => ?_) (fun _ => ⟨_, _, _, rfl, rfl⟩)⟩
    have c2' : (0 : Int) < deep := of_decide_eq_true c2
    refine ⟨_, rfl, _, rfl, ite2 (fun c3 => ?_) (fun _ => ⟨_, _, _, rfl, rfl⟩)⟩
    refine ⟨_, rfl, _, rfl, p, c, pn, ns, 12, b, rfl, by decide, by decide, P1, npn, hn1, ln, fun v e H2 bx ev ed ew b2 P2 => ?_⟩
    have b12 := b1.trans b2
    refine ⟨_, rfl, _, rfl, _, rfl, _, rfl, _, _, rfl, rfl, _, rfl, p, c, pn, ns, deep - 1, bx, lo, rfl, by omega, by omega, P2, npn, b12 _ _ npn hn, ln, fun bl us ss H3 b3' e3 B3 l3 w3 b3 P3 => ⟨by show 3 ≤ sizeLine; decide, fun U fU => ⟨by show 1 ≤ sizeLine; decide, fun L fL => ?_⟩⟩⟩
    have sU := same_upd (o := .tup [V.str "while", v, .ref bl]) fU
    have sL := same_upd (o := .lst [V.ref U]) fL
    have ku := keepT_of (sU.trans sL)
    refine q L [.ref U] [.whl e ss] _ b3' upd_same (Nat.le_refl _) (.one (.whl (sL _ _ upd_same) (ev.keep ((P2.keepT b3).trans ku)) (ku _ _ e3) (B3.keep ku))) ?_ ⟨⟨⟨ew, by omega⟩, w3⟩, trivial⟩ ((b12.trans b3).trans (but_of (sU.trans sL))) (P3.same (sU.trans sL))
    show ((max (blv ss + 1) 0 : Nat) : Int) ≤ deep
    omega
  rintro σ1 H1' ⟨y1, y2, y3, rfl, rfl⟩
  refine ⟨fun σ' H' => ∃ (y1 y2 y3 : Option V), σ' = [some (.ref p), some (.ref pn), some (.int deep), some (.bl lo), some (.int k), y1, y2, y3] ∧ H' = H1', ?_, ?_⟩
  · refine ⟨_, rfl, _, _, rfl, rfl, _, rfl, ite2 (fun c1 => ?_) (fun _ => ⟨_, _, _, rfl, rfl⟩)⟩
    refine ⟨_, rfl, _, _, rfl, rfl, _, rfl, ite2 (fun c2 => ?_) (fun _ => ⟨_, _, _, rfl, rfl⟩)⟩
    have c2' : (0 : Int) < deep := of_decide_eq_true c2
    refine ⟨_, rfl, _, rfl, p, c, pn, ns, 12, b, rfl, by decide, by decide, P1, npn, hn1, ln, fun v e H2 bx ev ed ew b2 P2 => ?_⟩
    have b12 := b1.trans b2
    refine ⟨_, rfl, _, rfl, _, rfl, _, _, rfl, rfl, _, rfl, p, c, pn, ns, deep - 1, bx, lo, rfl, by omega, by omega, P2, npn, b12 _ _ npn hn, ln, fun bl us ss H3 b3' e3 B3 l3 w3 b3 P3 => ?_⟩
    have b13 := b12.trans b3
    refine ⟨_, rfl, _, rfl, _, rfl, _, rfl, _, rfl, _, _, rfl, rfl, _, rfl, p, c, pn, ns, deep - 1, b3', lo, rfl, by omega, by omega, P3, npn, b13 _ _ npn hn, ln, fun bl2 us2 ss2 H4 b4' e4 B4 l4 w4 b4 P4 => ⟨by show 4 ≤ sizeLine; decide, fun U fU => ⟨by show 1 ≤ sizeLine; decide, fun L fL => ?_⟩⟩⟩
    have sU := same_upd (o := .tup [V.str "if", v, .ref bl, .ref bl2]) fU
    have sL := same_upd (o := .lst [V.ref U]) fL
    have ku := keepT_of (sU.trans sL)
    have k4 := (P3.keepT b4).trans ku
    refine q L [.ref U] [.ite e ss ss2] _ b4' upd_same (Nat.le_refl _) (.one (.ite (sL _ _ upd_same) (ev.keep ((P2.keepT b3).trans k4)) (k4 _ _ e3) (B3.keep k4) (ku _ _ e4) (B4.keep ku))) ?_ ⟨⟨⟨ew, by omega⟩, w3, w4⟩, trivial⟩ ((b13.trans b4).trans (but_of (sU.trans sL))) (P4.same (sU.trans sL))
    show ((max (max (blv ss) (blv ss2) + 1) 0 : Nat) : Int) ≤ deep
    omega
  rintro σ2 H2 ⟨y1, y2, y3, rfl, rfl⟩
  refine ⟨_, rfl, _, .inl ⟨_, SqL.of hn1, rfl⟩, ite2 (fun c5 => ?_) (fun _ => ⟨by show 0 ≤ sizeLine; decide, fun L fL => ?_⟩)⟩
  · have lpos : 0 < ns.length := by
      cases ns with
      | nil => cases c5
      | cons x r => exact Nat.succ_pos _
    refine ⟨_, rfl, _, rfl, _, rfl, pn, _, rfl, .inl (SqL.of hn1), p, c, ((ns.map V.str).length : Int), b, rfl, by rw [List.length_map]; omega, by rw [List.length_map]; omega, P1, fun j H3 j0 j1 b3 P3 => ?_⟩
    rw [List.length_map] at j1
    obtain ⟨x, mx, ax⟩ := pick j0 j1
    have b13 := b1.trans b3
    refine ⟨pn, _, j, _, rfl, rfl, SqL.of (b13 _ _ npn hn), ax, ?_⟩
    refine ⟨by show 2 ≤ sizeLine; decide, fun U0 f0 => ?_⟩
    have s0 := same_upd (o := .tup [V.str "set", .str "lot"]) f0
    have b14 := b13.trans (but_of s0)
    obtain ⟨z, az, hz⟩ : ∃ z : Str, atI [V.str "set", .str "lot"] (if (decide ((7 : Int) < k)) = true then 1 else 0) = some (.str z) ∧ (z = "set" ∨ z = "lot") := by
      by_cases g : (decide ((7 : Int) < k)) = true
      · rw [if_pos g]
        exact ⟨"lot", atI_nat (j := 1) rfl, .inr rfl⟩
      · rw [if_neg g]
        exact ⟨"set", atI_nat (j := 0) rfl, .inl rfl⟩
    refine ⟨_, rfl, _, _, rfl, rfl, .inr ⟨_, rfl, U0, _, _, .str z, rfl, rfl, SqT.of upd_same, az, ?_⟩⟩
    refine ⟨_, rfl, _, rfl, _, rfl, p, c, pn, ns, 12, b, rfl, by decide, by decide, P3.same s0, npn, b14 _ _ npn hn, ln, fun v e H4 bx ev ed ew b4 P4 => ⟨by show 3 ≤ sizeLine; decide, fun U fU => ⟨by show 1 ≤ sizeLine; decide, fun L fL => ?_⟩⟩⟩
    have sU := same_upd (o := .tup [V.str z, .str x, v]) fU
    have sL := same_upd (o := .lst [V.ref U]) fL
    have ku := keepT_of (sU.trans sL)
    have eU := sL _ _ (upd_same (H := H4) (a := U) (o := .tup [V.str z, .str x, v]))
    have bb := (b14.trans b4).trans (but_of (sU.trans sL))
    rcases hz with rfl | rfl
    · exact q L [.ref U] [.set x e] _ bx upd_same (Nat.le_refl _) (.one (.set eU (ev.keep ku))) d0 ⟨⟨mx, ew, by omega⟩, trivial⟩ bb (P4.same (sU.trans sL))
    · exact q L [.ref U] [.lot x e] _ bx upd_same (Nat.le_refl _) (.one (.lot eU (ev.keep ku))) d0 ⟨⟨mx, ew, by omega⟩, trivial⟩ bb (P4.same (sU.trans sL))
  · exact q L [] [] _ b upd_same (Nat.zero_le _) .nil d0 trivial (b1.trans (but_of (same_upd fL))) (P1.same (same_upd fL))
/-! ### _law_thoughts -/
theorem step_law_thoughts (T : Txt K mg w) {n : Nat} (G : FnOk P w K mg base CX0 (15 + 2 * n) T.a_law_thoughts T.d_law_thoughts ["pool", "names", "deep", "loops"] (sp_law_thoughts T n)) : FnOk P w K mg base CX0 (15 + 2 * n + 2) T.a_law_thoughts T.d_law_thoughts ["pool", "names", "deep", "loops"] (sp_law_thoughts T (n + 1)) := by
  refine T.F_law_thoughts.ok sc_law_thoughts (fun vs H Q E h => ?_) (fun cdv A outer s H vs Q E hr h => ?_)
  · obtain ⟨p, c, pn, ns, deep, b, lo, rfl, _⟩ := h
    rfl
  obtain ⟨p, c, pn, ns, deep, b, lo, rfl, d0, d1, hP, npn, hn, ln, q⟩ := h
  refine ⟨_, (pss_cons (ps_set (i := 4) sc_law_thoughts.nd rfl (by first | exact Or.inl rfl | exact Or.inr rfl) (pe_lst pa_nil))
      (pss_cons (ps_for PassesOwn.never rfl (pi_range1 (by rfl) T.z_range (pa_cons (pe_call (ok_law_few T) (hr.mono (by omega)) (by rfl) T.m_law_few T.F_law_few.kp T.b_law_few .nil pass0 (pa_cons (pv 0) (pa_cons pe_int pa_nil))) pa_nil)) (pg_name (i := 5) sc_law_thoughts.nd rfl (by first | exact Or.inl rfl | exact Or.inr rfl)) (pss_one (ps_if (pt_truth (pe_call (ok_law_spend T) (hr.mono (by omega)) (by rfl) T.m_law_spend T.F_law_spend.kp T.b_law_spend .nil pass0 (pa_cons (pv 0) pa_nil)) (fun _ => rfl)) (pss_one (ps_set (i := 4) sc_law_thoughts.nd rfl (by first | exact Or.inl rfl | exact Or.inr rfl) (pe_op op_cat (pv 4) (pe_call (ok_law_thought T G) (hr.mono (by omega)) (by rfl) T.m_law_thought T.F_law_thought.kp T.b_law_thought .nil pass0 (pa_cons (pv 0) (pa_cons (pv 1) (pa_cons (pv 2) (pa_cons (pv 3) pa_nil)))))))) pss_nil)))
      (pss_one (ps_ret (pe_callTy call_tuple_of (by rfl) T.z_tuple (by first | exact PySem.boot_tuple | decide +kernel) (pa_cons (pv 4) pa_nil)))))), ?_⟩
  refine ⟨by show 0 ≤ sizeLine; decide, fun W fW => ?_⟩
  have sW := same_upd (o := .lst []) fW
  refine ⟨_, rfl, p, c, 5, b, rfl, by decide, by decide, hP.same sW, fun m H2 m0 m1 b2 P2 => ?_⟩
  refine ⟨m, rfl, by omega, by omega, for_range (fun i σ' H' => ∃ (y : Option V) (W : Addr) (us : List V) (ss : List Bt) (b' : Int), σ' = [some (.ref p), some (.ref pn), some (.int deep), some (.bl lo), some (.ref W), y] ∧ But p H H' ∧ Pool H' p c b' ∧ W ≠ p ∧ H' W = some (.lst us) ∧ us.length ≤ i ∧ Bb H' us ss ∧ (blv ss : Int) ≤ deep ∧ bwL ns ss)
    ⟨_, W, [], [], b, rfl, (but_of sW).trans b2, P2, hP.ne fW, b2 _ _ (hP.ne fW) upd_same, Nat.le_refl _, .nil, d0, trivial⟩ ?_ ?_⟩
  · rintro i σ3 H3 hi ⟨y, W, us, ss, b3, rfl, w3, P3, nW, e3, l3, B3, v3, f3⟩
    refine ⟨_, rfl, p, c, b3, rfl, P3, fun kk H4 b4' b4 P4 => ⟨_, rfl, ite2 (fun _ => ?_) (fun _ => ⟨_, W, us, ss, b4', rfl, w3.trans b4, P4, nW, b4 _ _ nW e3, by omega, B3.keep (P3.keepT b4), v3, f3⟩)⟩⟩
    have w4 := w3.trans b4
    refine ⟨_, rfl, _, rfl, _, rfl, _, rfl, _, rfl, p, c, pn, ns, deep, b4', lo, rfl, d0, by omega, P4, npn, w4 _ _ npn hn, ln, fun L us2 ss2 H5 b5' e5 l5 B5 v5 f5 b5 P5 => ?_⟩
    have k5 := (P3.keepT b4).trans (P4.keepT b5)
    refine ⟨W, L, _, _, rfl, rfl, b5 _ _ nW (b4 _ _ nW e3), e5, small_le (by omega), fun W2 fW2 => ?_⟩
    have s6 := same_upd (o := .lst (us ++ us2)) fW2
    refine ⟨_, W2, us ++ us2, ss ++ ss2, b5', rfl, (w4.trans b5).trans (but_of s6), P5.same s6, P5.ne fW2, upd_same, by rw [List.length_append]; omega, ((B3.keep k5).keep (keepT_of s6)).app (B5.keep (keepT_of s6)), ?_, bwL_app f3 f5⟩
    rw [blv_app]
    omega
  · rintro σ3 H3 ⟨y, W, us, ss, b3, rfl, w3, P3, nW, e3, l3, B3, v3, f3⟩
    refine ⟨_, rfl, W, us, rfl, .inl ⟨SqL.of e3, fun r fr => ?_⟩⟩
    have sr := same_upd (o := .tup us) fr
    exact q r us ss _ b3 upd_same (B3.keep (keepT_of sr)) v3 f3 (w3.trans (but_of sr)) (P3.same sr)
theorem ok_law_thoughts (T : Txt K mg w) : ∀ n, FnOk P w K mg base CX0 (15 + 2 * n) T.a_law_thoughts T.d_law_thoughts ["pool", "names", "deep", "loops"] (sp_law_thoughts T n)
  | 0 => ⟨fun vs H Q E h => absurd h (no_law_thoughts T vs H Q E), fun A outer s H args us vs Q E _ _ _ _ h => absurd h (no_law_thoughts T vs H Q E)⟩
  | n + 1 => step_law_thoughts T (ok_law_thoughts T n)
/-! ### _law_brain -/
/-- a brain in the law's own words -/
structure LBr (H : Hp) (br ca bl : Addr) (u : Int) (av : V) (cv ws : List V) (cs : List (Str × Int)) (ss : List Bt) (an : Ex) : Prop where
  ob : H br = some (.tup [.int u, .ref ca, .ref bl, av])
  ca : H ca = some (.tup cv)
  pc : Paired (CellV H) cv cs
  bl : H bl = some (.tup ws)
  bb : Bb H ws ss
  an : Ev H av an
theorem LBr.keep {H H' : Hp} {br ca bl : Addr} {u : Int} {av : V} {cv ws : List V} {cs : List (Str × Int)} {ss : List Bt} {an : Ex} (h : LBr H br ca bl u av cv ws cs ss an) (k : KeepT H H') : LBr H' br ca bl u av cv ws cs ss an := ⟨k _ _ h.ob, k _ _ h.ca, L2.Paired.mapP h.pc fun _ _ z => z.keep k, k _ _ h.bl, h.bb.keep k, h.an.keep k⟩
/-- what it keeps to -/
structure LBw (cs : List (Str × Int)) (ss : List Bt) (an : Ex) : Prop where
  l8 : cs.length ≤ 8
  nd : (cs.map (·.1)).Nodup
  bw : bwL (cs.map (·.1)) ss
  lv : blv ss ≤ 8
  aw : an.Wf (cs.map (·.1)) []
  ad : an.deep ≤ 12
def sp_law_brain (T : Txt K mg w) : Sp := fun vs H Q _ => ∃ (p c : Addr) (u b : Int) (lo : Bool), vs = [.ref p, .int u, .bl lo] ∧ Pool H p c b ∧ ∀ (br ca bl : Addr) (av : V) (cv ws : List V) (cs : List (Str × Int)) (ss : List Bt) (an : Ex) (H' : Hp) (b' : Int), But p H H' → Pool H' p c b' → LBr H' br ca bl u av cv ws cs ss an → LBw cs ss an → Q (.ref br) H'

theorem ok_law_brain (T : Txt K mg w) : FnOk P w K mg base CX0 34 T.a_law_brain T.d_law_brain ["pool", "units", "loops"] (sp_law_brain T) := by
  refine T.F_law_brain.ok sc_law_brain (fun vs H Q E h => ?_) (fun cdv A outer s H vs Q E hr h => ?_)
  · obtain ⟨p, c, u, b, lo, rfl, _⟩ := h
    rfl
  obtain ⟨p, c, u, b, lo, rfl, hP, q⟩ := h
  refine ⟨_, (pss_cons (ps_set (i := 3) sc_law_brain.nd rfl (by first | exact Or.inl rfl | exact Or.inr rfl) (pe_call (ok_law_names T) (hr.mono (by decide)) (by rfl) T.m_law_names T.F_law_names.kp T.b_law_names .nil pass0 (pa_cons (pv 0) (pa_cons pe_int pa_nil))))
      (pss_cons (ps_set (i := 4) sc_law_brain.nd rfl (by first | exact Or.inl rfl | exact Or.inr rfl) (pe_callTy call_tuple_of (by rfl) T.z_tuple (by first | exact PySem.boot_tuple | decide +kernel) (pa_cons (pe_lc (own := [("name", 6)]) (g := gName 6) (tt := tYes) rfl sc_law_brain.nd (pi_list (pv 3)) (blkOk_by (N := N_law_brain) (sc := defScope s_law_brain) (by decide +kernel)) (fun _ _ _ _ _ => (pg_name (i := 6) sc_law_brain.nd rfl (by first | exact Or.inl rfl | exact Or.inr rfl))) (fun _ _ _ _ _ => pts_nil) (fun _ _ _ _ _ => (pe_tup (pa_cons (pv 6) (pa_cons (pe_call (ok_law_number T) (hr.mono (by decide)) (by rfl) T.m_law_number T.F_law_number.kp T.b_law_number .nil pass0 (pa_cons (pv 0) pa_nil)) pa_nil))))) pa_nil)))
      (pss_cons (ps_set (i := 5) sc_law_brain.nd rfl (by first | exact Or.inl rfl | exact Or.inr rfl) (pe_call (ok_law_thoughts T 9) (hr.mono (by decide)) (by rfl) T.m_law_thoughts T.F_law_thoughts.kp T.b_law_thoughts .nil pass0 (pa_cons (pv 0) (pa_cons (pv 3) (pa_cons pe_int (pa_cons (pv 2) pa_nil))))))
      (pss_one (ps_ret (pe_tup (pa_cons (pv 1) (pa_cons (pv 4) (pa_cons (pv 5) (pa_cons (pe_call (ok_law_expression T 13) (hr.mono (by decide)) (by rfl) T.m_law_expression T.F_law_expression.kp T.b_law_expression .nil pass0 (pa_cons (pv 0) (pa_cons (pv 3) (pa_cons pe_int pa_nil)))) pa_nil)))))))))), ?_⟩
  refine ⟨_, rfl, p, c, 8, b, rfl, by decide, by decide, hP, fun pn ns H1 b1 P1 fpn en ln nn nd => ?_⟩
  have npn := hP.ne fpn
  refine ⟨_, rfl, pn, rfl, ⟨_, SqL.of en⟩, fun D hD => ?_⟩
  have nD := P1.ne hD
  have nD2 := P1.ne2 hD
  refine lc_list (a := pn) (xs := ns.map V.str) (fun i H2 => But p H1 H2 ∧ Pool H2 p c b ∧ ∃ rs cs, H2 D = some (.lst rs) ∧ Paired (CellV H2) rs cs ∧ cs.map (·.1) = ns.take i) ⟨but_of (same_upd hD), P1.upd nD nD2 _, [], [], upd_same, .nil, rfl⟩ (fun i H2 _ h => SqL.of (h.1 _ _ npn en)) (fun i x H2 hx h => ?_) (fun H2 h => ?_)
  · obtain ⟨b2, P2, rs, cs, e2, p2, c2⟩ := h
    obtain ⟨z, hz, rfl⟩ := str_of_map hx
    have l2 := Paired.length p2
    have lc := congrArg List.length c2
    rw [List.length_map, List.length_take] at lc
    refine ⟨rfl, ?_⟩
    refine ⟨_, rfl, _, rfl, p, c, b, rfl, P2, fun n H3 bn b3 P3 => ⟨by show 2 ≤ sizeLine; decide, fun U fU => ?_⟩⟩
    have sU := same_upd (o := .tup [V.str z, .int n]) fU
    have e3 := sU _ _ (b3 _ _ nD e2)
    have kl := keepT_lst (ys := rs ++ [.ref U]) e3
    have kk := (P2.keepT b3).trans ((keepT_of sU).trans kl)
    refine ⟨_, e3, small1000 (by omega), fun d o nd eo => ?_, (P3.same sU).upd nD nD2 _, _, cs ++ [(z, n)], upd_same, paired_snoc (L2.Paired.mapP p2 fun _ _ z => z.keep kk) ⟨U, rfl, kl _ _ upd_same⟩, ?_⟩
    · rw [upd_ne (ne_of_none eo hD)]
      exact sU _ _ (b3 _ _ nd (b2 _ _ nd eo))
    · rw [List.map_append, c2, List.take_add_one, hz]
      rfl
  obtain ⟨b2, P2, rs, cs, e2, p2, c2⟩ := h
  rw [List.length_map, List.take_of_length_le (Nat.le_refl _)] at c2
  refine ⟨D, _, rfl, .inl ⟨SqL.of e2, fun ca fca => ?_⟩⟩
  have s3 := same_upd (o := .tup rs) fca
  have P3 := P2.same s3
  have b13 := (b1.trans b2).trans (but_of s3)
  have lns : ns.length ≤ 8 := by omega
  refine ⟨_, rfl, _, rfl, _, rfl, p, c, pn, ns, 8, b, lo, rfl, by decide, by decide, P3, npn, s3 _ _ (b2 _ _ npn en), by omega, fun bl us ss H4 b4' e4 B4 l4 w4 b4 P4 => ?_⟩
  have k34 := P3.keepT b4
  refine ⟨_, rfl, _, rfl, _, rfl, _, rfl, _, rfl, p, c, pn, ns, 12, b4', rfl, by decide, by decide, P4, npn, b4 _ _ npn (s3 _ _ (b2 _ _ npn en)), by omega, fun v e H5 b5' ev ed ew b5 P5 => ⟨by show 4 ≤ sizeLine; decide, fun U fU => ?_⟩⟩
  have sU := same_upd (o := .tup [V.int u, .ref ca, .ref bl, v]) fU
  have k5 := (P4.keepT b5).trans (keepT_of sU)
  have k35 := k34.trans k5
  refine q U ca bl v rs us cs ss e _ b5' (((b13.trans b4).trans b5).trans (but_of sU)) (P5.same sU) ⟨upd_same, k35 _ _ upd_same, L2.Paired.mapP p2 fun _ _ z => z.keep ((keepT_of s3).trans k35), k5 _ _ e4, B4.keep k5, ev.keep (keepT_of sU)⟩ ?_
  subst c2
  exact ⟨by rw [List.length_map] at lns; exact lns, nd, w4, by omega, ew, by omega⟩
/-! ### _law_combine -/
def sp_law_combine (T : Txt K mg w) : Sp := fun vs H Q _ => ∃ (s : Str) (a b : Int), vs = [.str s, .int a, .int b] ∧ s ∈ opL ∧ Bd a ∧ Bd b ∧ Q (.int (comb s a b)) H

theorem ok_law_combine (T : Txt K mg w) : FnOk P w K mg base CX0 1 T.a_law_combine T.d_law_combine ["sign", "a", "b"] (sp_law_combine T) := by
  refine T.F_law_combine.ok sc_law_combine (fun vs H Q E h => ?_) (fun cdv A outer s H vs Q E hr h => ?_)
  · obtain ⟨z, a, b, rfl, _⟩ := h
    rfl
  obtain ⟨z, a, b, rfl, hz, ⟨a0, a1⟩, ⟨b0, b1⟩, q⟩ := h
  refine ⟨_, (pss_cons (ps_if (pt_cmpR op_eq (pv 0) pe_str (nomark _)) (pss_one (ps_ret (pe_op op_sub (pe_op op_add (pv 1) (pv 2)) (pe_op op_mul pe_int (pe_callTy call_int1 (by rfl) T.z_int (by first | exact PySem.boot_int | decide +kernel) (pa_cons (pe_cmpR op_gt (pe_op op_add (pv 1) (pv 2)) pe_int (nomark _)) pa_nil)))))) pss_nil)
      (pss_cons (ps_if (pt_cmpR op_eq (pv 0) pe_str (nomark _)) (pss_one (ps_ret (pe_op op_mul (pe_op op_sub (pv 1) (pv 2)) (pe_callTy call_int1 (by rfl) T.z_int (by first | exact PySem.boot_int | decide +kernel) (pa_cons (pe_cmpR op_gt (pv 1) (pv 2) (nomark _)) pa_nil))))) pss_nil)
      (pss_cons (ps_if (pt_cmpR op_eq (pv 0) pe_str (nomark _)) (pss_one (ps_ret (pe_op op_sub (pe_op op_mul (pv 1) (pv 2)) (pe_op op_mul (pe_op op_fdiv (pe_op op_mul (pv 1) (pv 2)) pe_int) pe_int)))) pss_nil)
      (pss_cons (ps_if (pt_cmpR op_eq (pv 0) pe_str (nomark _)) (pss_one (ps_ret (pe_callTy call_int1 (by rfl) T.z_int (by first | exact PySem.boot_int | decide +kernel) (pa_cons (pe_cmpR op_lt (pv 1) (pv 2) (nomark _)) pa_nil)))) pss_nil)
      (pss_cons (ps_if (pt_cmpR op_eq (pv 0) pe_str (nomark _)) (pss_one (ps_ret (pe_callTy call_int1 (by rfl) T.z_int (by first | exact PySem.boot_int | decide +kernel) (pa_cons (pe_cmpR op_eq (pv 1) (pv 2) (nomark _)) pa_nil)))) pss_nil)
      (pss_cons (ps_if (pt_cmpR op_eq (pv 2) pe_int (nomark _)) (pss_one (ps_ret pe_int)) pss_nil)
      (pss_cons (ps_set (i := 3) sc_law_combine.nd rfl (by first | exact Or.inl rfl | exact Or.inr rfl) (pe_op op_fdiv (pv 1) (pv 2)))
      (pss_cons (ps_if (pt_cmpR op_eq (pv 0) pe_str (nomark _)) (pss_one (ps_ret (pv 3))) pss_nil)
      (pss_one (ps_ret (pe_op op_sub (pv 1) (pe_op op_mul (pv 3) (pv 2))))))))))))), ?_⟩
  refine ⟨_, rfl, rfl, _, rfl, ite2 (fun c => ?_) (fun n1 => ?_)⟩
  · have e := str_eq c
    have k : comb z a b = (a + b) % 65536 := if_pos e
    rw [k] at q
    refine ⟨_, rfl, _, rfl, _, _, rfl, rfl, _, rfl, _, rfl, _, _, rfl, rfl, _, _, rfl, rfl, .inr ⟨_, rfl, _, _, rfl, rfl, .inl ⟨by decide, by decide⟩, _, _, rfl, rfl, ?_⟩⟩
    by_cases y : 65535 < a + b
    · rw [decide_eq_true y]
      have : a + b - 65536 * 1 = (a + b) % 65536 := by omega
      show Q (.int (a + b - 65536 * 1)) H
      rw [this]
      exact q
    · rw [decide_eq_false y]
      have : a + b - 65536 * 0 = (a + b) % 65536 := by omega
      show Q (.int (a + b - 65536 * 0)) H
      rw [this]
      exact q
  have m1 : z ≠ "+" := fun e => n1 (decide_eq_true (congrArg V.str e))
  refine ⟨_, rfl, rfl, _, rfl, ite2 (fun c => ?_) (fun n2 => ?_)⟩
  · have e := str_eq c
    have k : comb z a b = max (a - b) 0 := (if_neg m1).trans (if_pos e)
    rw [k] at q
    refine ⟨_, rfl, _, rfl, _, _, rfl, rfl, _, rfl, _, rfl, _, _, rfl, rfl, .inr ⟨_, rfl, _, _, rfl, rfl, .inl ⟨by omega, by omega⟩, ?_⟩⟩
    by_cases y : b < a
    · rw [decide_eq_true y]
      have : (a - b) * 1 = max (a - b) 0 := by omega
      show Q (.int ((a - b) * 1)) H
      rw [this]
      exact q
    · rw [decide_eq_false y]
      have : (a - b) * 0 = max (a - b) 0 := by omega
      show Q (.int ((a - b) * 0)) H
      rw [this]
      exact q
  have m2 : z ≠ "-" := fun e => n2 (decide_eq_true (congrArg V.str e))
  refine ⟨_, rfl, rfl, _, rfl, ite2 (fun c => ?_) (fun n3 => ?_)⟩
  · have e := str_eq c
    have k : comb z a b = a * b % 65536 := ((if_neg m1).trans (if_neg m2)).trans (if_pos e)
    rw [k] at q
    refine ⟨_, rfl, _, rfl, _, _, rfl, rfl, .inl ⟨by omega, by omega⟩, _, rfl, _, rfl, _, _, rfl, rfl, .inl ⟨by omega, by omega⟩, _, _, rfl, rfl, ⟨by decide, by decide⟩, _, _, rfl, rfl, .inr ⟨by decide, by decide⟩, _, _, rfl, rfl, ?_⟩
    have e2 : a * b - a * b / 65536 * 65536 = a * b % 65536 := by
      generalize a * b = m
      omega
    show Q (.int (a * b - a * b / 65536 * 65536)) H
    rw [e2]
    exact q
  have m3 : z ≠ "*" := fun e => n3 (decide_eq_true (congrArg V.str e))
  refine ⟨_, rfl, rfl, _, rfl, ite2 (fun c => ?_) (fun n6 => ?_)⟩
  · have e := str_eq c
    have k : comb z a b = if a < b then 1 else 0 := by
      rw [e]
      rfl
    rw [k] at q
    refine ⟨_, rfl, _, rfl, _, _, rfl, rfl, .inr ⟨_, rfl, ?_⟩⟩
    by_cases y : a < b
    · rw [if_pos y] at q
      rw [decide_eq_true y]
      exact q
    · rw [if_neg y] at q
      rw [decide_eq_false y]
      exact q
  have m6 : z ≠ "<" := fun e => n6 (decide_eq_true (congrArg V.str e))
  refine ⟨_, rfl, rfl, _, rfl, ite2 (fun c => ?_) (fun n7 => ?_)⟩
  · have e := str_eq c
    have k : comb z a b = if a = b then 1 else 0 := by
      rw [e]
      rfl
    rw [k] at q
    refine ⟨_, rfl, _, rfl, rfl, .inr ⟨_, rfl, ?_⟩⟩
    by_cases y : a = b
    · rw [if_pos y] at q
      rw [decide_eq_true (congrArg V.int y)]
      exact q
    · rw [if_neg y] at q
      rw [decide_eq_false (fun t => y (V.int.inj t))]
      exact q
  have m7 : z ≠ "=" := fun e => n7 (decide_eq_true (congrArg V.str e))
  refine ⟨_, rfl, rfl, _, rfl, ite2 (fun c => ?_) (fun n8 => ?_)⟩
  · have e : b = 0 := V.int.inj (of_decide_eq_true c)
    subst e
    have k : comb z a 0 = 0 := by
      unfold comb
      rw [if_neg m1, if_neg m2, if_neg m3, if_neg m6]
      have hz' : z = "/" ∨ z = "mod" := by
        simp only [opL, List.mem_cons, List.not_mem_nil, or_false] at hz
        rcases hz with h | h | h | h | h | h | h
        · exact absurd h m1
        · exact absurd h m2
        · exact absurd h m3
        · exact .inl h
        · exact .inr h
        · exact absurd h m6
        · exact absurd h m7
      rcases hz' with h | h
      · rw [if_pos h]
        rfl
      · by_cases y : z = "/"
        · rw [if_pos y]
          rfl
        · rw [if_neg y, if_pos h]
          rfl
    rw [k] at q
    exact q
  · have bne : b ≠ 0 := fun t => n8 (decide_eq_true (congrArg V.int t))
    refine ⟨_, rfl, _, rfl, _, _, rfl, rfl, ⟨by omega, by omega⟩, ?_⟩
    refine ⟨_, rfl, rfl, _, rfl, ite2 (fun c => ?_) (fun n4 => ?_)⟩
    · have e := str_eq c
      have k : comb z a b = if 0 < b then a / b else 0 := (((if_neg m1).trans (if_neg m2)).trans (if_neg m3)).trans (if_pos e)
      rw [k, if_pos (by omega)] at q
      exact ⟨_, rfl, q⟩
    · have m4 : z ≠ "/" := fun e => n4 (decide_eq_true (congrArg V.str e))
      have m5 : z = "mod" := by
        simp only [opL, List.mem_cons, List.not_mem_nil, or_false] at hz
        rcases hz with h | h | h | h | h | h | h
        · exact absurd h m1
        · exact absurd h m2
        · exact absurd h m3
        · exact absurd h m4
        · exact h
        · exact absurd h m6
        · exact absurd h m7
      have k : comb z a b = if 0 < b then a % b else 0 := ((((if_neg m1).trans (if_neg m2)).trans (if_neg m3)).trans (if_neg m4)).trans (if_pos m5)
      rw [k, if_pos (by omega)] at q
      refine ⟨_, rfl, _, rfl, _, rfl, _, _, rfl, rfl, .inr ⟨by omega, by omega⟩, _, _, rfl, rfl, ?_⟩
      have e2 : a - a / b * b = a % b := by
        have := Int.mul_ediv_add_emod a b
        rw [Int.mul_comm] at this
        omega
      show Q (.int (a - a / b * b)) H
      rw [e2]
      exact q
/-! ### _law_value -/
def sp_law_value (T : Txt K mg w) (n : Nat) : Sp := fun vs H Q _ => ∃ (v : V) (t o s : Addr) (e : Ex) (ns ps : List Str) (tb : Str → Int) (on : Str → Bool) (sn : List Int), vs = [v, .ref t, .ref o, .ref s] ∧ Ev H v e ∧ e.deep ≤ n ∧ e.Wf ns ps ∧ Tb H ns ps t o tb on ∧
  SqL K H s (sn.map V.int) ∧ (∀ n ∈ sn, Bd n) ∧ sn.length ≤ 100 ∧ ∀ H', Same H H' → Q (.int (e.val tb on sn)) H'
theorem no_law_value (T : Txt K mg w) : ∀ vs H Q E, ¬ sp_law_value T 0 vs H Q E := fun vs H Q E ⟨_, _, _, _, e, _, _, _, _, _, _, _, h, _⟩ => absurd (deep_pos e) (by omega)

theorem step_law_value (T : Txt K mg w) {n : Nat} (G : FnOk P w K mg base CX0 (1 + n) T.a_law_value T.d_law_value ["due", "table", "on", "seen"] (sp_law_value T n)) : FnOk P w K mg base CX0 (1 + n + 1) T.a_law_value T.d_law_value ["due", "table", "on", "seen"] (sp_law_value T (n + 1)) := by
  refine T.F_law_value.ok sc_law_value (fun vs H Q E h => ?_) (fun cdv A outer s H vs Q E hr h => ?_)
  · obtain ⟨v, t, o, sa, e, ns, ps, tb, on, sn, rfl, _⟩ := h
    rfl
  obtain ⟨v, t, o, sa, e, ns, ps, tb, on, sn, rfl, hv, hd, hw, hT, hS, hB, hL, q⟩ := h
  refine ⟨_, (pss_cons (ps_if (pt_cmpR op_eq (pe_ix ix_tup (pv 0) pe_int (fun _ _ => rfl)) pe_str (nomark _)) (pss_one (ps_ret (pe_ix ix_tup (pv 0) pe_int (fun _ _ => rfl)))) pss_nil)
      (pss_cons (ps_if (pt_cmpR op_eq (pe_ix ix_tup (pv 0) pe_int (fun _ _ => rfl)) pe_str (nomark _)) (pss_one (ps_ret (pe_dget (d_room hr) (pv 1) (pe_ix ix_tup (pv 0) pe_int (fun _ _ => rfl)) (fun _ _ => rfl)))) pss_nil)
      (pss_cons (ps_if (pt_cmpR op_eq (pe_ix ix_tup (pv 0) pe_int (fun _ _ => rfl)) pe_str (nomark _)) (pss_one (ps_ret (pe_callB call_len_seq (by rfl) T.z_len (by first | exact PySem.boot_len | decide +kernel) (pa_cons (pv 3) pa_nil)))) pss_nil)
      (pss_cons (ps_if (pt_cmpR op_eq (pe_ix ix_tup (pv 0) pe_int (fun _ _ => rfl)) pe_str (nomark _)) (pss_cons (ps_set (i := 4) sc_law_value.nd rfl (by first | exact Or.inl rfl | exact Or.inr rfl) (pe_call G hr (by rfl) T.m_law_value T.F_law_value.kp T.b_law_value .nil pass0 (pa_cons (pe_ix ix_tup (pv 0) pe_int (fun _ _ => rfl)) (pa_cons (pv 1) (pa_cons (pv 2) (pa_cons (pv 3) pa_nil))))))
      (pss_one (ps_ret (pe_ix ix_list (pe_op op_cat (pe_callTy call_list_of (by rfl) T.z_list (by first | exact PySem.boot_list | decide +kernel) (pa_cons (pv 3) pa_nil)) (pe_lst (pa_cons pe_int pa_nil))) (pe_callB (call_min2 rfl) (by rfl) T.z_min (by first | exact PySem.boot_min | decide +kernel) (pa_cons (pv 4) (pa_cons (pe_callB call_len_seq (by rfl) T.z_len (by first | exact PySem.boot_len | decide +kernel) (pa_cons (pv 3) pa_nil)) pa_nil))) (fun _ _ => rfl))))) pss_nil)
      (pss_cons (ps_if (pt_cmpR op_eq (pe_ix ix_tup (pv 0) pe_int (fun _ _ => rfl)) pe_str (nomark _)) (pss_one (ps_ret (pe_call G hr (by rfl) T.m_law_value T.F_law_value.kp T.b_law_value .nil pass0 (pa_cons (pe_ix ix_tup (pv 0) (pe_op op_sub pe_int (pe_callTy call_int1 (by rfl) T.z_int (by first | exact PySem.boot_int | decide +kernel) (pa_cons (pe_dget (d_room hr) (pv 2) (pe_ix ix_tup (pv 0) pe_int (fun _ _ => rfl)) (fun _ _ => rfl)) pa_nil))) (fun _ _ => rfl)) (pa_cons (pv 1) (pa_cons (pv 2) (pa_cons (pv 3) pa_nil))))))) pss_nil)
      (pss_cons (ps_set (i := 5) sc_law_value.nd rfl (by first | exact Or.inl rfl | exact Or.inr rfl) (pe_call G hr (by rfl) T.m_law_value T.F_law_value.kp T.b_law_value .nil pass0 (pa_cons (pe_ix ix_tup (pv 0) pe_int (fun _ _ => rfl)) (pa_cons (pv 1) (pa_cons (pv 2) (pa_cons (pv 3) pa_nil))))))
      (pss_one (ps_ret (pe_call (ok_law_combine T) (hr.mono (by omega)) (by rfl) T.m_law_combine T.F_law_combine.kp T.b_law_combine .nil pass0 (pa_cons (pe_ix ix_tup (pv 0) pe_int (fun _ _ => rfl)) (pa_cons (pv 5) (pa_cons (pe_call G hr (by rfl) T.m_law_value T.F_law_value.kp T.b_law_value .nil pass0 (pa_cons (pe_ix ix_tup (pv 0) pe_int (fun _ _ => rfl)) (pa_cons (pv 1) (pa_cons (pv 2) (pa_cons (pv 3) pa_nil))))) pa_nil)))))))))))), ?_⟩
  obtain ⟨⟨kt, ht, htv⟩, ko, ho, hov⟩ := id hT
  obtain ⟨n1, n2, n3, n4, n5, n6, n7, n8, n9, n10⟩ := num_ne
  cases hv with
  | @num a m ha =>
    refine ⟨_, rfl, a, _, 0, .str "number", rfl, rfl, SqT.of ha, atI_nat (j := 0) rfl, rfl, _, rfl, iteS ?_⟩
    exact ⟨_, rfl, a, _, 1, .int m, rfl, rfl, SqT.of ha, atI_nat (j := 1) rfl, q H (Same.refl H)⟩
  | @var a x ha =>
    refine ⟨_, rfl, a, _, 0, .str "variable", rfl, rfl, SqT.of ha, atI_nat (j := 0) rfl, rfl, _, rfl, iteN n1 ?_⟩
    refine ⟨_, rfl, a, _, 0, .str "variable", rfl, rfl, SqT.of ha, atI_nat (j := 0) rfl, rfl, _, rfl, iteS ?_⟩
    exact ⟨_, rfl, _, rfl, a, _, 1, .str x, rfl, rfl, SqT.of ha, atI_nat (j := 1) rfl, t, _, rfl, dget_of ht (htv x hw).1, q H (Same.refl H)⟩
  | @long a ha =>
    refine ⟨_, rfl, a, _, 0, .str "long", rfl, rfl, SqT.of ha, atI_nat (j := 0) rfl, rfl, _, rfl, iteN n2 ?_⟩
    refine ⟨_, rfl, a, _, 0, .str "long", rfl, rfl, SqT.of ha, atI_nat (j := 0) rfl, rfl, _, rfl, iteN n5 ?_⟩
    refine ⟨_, rfl, a, _, 0, .str "long", rfl, rfl, SqT.of ha, atI_nat (j := 0) rfl, rfl, _, rfl, iteS ?_⟩
    refine ⟨_, rfl, sa, _, rfl, .inl hS, ?_⟩
    have e2 : (((sn.map V.int).length : Nat) : Int) = min (sn.length : Int) 65535 := by
      rw [List.length_map]
      omega
    rw [e2]
    exact q H (Same.refl H)
  | @view a v e ha hv =>
    have hd' : e.deep ≤ n := by
      have : e.deep + 1 ≤ n + 1 := hd
      omega
    refine ⟨_, rfl, a, _, 0, .str "view", rfl, rfl, SqT.of ha, atI_nat (j := 0) rfl, rfl, _, rfl, iteN n3 ?_⟩
    refine ⟨_, rfl, a, _, 0, .str "view", rfl, rfl, SqT.of ha, atI_nat (j := 0) rfl, rfl, _, rfl, iteN n6 ?_⟩
    refine ⟨_, rfl, a, _, 0, .str "view", rfl, rfl, SqT.of ha, atI_nat (j := 0) rfl, rfl, _, rfl, iteN n8 ?_⟩
    refine ⟨_, rfl, a, _, 0, .str "view", rfl, rfl, SqT.of ha, atI_nat (j := 0) rfl, rfl, _, rfl, iteS ?_⟩
    refine ⟨_, rfl, a, _, 1, v, rfl, rfl, SqT.of ha, atI_nat (j := 1) rfl, _, rfl, _, rfl, _, rfl, v, t, o, sa, e, ns, ps, tb, on, sn, rfl, hv, hd', hw, hT, hS, hB, hL, fun H1 s1 => ?_⟩
    have bd := val_bd (on := on) (fun x m => (htv x m).2) hB e hw
    have q' : ∀ H', Same H H' → Q (.int (sn.getD (e.val tb on sn).toNat 0)) H' := q
    revert q'
    generalize e.val tb on sn = i at bd
    intro q'
    have i0 := bd.1
    refine ⟨_, rfl, sa, _, rfl, .inl (s1.seq hS), fun l1 h1 => ?_⟩
    refine ⟨by show 1 ≤ sizeLine; decide, fun l2 h2 => ?_⟩
    have s2 := same_upd (o := .lst (sn.map V.int)) h1
    have s3 := same_upd (o := .lst [V.int 0]) h2
    refine ⟨l1, l2, _, _, rfl, rfl, s3 _ _ upd_same, upd_same, ?_, fun l3 h3 => ?_⟩
    · rw [List.length_map]
      exact small_le (by show sn.length + 1 ≤ 1000; omega)
    have s4 := same_upd (o := .lst (sn.map V.int ++ [V.int 0])) h3
    have sA := ((s1.trans s2).trans s3).trans s4
    refine ⟨_, rfl, _, rfl, sa, _, rfl, .inl (sA.seq hS), _, _, rfl, ?_⟩
    rw [List.length_map]
    have eg : (sn.map V.int ++ [V.int 0])[min i.toNat sn.length]? = some (.int (sn.getD i.toNat 0)) := by
      rw [List.getD_eq_getElem?_getD]
      by_cases c : i.toNat < sn.length
      · rw [Nat.min_eq_left (Nat.le_of_lt c), List.getElem?_append_left (by rw [List.length_map]; exact c), List.getElem?_map, List.getElem?_eq_getElem c]
        rfl
      · have en : sn[i.toNat]? = none := List.getElem?_eq_none (by omega)
        rw [en, Nat.min_eq_right (by omega), List.getElem?_append_right (by rw [List.length_map]; exact Nat.le_refl _), List.length_map, Nat.sub_self]
        rfl
    refine ⟨l3, _, _, _, rfl, rfl, SqL.of upd_same, at_ofG (j := min i.toNat sn.length) ?_ eg, q' _ sA⟩
    omega
  | @pick a x v w e f ha hv hv2 =>
    have hd' : max e.deep f.deep + 1 ≤ n + 1 := hd
    refine ⟨_, rfl, a, _, 0, .str "pick", rfl, rfl, SqT.of ha, atI_nat (j := 0) rfl, rfl, _, rfl, iteN n4 ?_⟩
    refine ⟨_, rfl, a, _, 0, .str "pick", rfl, rfl, SqT.of ha, atI_nat (j := 0) rfl, rfl, _, rfl, iteN n7 ?_⟩
    refine ⟨_, rfl, a, _, 0, .str "pick", rfl, rfl, SqT.of ha, atI_nat (j := 0) rfl, rfl, _, rfl, iteN n9 ?_⟩
    refine ⟨_, rfl, a, _, 0, .str "pick", rfl, rfl, SqT.of ha, atI_nat (j := 0) rfl, rfl, _, rfl, iteN n10 ?_⟩
    refine ⟨_, rfl, a, _, 0, .str "pick", rfl, rfl, SqT.of ha, atI_nat (j := 0) rfl, rfl, _, rfl, iteS ?_⟩
    have q' : ∀ H', Same H H' → Q (.int (if on x = true then e.val tb on sn else f.val tb on sn)) H' := q
    obtain ⟨u, g, gi, gv, gd, gw, gq⟩ : ∃ (u : V) (g : Ex), atI [V.str "pick", .str x, v, w] (3 - (if on x = true then 1 else 0)) = some u ∧ Ev H u g ∧ g.deep ≤ n ∧ g.Wf ns ps ∧ (if on x = true then e.val tb on sn else f.val tb on sn) = g.val tb on sn := by
      by_cases c : on x = true
      · exact ⟨v, e, by rw [if_pos c]; exact atI_nat (j := 2) rfl, hv, by omega, hw.2.1, if_pos c⟩
      · exact ⟨w, f, by rw [if_neg c]; exact atI_nat (j := 3) rfl, hv2, by omega, hw.2.2, if_neg c⟩
    rw [gq] at q'
    exact ⟨_, rfl, _, rfl, _, rfl, a, _, 1, .str x, rfl, rfl, SqT.of ha, atI_nat (j := 1) rfl, o, _, rfl, dget_of ho (hov x hw.1), .inr ⟨_, rfl, _, _, rfl, rfl, a, _, _, u, rfl, rfl, SqT.of ha, gi, _, rfl, _, rfl, _, rfl, u, t, o, sa, g, ns, ps, tb, on, sn, rfl, gv, gd, gw, hT, hS, hB, hL, q'⟩⟩
  | @op a z v w e f ha hv hv2 =>
    have hd' : max e.deep f.deep + 1 ≤ n + 1 := hd
    obtain ⟨m1, m2, m3, m4, m5⟩ := opL_ne hw.1
    refine ⟨_, rfl, a, _, 0, .str z, rfl, rfl, SqT.of ha, atI_nat (j := 0) rfl, rfl, _, rfl, iteN m1 ?_⟩
    refine ⟨_, rfl, a, _, 0, .str z, rfl, rfl, SqT.of ha, atI_nat (j := 0) rfl, rfl, _, rfl, iteN m2 ?_⟩
    refine ⟨_, rfl, a, _, 0, .str z, rfl, rfl, SqT.of ha, atI_nat (j := 0) rfl, rfl, _, rfl, iteN m3 ?_⟩
    refine ⟨_, rfl, a, _, 0, .str z, rfl, rfl, SqT.of ha, atI_nat (j := 0) rfl, rfl, _, rfl, iteN m4 ?_⟩
    refine ⟨_, rfl, a, _, 0, .str z, rfl, rfl, SqT.of ha, atI_nat (j := 0) rfl, rfl, _, rfl, iteN m5 ?_⟩
    refine ⟨_, rfl, a, _, 1, v, rfl, rfl, SqT.of ha, atI_nat (j := 1) rfl, _, rfl, _, rfl, _, rfl, v, t, o, sa, e, ns, ps, tb, on, sn, rfl, hv, by omega, hw.2.1, hT, hS, hB, hL, fun H1 s1 => ?_⟩
    refine ⟨_, rfl, a, _, 0, .str z, rfl, rfl, SqT.of (s1 _ _ ha), atI_nat (j := 0) rfl, _, rfl, ?_⟩
    refine ⟨_, rfl, a, _, 2, w, rfl, rfl, SqT.of (s1 _ _ ha), atI_nat (j := 2) rfl, _, rfl, _, rfl, _, rfl, w, t, o, sa, f, ns, ps, tb, on, sn, rfl, hv2.keep (keepT_of s1), by omega, hw.2.2, hT.same s1, s1.seq hS, hB, hL, fun H2 s2 => ?_⟩
    exact ⟨z, _, _, rfl, hw.1, val_bd (fun x m => (htv x m).2) hB e hw.2.1, val_bd (fun x m => (htv x m).2) hB f hw.2.2, q H2 (s1.trans s2)⟩
theorem ok_law_value (T : Txt K mg w) : ∀ n, FnOk P w K mg base CX0 (1 + n) T.a_law_value T.d_law_value ["due", "table", "on", "seen"] (sp_law_value T n)
  | 0 => ⟨fun vs H Q E h => absurd h (no_law_value T vs H Q E), fun A outer s H args us vs Q E _ _ _ _ h => absurd h (no_law_value T vs H Q E)⟩
  | n + 1 => step_law_value T (ok_law_value T n)
/-! ### _law_seen -/
def evKs : List Str := ["round", "told", "move", "did"]
def sp_law_seen (T : Txt K mg w) : Sp := fun vs H Q _ => ∃ (vw : Addr) (ws : List V) (es : List Evt), vs = [.ref vw] ∧ H vw = some (.tup ws) ∧ Paired (VwV H) ws es ∧ es.length ≤ 1000 ∧ ∀ (sa : Addr) (H' : Hp), Same H H' → H sa = none → H' sa = some (.lst ((seenL es).map V.int)) → Q (.ref sa) H'

theorem ok_law_seen (T : Txt K mg w) : FnOk P w K mg base CX0 1 T.a_law_seen T.d_law_seen ["view"] (sp_law_seen T) := by
  refine T.F_law_seen.ok sc_law_seen (fun vs H Q E h => ?_) (fun cdv A outer s H vs Q E hr h => ?_)
  · obtain ⟨vw, ws, es, rfl, _⟩ := h
    rfl
  obtain ⟨vw, ws, es, rfl, hv, hp, hl, q⟩ := h
  refine ⟨_, (pss_cons (ps_set (i := 1) sc_law_seen.nd rfl (by first | exact Or.inl rfl | exact Or.inr rfl) (pe_lst pa_nil))
      (pss_cons (ps_for PassesOwn.never rfl (pi_tup (pv 0)) (pg_name (i := 2) sc_law_seen.nd rfl (by first | exact Or.inl rfl | exact Or.inr rfl)) (pss_cons (ps_set (i := 3) sc_law_seen.nd rfl (by first | exact Or.inl rfl | exact Or.inr rfl) (pe_op op_cat (pe_callTy call_list_of (by rfl) T.z_list (by first | exact PySem.boot_list | decide +kernel) (pa_cons (pe_slice sl_tup (pv 2) (po_some pe_int) po_none) pa_nil)) (pe_lst (pa_cons pe_int pa_nil))))
      (pss_one (ps_set (i := 1) sc_law_seen.nd rfl (by first | exact Or.inl rfl | exact Or.inr rfl) (pe_op op_cat (pv 1) (pe_lst (pa_cons (pe_op op_add (pe_mG ty_tu PySem.F.plainAttrs_tuple PySem.F.slot_tuple_index PySem.F.type_tuple_index mt_tup_index (pe_tupF (pa_cons pe_str (pa_cons pe_str (pa_cons pe_str (pa_cons pe_str pa_nil))))) (pa_cons (pe_ix ix_tup (pv 2) pe_int (fun _ _ => rfl)) pa_nil)) pe_int) (pa_cons (pe_ix ix_list (pv 3) pe_int (fun _ _ => rfl)) (pa_cons (pe_ix ix_list (pv 3) pe_int (fun _ _ => rfl)) pa_nil)))))))))
      (pss_one (ps_ret (pv 1))))), ?_⟩
  refine ⟨by show 0 ≤ sizeLine; decide, fun W fW => ?_⟩
  have sW := same_upd (o := .lst []) fW
  refine ⟨_, rfl, vw, rfl, ⟨_, SqT.of (sW _ _ hv)⟩, for_tup (K := K) (a := vw) (xs := ws) (fun i σ' H' => ∃ (y1 y2 : Option V) (W' : Addr), σ' = [some (.ref vw), some (.ref W'), y1, y2] ∧ Same H H' ∧ H W' = none ∧ H' W' = some (.lst ((seenL (es.take i)).map V.int))) ⟨_, _, W, rfl, sW, fW, upd_same⟩ ?_ ?_ ?_⟩
  · rintro i σ' H' _ ⟨y1, y2, W', rfl, s1, _⟩
    exact SqT.of (s1 _ _ hv)
  · rintro i x σ' H' hi ⟨y1, y2, W', rfl, s1, fW', e1⟩
    obtain ⟨⟨kd, n1, n2⟩, ht, lt, U, rfl, hU⟩ := pget hp hi
    have hU' := s1 _ _ hU
    have il : i < es.length := (List.getElem?_eq_some_iff.mp ht).1
    obtain ⟨nm, j, ws', b1, f1, f2, f3, f4, f5⟩ : ∃ (nm : Str) (j : Nat) (ws' : List V) (b1 : Int), evT (kd, n1, n2) = .str nm :: .int n1 :: ws' ∧ ((ws' = [] ∧ b1 = 0) ∨ ws' = [.int b1]) ∧ evKs[j]? = some nm ∧ (∀ m, m < j → evKs[m]? ≠ some nm) ∧ seen1 (kd, n1, n2) = [(j : Int) + 1, n1, b1] := by
      match kd, lt with
      | 0, _ => exact ⟨"round", 0, [], 0, rfl, .inl ⟨rfl, rfl⟩, rfl, by decide +kernel, rfl⟩
      | 1, _ => exact ⟨"told", 1, [], 0, rfl, .inl ⟨rfl, rfl⟩, rfl, by decide +kernel, rfl⟩
      | 2, _ => exact ⟨"move", 2, [.int n2], n2, rfl, .inr rfl, rfl, by decide +kernel, rfl⟩
      | 3, _ => exact ⟨"did", 3, [], 0, rfl, .inl ⟨rfl, rfl⟩, rfl, by decide +kernel, rfl⟩
    rw [f1] at hU'
    have fin : ∀ (H9 : Hp) (b l3 : Addr), Same H' H9 → H9 b = some (.lst [.int ((j : Int) + 1), .int n1, .int b1]) → ∃ (a b' : Addr) (xs ys : List V), V.ref W' = .ref a ∧ V.ref b = .ref b' ∧ H9 a = some (.lst xs) ∧ H9 b' = some (.lst ys) ∧ xs.length + ys.length ≤ sizeLine ∧ ∀ (W2 : Addr), H9 W2 = none → ∃ (y1 y2 : Option V) (W3 : Addr), [some (V.ref vw), some (V.ref W2), some (V.ref U), some (V.ref l3)] = [some (.ref vw), some (.ref W3), y1, y2] ∧ Same H (upd H9 W2 (.lst (xs ++ ys))) ∧ H W3 = none ∧ upd H9 W2 (.lst (xs ++ ys)) W3 = some (.lst ((seenL (es.take (i + 1))).map V.int)) := fun H9 b l3 s9 hb => by
      refine ⟨W', b, _, _, rfl, rfl, s9 _ _ e1, hb, ?_, fun W2 f2' => ⟨_, _, W2, rfl, ((s1.trans s9).trans (same_upd f2')), (s1.trans s9).free f2', ?_⟩⟩
      · rw [List.length_map, seenL_len, List.length_take, sizeLine_eq]
        show _ + 3 ≤ _
        omega
      · rw [upd_same, List.take_add_one, ht]
        show _ = some (HO.lst ((seenL (es.take i ++ [(kd, n1, n2)])).map V.int))
        rw [seenL_snoc, List.map_append, f5]
        rfl
    rcases f2 with ⟨rfl, rfl⟩ | rfl
    all_goals
      refine ⟨_, rfl, _, rfl, U, _, rfl, SqT.of hU', by first | (show ¬ (HT.sIx 2 0 (some 1) = 0 ∧ HT.sIx 2 2 none = 2); decide) | (show ¬ (HT.sIx 3 0 (some 1) = 0 ∧ HT.sIx 3 3 none = 3); decide), fun p fp => ?_⟩
      refine ⟨p, _, rfl, .inr (SqT.of upd_same), fun l1 g1 => ?_⟩
      refine ⟨by show 1 ≤ sizeLine; decide, fun l2 g2 => ?_⟩
      refine ⟨l1, l2, _, _, rfl, rfl, (same_upd g2) _ _ upd_same, upd_same, small_le (by first | (show 1 + 1 ≤ 1000; decide) | (show 2 + 1 ≤ 1000; decide)), fun l3 g3 => ?_⟩
      refine ⟨_, rfl, by show 4 ≤ sizeLine; decide, fun u ou fu cu du => ?_⟩
      have s6 := same_upd (o := .frz ou (.tup (evKs.map V.str))) fu
      have s56 := ((((same_upd fp).trans (same_upd g1)).trans (same_upd g2)).trans (same_upd g3)).trans s6
      refine ⟨⟨u, rfl, .inl ⟨_, ou, upd_same, cu, du⟩⟩, _, rfl, U, _, 0, .str nm, rfl, rfl, SqT.of (s56 _ _ hU'), atI_nat (j := 0) rfl, u, evKs, nm, j, rfl, rfl, FT.sq ⟨ou, upd_same, cu, du⟩, f3, f4, ?_⟩
      refine ⟨_, _, rfl, rfl, ?_⟩
      refine ⟨_, rfl, l3, _, 0, .int n1, rfl, rfl, SqL.of (s6 _ _ upd_same), atI_nat (j := 0) rfl, _, rfl, l3, _, 1, _, rfl, rfl, SqL.of (s6 _ _ upd_same), atI_nat (j := 1) rfl, by show 3 ≤ sizeLine; decide, fun b fb => ?_⟩
      exact fin _ b l3 (s56.trans (same_upd fb)) upd_same
  · rintro σ' H' ⟨y1, y2, W', rfl, s1, fW', e1⟩
    rw [show ws.length = es.length from Paired.length hp, List.take_of_length_le (Nat.le_refl _)] at e1
    exact ⟨_, rfl, q W' _ s1 fW' e1⟩
/-! ### _law_fall -/
def sp_law_fall (T : Txt K mg w) : Sp := fun vs H Q _ => ∃ (rl tl : Addr) (c : Int) (rs : List Int) (ws : List V) (tk : List (Int × Int)), vs = [.ref rl, .ref tl, .int c] ∧ H rl = some (.lst (rs.map V.int)) ∧ H tl = some (.lst ws) ∧ Paired (TupV H) ws tk ∧ 0 < c ∧ tk.length ≤ 200000 ∧
  ∀ (H' : Hp) (ws' : List V), But tl H H' → H' tl = some (.lst ws') → Paired (TupV H') ws' (tk ++ [(takeK rs tk.length c, c)]) → Q (.int (takeK rs tk.length c)) H'

theorem ok_law_fall (T : Txt K mg w) : FnOk P w K mg base CX0 1 T.a_law_fall T.d_law_fall ["results", "taken", "count"] (sp_law_fall T) := by
  refine T.F_law_fall.ok sc_law_fall (fun vs H Q E h => ?_) (fun cdv A outer s H vs Q E hr h => ?_)
  · obtain ⟨rl, tl, c, rs, ws, tk, rfl, _⟩ := h
    rfl
  obtain ⟨rl, tl, c, rs, vs, ts, rfl, hR, hT, hp, c0, hl, q⟩ := h
  refine ⟨_, (pss_cons (ps_set (i := 3) sc_law_fall.nd rfl (by first | exact Or.inl rfl | exact Or.inr rfl) pe_int)
      (C8.pss_cut (ps_if (pt_cmpR op_lt (pe_callB call_len_seq (by rfl) T.z_len (by first | exact PySem.boot_len | decide +kernel) (pa_cons (pv 1) pa_nil)) (pe_callB call_len_seq (by rfl) T.z_len (by first | exact PySem.boot_len | decide +kernel) (pa_cons (pv 0) pa_nil)) (nomark _)) (pss_one (ps_set (i := 3) sc_law_fall.nd rfl (by first | exact Or.inl rfl | exact Or.inr rfl) (pe_op op_mod (pe_callTy call_int1 (by rfl) T.z_int (by first | exact PySem.boot_int | decide +kernel) (pa_cons (pe_ix ix_list (pv 0) (pe_callB call_len_seq (by rfl) T.z_len (by first | exact PySem.boot_len | decide +kernel) (pa_cons (pv 1) pa_nil)) (fun _ _ => rfl)) pa_nil)) (pv 2)))) pss_nil)
      (pss_cons (ps_expr (pe_bm PySem.F.plainAttrs_list PySem.F.slot_list_append PySem.F.type_list_append mt_append (pv 1) (pa_cons (pe_tup (pa_cons (pv 3) (pa_cons (pv 2) pa_nil))) pa_nil)))
      (pss_one (ps_ret (pv 3)))))), ?_⟩
  have vl := Paired.length hp
  refine ⟨fun σ' H' => σ' = [some (.ref rl), some (.ref tl), some (.int c), some (.int (takeK rs ts.length c))] ∧ H' = H, ?_, ?_⟩
  · refine ⟨_, rfl, tl, _, rfl, .inl (SqL.of hT), _, rfl, rl, _, rfl, .inl (SqL.of hR), _, _, rfl, rfl, _, rfl, ite2 (fun e => ?_) (fun e => ?_)⟩
    · have e' : (vs.length : Int) < (((rs.map V.int).length : Nat) : Int) := of_decide_eq_true e
      rw [List.length_map] at e'
      have hlt : ts.length < rs.length := by omega
      have eg : rs[ts.length]? = some (rs[ts.length]) := List.getElem?_eq_getElem hlt
      have ek : takeK rs ts.length c = rs[ts.length] % c := by
        unfold takeK
        rw [eg]
      rw [ek]
      exact ⟨_, rfl, _, rfl, tl, _, rfl, .inl (SqL.of hT), rl, _, _, .int (rs[ts.length]), rfl, rfl, SqL.of hR, at_ofG (j := ts.length) (by omega) (by rw [List.getElem?_map, eg]; rfl), .inl ⟨_, rfl, _, rfl, _, _, rfl, rfl, c0, rfl, rfl⟩⟩
    · have e' : ¬ (vs.length : Int) < (((rs.map V.int).length : Nat) : Int) := fun z => e (decide_eq_true z)
      rw [List.length_map] at e'
      have ek : takeK rs ts.length c = 0 := by
        unfold takeK
        rw [List.getElem?_eq_none (by omega)]
      rw [ek]
      exact ⟨rfl, rfl⟩
  rintro σ1 H1 ⟨rfl, rfl⟩
  refine ⟨_, rfl, .inl ⟨rfl, _, SqL.of hT⟩, _, rfl, _, rfl, by show 2 ≤ sizeLine; decide, fun U hU => ?_⟩
  have s1 := same_upd (o := .tup [V.int (takeK rs ts.length c), .int c]) hU
  have nU : U ≠ tl := (ne_of_none hT hU).symm
  refine ⟨tl, vs, _, rfl, rfl, s1 _ _ hT, by rw [sizeLine_eq]; omega, ?_⟩
  refine ⟨_, rfl, q _ _ (fun b o n e => by rw [upd_ne n]; exact s1 _ _ e) upd_same (paired_snoc (Paired.mono (fun _ _ h => h.keep ((keepT_of s1).trans (keepT_lst (s1 _ _ hT)))) hp) ⟨U, rfl, by rw [upd_ne nU]; exact upd_same⟩)⟩
/-! ### _law_unit -/
def sp_law_unit (T : Txt K mg w) : Sp := fun vs H Q _ => ∃ (rn t sa rl tl : Addr) (u : Int), vs = [.ref rn] ∧ H rn = some (.lst [.int u, .ref t, .ref sa, .ref rl, .ref tl]) ∧ ∀ b, b = decide (0 < u) → Q (.bl b) (upd H rn (.lst [.int (u - 1), .ref t, .ref sa, .ref rl, .ref tl]))

theorem ok_law_unit (T : Txt K mg w) : FnOk P w K mg base CX0 1 T.a_law_unit T.d_law_unit ["run"] (sp_law_unit T) := by
  refine T.F_law_unit.ok sc_law_unit (fun vs H Q E h => ?_) (fun cdv A outer s H vs Q E hr h => ?_)
  · obtain ⟨rn, t, sa, rl, tl, u, rfl, _⟩ := h
    rfl
  obtain ⟨rn, t, sa, rl, tl, u, rfl, hr', q⟩ := h
  refine ⟨_, (pss_cons (ps_asg (pe_op op_sub (pe_ix ix_list (pv 0) pe_int (fun _ _ => rfl)) pe_int) (pg_sub (pv 0) pe_int set_list))
      (pss_one (ps_ret (pe_cmpR op_ge (pe_ix ix_list (pv 0) pe_int (fun _ _ => rfl)) pe_int (nomark _))))), ?_⟩
  refine ⟨_, rfl, rn, _, 0, .int u, rfl, rfl, SqL.of hr', atI_nat (j := 0) rfl, _, _, rfl, rfl, _, rfl, rn, _, 0, 0, rfl, rfl, hr', rfl, ?_⟩
  refine ⟨_, rfl, rn, [.int (u - 1), .ref t, .ref sa, .ref rl, .ref tl], 0, .int (u - 1), rfl, rfl, SqL.of upd_same, atI_nat (j := 0) rfl, _, _, rfl, rfl, q _ ?_⟩
  by_cases c : 0 < u
  · rw [decide_eq_true c]
    exact decide_eq_true (show (0 : Int) ≤ u - 1 by omega)
  · rw [decide_eq_false c]
    exact decide_eq_false (show ¬ (0 : Int) ≤ u - 1 by omega)
/-! ### _law_run -/
def sp_law_run (T : Txt K mg w) (n : Nat) : Sp := fun vs H Q _ => ∃ (rn t sa rl tl : Addr) (ns : List Str) (u : Nat) (tb : Str → Int) (sn rs : List Int) (tk : List (Int × Int)) (b : V) (ss : List Bt), vs = [.ref rn, b] ∧ RunS H rn t sa rl tl ns u tb sn rs tk ∧ Bx H b ss ∧ blv ss < n ∧ bwL ns ss ∧ (∀ n ∈ sn, Bd n) ∧ sn.length ≤ 100 ∧ u ≤ 65535 ∧ tk.length + u ≤ 100000 ∧
  ∀ (ok : Bool) (u' : Int) (tb' : Str → Int) (tk' : List (Int × Int)) (H' : Hp), B3 rn t tl H H' → RunS H' rn t sa rl tl ns u' tb' sn rs tk' → RunR sn rs u ss tb tk ok u' tb' tk' → Q (.bl ok) H'
theorem no_law_run (T : Txt K mg w) : ∀ vs H Q E, ¬ sp_law_run T 0 vs H Q E := fun vs H Q E ⟨_, _, _, _, _, _, _, _, _, _, _, _, _, _, _, _, h, _⟩ => absurd h (Nat.not_lt_zero _)

theorem step_law_run (T : Txt K mg w) {n : Nat} (G : FnOk P w K mg base CX0 (14 + n) T.a_law_run T.d_law_run ["run", "block"] (sp_law_run T n)) : FnOk P w K mg base CX0 (14 + n + 1) T.a_law_run T.d_law_run ["run", "block"] (sp_law_run T (n + 1)) := by
  refine T.F_law_run.ok sc_law_run (fun vs H Q E h => ?_) (fun cdv A outer s H vs Q E hr h => ?_)
  · obtain ⟨rn, t, sa, rl, tl, ns, u, tb, sn, rs, tk, b, ss, rfl, _⟩ := h
    rfl
  obtain ⟨rn, t, sa, rl, tl, ns, u, tb, sn, rs, tk, b, ss, rfl, hR, ⟨bl, us, rfl, hbl, hB⟩, hlv, hw, hBd, hsl, hu, htk, q⟩ := h
  refine ⟨_, (pss_cons (ps_for PassesOwn.never rfl (pi_tup (pv 1)) (pg_name (i := 2) sc_law_run.nd rfl (by first | exact Or.inl rfl | exact Or.inr rfl)) (pss_cons (ps_if (pt_not (pt_truth (pe_call (ok_law_unit T) (hr.mono (by omega)) (by rfl) T.m_law_unit T.F_law_unit.kp T.b_law_unit .nil pass0 (pa_cons (pv 0) pa_nil)) (fun _ => rfl))) (pss_one (ps_ret pe_bl)) pss_nil)
      (pss_one (ps_if (pt_cmpR op_eq (pe_ix ix_tup (pv 2) pe_int (fun _ _ => rfl)) pe_str (nomark _)) (pss_one (ps_for PassesOwn.never rfl (pi_range1 (by rfl) T.z_range (pa_cons (pe_op op_add (pe_ix ix_list (pv 0) pe_int (fun _ _ => rfl)) pe_int) pa_nil)) (pg_name (i := 3) sc_law_run.nd rfl (by first | exact Or.inl rfl | exact Or.inr rfl)) (pss_cons (ps_if (pt_cmpR op_eq (pe_call (ok_law_value T 13) (hr.mono (by omega)) (by rfl) T.m_law_value T.F_law_value.kp T.b_law_value .nil pass0 (pa_cons (pe_ix ix_tup (pv 2) pe_int (fun _ _ => rfl)) (pa_cons (pe_ix ix_list (pv 0) pe_int (fun _ _ => rfl)) (pa_cons pe_dnewK (pa_cons (pe_ix ix_list (pv 0) pe_int (fun _ _ => rfl)) pa_nil))))) pe_int (nomark _)) (pss_one ps_break) pss_nil)
      (pss_one (ps_if (PW.pt (pw_or (pt_not (pt_truth (pe_call G hr (by rfl) T.m_law_run T.F_law_run.kp T.b_law_run .nil pass0 (pa_cons (pv 0) (pa_cons (pe_ix ix_tup (pv 2) pe_int (fun _ _ => rfl)) pa_nil))) (fun _ => rfl))) (pw_or1 (pt_not (pt_truth (pe_call (ok_law_unit T) (hr.mono (by omega)) (by rfl) T.m_law_unit T.F_law_unit.kp T.b_law_unit .nil pass0 (pa_cons (pv 0) pa_nil)) (fun _ => rfl)))))) (pss_one (ps_ret pe_bl)) pss_nil))))) (pss_one (ps_if (pt_cmpR op_eq (pe_ix ix_tup (pv 2) pe_int (fun _ _ => rfl)) pe_str (nomark _)) (pss_cons (ps_set (i := 4) sc_law_run.nd rfl (by first | exact Or.inl rfl | exact Or.inr rfl) (pe_ix ix_tup (pv 2) (pe_op op_sub pe_int (pe_callTy call_int1 (by rfl) T.z_int (by first | exact PySem.boot_int | decide +kernel) (pa_cons (pe_cmpR op_ne (pe_call (ok_law_value T 13) (hr.mono (by omega)) (by rfl) T.m_law_value T.F_law_value.kp T.b_law_value .nil pass0 (pa_cons (pe_ix ix_tup (pv 2) pe_int (fun _ _ => rfl)) (pa_cons (pe_ix ix_list (pv 0) pe_int (fun _ _ => rfl)) (pa_cons pe_dnewK (pa_cons (pe_ix ix_list (pv 0) pe_int (fun _ _ => rfl)) pa_nil))))) pe_int (nomark _)) pa_nil))) (fun _ _ => rfl)))
      (pss_one (ps_if (pt_not (pt_truth (pe_call G hr (by rfl) T.m_law_run T.F_law_run.kp T.b_law_run .nil pass0 (pa_cons (pv 0) (pa_cons (pv 4) pa_nil))) (fun _ => rfl))) (pss_one (ps_ret pe_bl)) pss_nil))) (pss_cons (ps_set (i := 5) sc_law_run.nd rfl (by first | exact Or.inl rfl | exact Or.inr rfl) (pe_call (ok_law_value T 13) (hr.mono (by omega)) (by rfl) T.m_law_value T.F_law_value.kp T.b_law_value .nil pass0 (pa_cons (pe_ix ix_tup (pv 2) pe_int (fun _ _ => rfl)) (pa_cons (pe_ix ix_list (pv 0) pe_int (fun _ _ => rfl)) (pa_cons pe_dnewK (pa_cons (pe_ix ix_list (pv 0) pe_int (fun _ _ => rfl)) pa_nil))))))
      (C8.pss_cut (ps_if (PW.pt (pw_and (pt_cmpR op_eq (pe_ix ix_tup (pv 2) pe_int (fun _ _ => rfl)) pe_str (nomark _)) (pw_and1 (pt_cmpR op_gt (pv 5) pe_int (nomark _))))) (pss_one (ps_set (i := 5) sc_law_run.nd rfl (by first | exact Or.inl rfl | exact Or.inr rfl) (pe_call (ok_law_fall T) (hr.mono (by omega)) (by rfl) T.m_law_fall T.F_law_fall.kp T.b_law_fall .nil pass0 (pa_cons (pe_ix ix_list (pv 0) pe_int (fun _ _ => rfl)) (pa_cons (pe_ix ix_list (pv 0) pe_int (fun _ _ => rfl)) (pa_cons (pv 5) pa_nil)))))) pss_nil)
      (pss_cons (ps_set (i := 6) sc_law_run.nd rfl (by first | exact Or.inl rfl | exact Or.inr rfl) (pe_ix ix_list (pv 0) pe_int (fun _ _ => rfl)))
      (pss_one (ps_asg (pv 5) (pg_sub (pv 6) (pe_ix ix_tup (pv 2) pe_int (fun _ _ => rfl)) (set_dict (d_room hr))))))))))))))
      (pss_one (ps_ret pe_bl))), ?_⟩
  refine ⟨_, rfl, bl, rfl, ⟨_, SqT.of hbl⟩, for_tup (K := K) (a := bl) (xs := us) (fun i σ' H' => ∃ (y1 y2 y3 y4 y5 : Option V) (v : Nat) (tb1 : Str → Int) (tk1 : List (Int × Int)), σ' = [some (.ref rn), some (.ref bl), y1, y2, y3, y4, y5] ∧ B3 rn t tl H H' ∧ RunS H' rn t sa rl tl ns v tb1 sn rs tk1 ∧ v ≤ u ∧ tk1.length + v ≤ tk.length + u ∧ ∀ r, runM sn (flR rs) u (ss ++ r) tb tk = runM sn (flR rs) v (ss.drop i ++ r) tb1 tk1)
    ⟨_, _, _, _, _, u, tb, tk, rfl, B3.refl _ _ _ _, hR, Nat.le_refl _, Nat.le_refl _, fun r => rfl⟩ ?_ ?_ ?_⟩
  · rintro i σ' H' _ ⟨y1, y2, y3, y4, y5, v, tb1, tk1, rfl, w1, _⟩
    exact SqT.of (hR.keepT w1 _ _ hbl)
  rotate_left
  · rintro σ' H' ⟨y1, y2, y3, y4, y5, v, tb1, tk1, rfl, w1, R1, vu, tv, rm⟩
    refine q true v tb1 tk1 H' w1 R1 (.inl ⟨rfl, v, rfl, vu, tv, fun r => ?_⟩)
    rw [rm r, List.drop_eq_nil_of_le (by rw [hB.len]; exact Nat.le_refl _)]
    rfl
  rintro i x σ1 H1 hi ⟨y1, y2, y3, y4, y5, v, tb1, tk1, rfl, w1, R1, vu, tv, rm⟩
  obtain ⟨z, hz, hv⟩ := hB.get hi
  have k1 := hR.keepT w1
  have hv := hv.keep k1
  have hzw := bwL_get hw hz
  have hzl := blv_get hz
  have hd : ss.drop i = z :: ss.drop (i + 1) := drop_cons hz
  have b1 : ("while" : Str) ≠ "if" ∧ ("set" : Str) ≠ "if" ∧ ("set" : Str) ≠ "while" ∧ ("lot" : Str) ≠ "if" ∧ ("lot" : Str) ≠ "while" ∧ ("set" : Str) ≠ "lot" ∧ ("if" : Str) ≠ "while" := by decide +kernel
  obtain ⟨b1, b2, b3, b4, b5, b6, b7⟩ := b1
  refine ⟨_, rfl, rn, t, sa, rl, tl, v, rfl, R1.ob, fun bb eb => ?_⟩
  cases v with
  | zero =>
    subst eb
    refine ⟨false, rfl, iteT ?_⟩
    refine q false _ tb1 tk1 _ (w1.trans (b3_a but_upd)) (R1.unit _) (.inr ⟨rfl, by omega, fun r => ?_⟩)
    rw [rm r, hd]
    rfl
  | succ v =>
  obtain rfl : bb = true := by rw [eb]; exact decide_eq_true (by omega)
  refine ⟨true, rfl, iteF ?_⟩
  have R2 := R1.unit ((v : Nat) : Int)
  have e2 : (((v + 1 : Nat) : Int)) - 1 = (v : Int) := by omega
  rw [e2]
  have w2 : B3 rn t tl H (upd H1 rn (.lst [.int ((v : Nat) : Int), .ref t, .ref sa, .ref rl, .ref tl])) := w1.trans (b3_a but_upd)
  have hv := hv.keep (R1.keepT (b3_a (a := rn) (td := t) (t := tl) (but_upd (o := .lst [.int ((v : Nat) : Int), .ref t, .ref sa, .ref rl, .ref tl]))))
  revert R2 w2 hv
  generalize upd H1 rn (.lst [.int ((v : Nat) : Int), .ref t, .ref sa, .ref rl, .ref tl]) = H2
  intro R2 w2 hv
  clear R1 w1 k1 e2 eb
  -- how it goes on behind this statement
  have go : ∀ (σ' : L2.St) (H' : Hp) (v' : Nat) (tb' : Str → Int) (tk' : List (Int × Int)), (∃ y1 y2 y3 y4 y5 : Option V, σ' = [some (.ref rn), some (.ref bl), y1, y2, y3, y4, y5]) → B3 rn t tl H H' → RunS H' rn t sa rl tl ns v' tb' sn rs tk' → v' ≤ v → tk'.length + v' ≤ tk1.length + v + 1 → (∀ r, runM sn (flR rs) (v + 1) (z :: r) tb1 tk1 = runM sn (flR rs) v' r tb' tk') → ∃ (y1 y2 y3 y4 y5 : Option V) (v : Nat) (tb1 : Str → Int) (tk1 : List (Int × Int)), σ' = [some (.ref rn), some (.ref bl), y1, y2, y3, y4, y5] ∧ B3 rn t tl H H' ∧ RunS H' rn t sa rl tl ns v tb1 sn rs tk1 ∧ v ≤ u ∧ tk1.length + v ≤ tk.length + u ∧ ∀ r, runM sn (flR rs) u (ss ++ r) tb tk = runM sn (flR rs) v (ss.drop (i + 1) ++ r) tb1 tk1 := fun σ' H' v' tb' tk' ⟨y1, y2, y3, y4, y5, e⟩ w R l1 l2 g => ⟨y1, y2, y3, y4, y5, v', tb', tk', e, w, R, by omega, by omega, fun r => by rw [rm r, hd, List.cons_append, g]⟩
  have bad : ∀ (u' : Int) (tb' : Str → Int) (tk' : List (Int × Int)) (H' : Hp), B3 rn t tl H H' → RunS H' rn t sa rl tl ns u' tb' sn rs tk' → tk'.length ≤ tk1.length + v + 1 → (∀ r, runM sn (flR rs) (v + 1) (z :: r) tb1 tk1 = .out tk') → Q (.bl false) H' := fun u' tb' tk' H' w R l g => q false u' tb' tk' H' w R (.inr ⟨rfl, by omega, fun r => by rw [rm r, hd, List.cons_append, g]⟩)
  cases hv with
  | @ite c c1 c2 ve e vs ws tt ff hc he ht hT hf hF =>
    refine ⟨_, rfl, c, _, 0, .str "if", rfl, rfl, SqT.of hc, atI_nat (j := 0) rfl, rfl, _, rfl, iteN b7 ?_⟩
    refine ⟨_, rfl, c, _, 0, .str "if", rfl, rfl, SqT.of hc, atI_nat (j := 0) rfl, rfl, _, rfl, iteS ?_⟩
    refine ⟨_, rfl, _, rfl, c, _, 1, ve, rfl, rfl, SqT.of hc, atI_nat (j := 1) rfl, _, rfl, rn, _, 1, .ref t, rfl, rfl, SqL.of R2.ob, atI_nat (j := 1) rfl, fun o fo => ?_⟩
    have so := same_upd (o := .dK []) fo
    refine ⟨_, rfl, rn, _, 2, .ref sa, rfl, rfl, SqL.of (so _ _ R2.ob), atI_nat (j := 2) rfl, ve, t, o, sa, e, ns, [], tb1, offB, sn, rfl, he.keep (keepT_of so), hzw.1.2, hzw.1.1, (R2.same so).tab.env upd_same, SqL.of (so _ _ R2.see), hBd, hsl, fun H3 s3 => ?_⟩
    have s23 := so.trans s3
    have k3 := keepT_of s23
    have R3 := R2.same s23
    have w3 := w2.trans (b3_of s23)
    obtain ⟨cv, cs, gi, gv, glv, gw, grm⟩ : ∃ (cv : V) (cs : List Bt), atI [V.str "if", ve, .ref c1, .ref c2] (3 - (if (!decide (V.int (e.val tb1 offB sn) = V.int 0)) = true then 1 else 0)) = some cv ∧ Bx H3 cv cs ∧ blv cs < n ∧ bwL ns cs ∧ ∀ r, runM sn (flR rs) (v + 1) (.ite e tt ff :: r) tb1 tk1 = runM sn (flR rs) v (cs ++ r) tb1 tk1 := by
      have lz : max (blv tt) (blv ff) + 1 ≤ blv ss := hzl
      by_cases g : (!decide (V.int (e.val tb1 offB sn) = V.int 0)) = true
      · rw [if_pos g]
        refine ⟨.ref c1, tt, atI_nat (j := 2) rfl, ⟨c1, vs, rfl, k3 _ _ ht, hT.keep k3⟩, by omega, hzw.2.1, fun r => ?_⟩
        show runM sn (flR rs) v ((if e.val tb1 offB sn ≠ 0 then tt else ff) ++ r) tb1 tk1 = _
        rw [if_pos (ne_int g)]
      · rw [if_neg g]
        refine ⟨.ref c2, ff, atI_nat (j := 3) rfl, ⟨c2, ws, rfl, k3 _ _ hf, hF.keep k3⟩, by omega, hzw.2.2, fun r => ?_⟩
        show runM sn (flR rs) v ((if e.val tb1 offB sn ≠ 0 then tt else ff) ++ r) tb1 tk1 = _
        rw [if_neg (fun z => z (eq_int g))]
    refine ⟨rfl, .inr ⟨_, rfl, _, _, rfl, rfl, c, _, _, cv, rfl, rfl, SqT.of (k3 _ _ hc), gi, ?_⟩⟩
    refine ⟨_, rfl, _, rfl, rn, t, sa, rl, tl, ns, v, tb1, sn, rs, tk1, cv, cs, rfl, R3, gv, glv, gw, hBd, hsl, by omega, by omega, fun ok u' tb' tk' H4 w4 R4 RR => ⟨ok, rfl, ?_⟩⟩
    rcases RR with ⟨rfl, v', rfl, l1, l2, g⟩ | ⟨rfl, l, g⟩
    · refine iteF ?_
      exact go _ _ v' tb' tk' ⟨_, _, _, _, _, rfl⟩ (w3.trans w4) R4 l1 (by omega) (fun r => by rw [grm, g])
    · refine iteT ?_
      exact bad u' tb' tk' H4 (w3.trans w4) R4 (by omega) (fun r => by rw [grm, g])
  | @whl c c1 ve e vs tt hc he ht hT =>
    have lz : blv tt + 1 ≤ blv ss := hzl
    refine ⟨_, rfl, c, _, 0, .str "while", rfl, rfl, SqT.of hc, atI_nat (j := 0) rfl, rfl, _, rfl, iteS ?_⟩
    refine ⟨_, rfl, rn, _, 0, .int v, rfl, rfl, SqL.of R2.ob, atI_nat (j := 0) rfl, _, _, rfl, rfl, ((v : Nat) : Int) + 1, rfl, by omega, by omega, for_range (fun j σ' H' => ∃ (y1 y2 y3 y4 y5 : Option V) (vj : Nat) (tbj : Str → Int) (tkj : List (Int × Int)), σ' = [some (.ref rn), some (.ref bl), some (.ref c), y2, y3, y4, y5] ∧ y1 = y1 ∧ B3 rn t tl H H' ∧ RunS H' rn t sa rl tl ns vj tbj sn rs tkj ∧ KeepT H2 H' ∧ vj + j ≤ v ∧ tkj.length + vj ≤ tk1.length + v + 1 ∧ ∀ r, runM sn (flR rs) (v + 1) (.whl e tt :: r) tb1 tk1 = (if e.val tbj offB sn ≠ 0 then runM sn (flR rs) vj (tt ++ .whl e tt :: r) tbj tkj else runM sn (flR rs) vj r tbj tkj))
      ⟨none, _, _, _, _, v, tb1, tk1, rfl, rfl, w2, R2, KeepT.refl _, Nat.le_refl _, by omega, fun r => rfl⟩ ?_ ?_⟩
    rotate_left
    · rintro σ' H' ⟨y1', y2', y3', y4', y5', vj, tbj, tkj, rfl, _, wj, Rj, kj, lj, ltj, gj⟩
      omega
    rintro j σ3 H3 hj ⟨y1', y2', y3', y4', y5', vj, tbj, tkj, rfl, _, wj, Rj, kj, lj, ltj, gj⟩
    refine ⟨_, rfl, c, _, 1, ve, rfl, rfl, SqT.of (kj _ _ hc), atI_nat (j := 1) rfl, _, rfl, rn, _, 1, .ref t, rfl, rfl, SqL.of Rj.ob, atI_nat (j := 1) rfl, fun o fo => ?_⟩
    have so := same_upd (o := .dK []) fo
    refine ⟨_, rfl, rn, _, 2, .ref sa, rfl, rfl, SqL.of (so _ _ Rj.ob), atI_nat (j := 2) rfl, ve, t, o, sa, e, ns, [], tbj, offB, sn, rfl, (he.keep kj).keep (keepT_of so), hzw.1.2, hzw.1.1, (Rj.same so).tab.env upd_same, SqL.of (so _ _ Rj.see), hBd, hsl, fun H4 s4 => ?_⟩
    have s34 := so.trans s4
    have k4 := kj.trans (keepT_of s34)
    have R4 := Rj.same s34
    have w4 := wj.trans (b3_of s34)
    refine ⟨rfl, _, rfl, ite2 (fun cc => ?_) (fun cc => ?_)⟩
    · have cc' : e.val tbj offB sn = 0 := V.int.inj (of_decide_eq_true cc)
      exact go _ _ vj tbj tkj ⟨_, _, _, _, _, rfl⟩ w4 R4 (by omega) (by omega) (fun r => by rw [gj r, if_neg (fun z => z cc')])
    · have cc' : e.val tbj offB sn ≠ 0 := fun z => cc (decide_eq_true (congrArg V.int z))
      refine ⟨_, rfl, _, rfl, c, _, 2, .ref c1, rfl, rfl, SqT.of (k4 _ _ hc), atI_nat (j := 2) rfl, rn, t, sa, rl, tl, ns, vj, tbj, sn, rs, tkj, .ref c1, tt, rfl, R4, ⟨c1, vs, rfl, k4 _ _ ht, hT.keep k4⟩, by omega, hzw.2, hBd, hsl, by omega, by omega, fun ok u' tb' tk' H5 w5 R5 RR => ⟨ok, rfl, ?_⟩⟩
      rcases RR with ⟨rfl, v', rfl, l1, l2, g⟩ | ⟨rfl, l, g⟩
      · refine iteF ?_
        refine ⟨_, rfl, rn, t, sa, rl, tl, v', rfl, R5.ob, fun bb eb => ⟨bb, rfl, ?_⟩⟩
        cases v' with
        | zero =>
          subst eb
          refine iteT ?_
          exact bad _ tb' tk' _ ((w4.trans w5).trans (b3_a but_upd)) (R5.unit _) (by omega) (fun r => by rw [gj r, if_pos cc', g]; rfl)
        | succ v' =>
          obtain rfl : bb = true := by rw [eb]; exact decide_eq_true (by omega)
          refine iteF ?_
          have e2 : (((v' + 1 : Nat) : Int)) - 1 = (v' : Int) := by omega
          rw [e2]
          refine ⟨none, _, _, _, _, v', tb', tk', rfl, rfl, (w4.trans w5).trans (b3_a but_upd), R5.unit _, (k4.trans (R4.keepT w5)).trans (R5.keepT (b3_a but_upd)), by omega, by omega, fun r => ?_⟩
          rw [gj r, if_pos cc', g]
          rfl
      · refine iteT ?_
        exact bad u' tb' tk' H5 (w4.trans w5) R5 (by omega) (fun r => by rw [gj r, if_pos cc', g])
  | @set c x ve e hc he =>
    refine ⟨_, rfl, c, _, 0, .str "set", rfl, rfl, SqT.of hc, atI_nat (j := 0) rfl, rfl, _, rfl, iteN b3 ?_⟩
    refine ⟨_, rfl, c, _, 0, .str "set", rfl, rfl, SqT.of hc, atI_nat (j := 0) rfl, rfl, _, rfl, iteN b2 ?_⟩
    refine ⟨_, rfl, c, _, 2, ve, rfl, rfl, SqT.of hc, atI_nat (j := 2) rfl, _, rfl, rn, _, 1, .ref t, rfl, rfl, SqL.of R2.ob, atI_nat (j := 1) rfl, fun o fo => ?_⟩
    have so := same_upd (o := .dK []) fo
    refine ⟨_, rfl, rn, _, 2, .ref sa, rfl, rfl, SqL.of (so _ _ R2.ob), atI_nat (j := 2) rfl, ve, t, o, sa, e, ns, [], tb1, offB, sn, rfl, he.keep (keepT_of so), hzw.2.2, hzw.2.1, (R2.same so).tab.env upd_same, SqL.of (so _ _ R2.see), hBd, hsl, fun H3 s3 => ?_⟩
    have s23 := so.trans s3
    have k3 := keepT_of s23
    have R3 := R2.same s23
    have w3 := w2.trans (b3_of s23)
    have hc3 := k3 _ _ hc
    refine ⟨fun σ' H' => σ' = [some (.ref rn), some (.ref bl), some (.ref c), y2, y3, some (.int (e.val tb1 offB sn)), y5] ∧ H' = H3, ?_, ?_⟩
    · refine ⟨_, rfl, c, _, 0, .str "set", rfl, rfl, SqT.of hc3, atI_nat (j := 0) rfl, rfl, _, rfl, iteN b6 ⟨rfl, rfl⟩⟩
    rintro σ4 H4 ⟨rfl, rfl⟩
    obtain ⟨kvs, e1, e2, e3, e4⟩ := R3.tab
    refine ⟨_, rfl, rn, _, 1, .ref t, rfl, rfl, SqL.of R3.ob, atI_nat (j := 1) rfl, ?_⟩
    refine ⟨_, rfl, _, rfl, _, rfl, c, _, 1, .str x, rfl, rfl, SqT.of hc3, atI_nat (j := 1) rfl, t, _, rfl, DPut.k (k := .inr x) e1 (small1000 (by omega)), ?_⟩
    exact go _ _ v _ tk1 ⟨_, _, _, _, _, rfl⟩ (w3.trans (b3_d but_upd)) (R3.table but_upd (DT.put e2 e3 e4 hzw.1 (val_bd R3.tab.bd hBd e hzw.2.1) upd_same)) (Nat.le_refl _) (by omega) (fun r => rfl)
  | @lot c x ve e hc he =>
    refine ⟨_, rfl, c, _, 0, .str "lot", rfl, rfl, SqT.of hc, atI_nat (j := 0) rfl, rfl, _, rfl, iteN b5 ?_⟩
    refine ⟨_, rfl, c, _, 0, .str "lot", rfl, rfl, SqT.of hc, atI_nat (j := 0) rfl, rfl, _, rfl, iteN b4 ?_⟩
    refine ⟨_, rfl, c, _, 2, ve, rfl, rfl, SqT.of hc, atI_nat (j := 2) rfl, _, rfl, rn, _, 1, .ref t, rfl, rfl, SqL.of R2.ob, atI_nat (j := 1) rfl, fun o fo => ?_⟩
    have so := same_upd (o := .dK []) fo
    refine ⟨_, rfl, rn, _, 2, .ref sa, rfl, rfl, SqL.of (so _ _ R2.ob), atI_nat (j := 2) rfl, ve, t, o, sa, e, ns, [], tb1, offB, sn, rfl, he.keep (keepT_of so), hzw.2.2, hzw.2.1, (R2.same so).tab.env upd_same, SqL.of (so _ _ R2.see), hBd, hsl, fun H3 s3 => ?_⟩
    have s23 := so.trans s3
    have k3 := keepT_of s23
    have R3 := R2.same s23
    have w3 := w2.trans (b3_of s23)
    have hc3 := k3 _ _ hc
    have vb := val_bd R3.tab.bd hBd e hzw.2.1 (on := offB)
    refine ⟨fun σ' H' => ∃ (vl : Int) (tk2 : List (Int × Int)), σ' = [some (.ref rn), some (.ref bl), some (.ref c), y2, y3, some (.int vl), y5] ∧ B3 rn t tl H H' ∧ RunS H' rn t sa rl tl ns v tb1 sn rs tk2 ∧ KeepT H3 H' ∧ tk2.length ≤ tk1.length + 1 ∧ Bd vl ∧ ∀ r, runM sn (flR rs) (v + 1) (.lot x e :: r) tb1 tk1 = runM sn (flR rs) v r (putT tb1 x vl) tk2, ?_, ?_⟩
    · refine ⟨_, rfl, c, _, 0, .str "lot", rfl, rfl, SqT.of hc3, atI_nat (j := 0) rfl, rfl, _, rfl, iteS ?_⟩
      refine ⟨_, rfl, _, _, rfl, rfl, _, rfl, ite2 (fun cc => ?_) (fun cc => ?_)⟩
      · have cc' : 0 < e.val tb1 offB sn := of_decide_eq_true cc
        obtain ⟨ws, f1, f2⟩ := R3.tak
        refine ⟨_, rfl, rn, _, 3, .ref rl, rfl, rfl, SqL.of R3.ob, atI_nat (j := 3) rfl, _, rfl, rn, _, 4, .ref tl, rfl, rfl, SqL.of R3.ob, atI_nat (j := 4) rfl, _, rfl, rl, tl, _, rs, ws, tk1, rfl, R3.res, f1, f2, cc', by omega, fun H4 ws4 b4 e4 p4 => ?_⟩
        refine ⟨_, _, rfl, w3.trans (b3_t b4), R3.fall b4 e4 p4, R3.keepT (b3_t b4), by rw [List.length_append]; exact Nat.le_refl _, takeK_bd cc' vb, fun r => ?_⟩
        show (if 0 < e.val tb1 offB sn then _ else _) = _
        rw [if_pos cc']
      · have cc' : ¬ 0 < e.val tb1 offB sn := fun z => cc (decide_eq_true z)
        refine ⟨_, tk1, rfl, w3, R3, KeepT.refl _, by omega, vb, fun r => ?_⟩
        show (if 0 < e.val tb1 offB sn then _ else _) = _
        rw [if_neg cc']
    rintro σ4 H4 ⟨vl, tk2, rfl, w4, R4, k4, l4, b4', g4⟩
    have hc4 := k4 _ _ hc3
    obtain ⟨kvs, e1, e2, e3, e4⟩ := R4.tab
    refine ⟨_, rfl, rn, _, 1, .ref t, rfl, rfl, SqL.of R4.ob, atI_nat (j := 1) rfl, ?_⟩
    refine ⟨_, rfl, _, rfl, _, rfl, c, _, 1, .str x, rfl, rfl, SqT.of hc4, atI_nat (j := 1) rfl, t, _, rfl, DPut.k (k := .inr x) e1 (small1000 (by omega)), ?_⟩
    exact go _ _ v _ tk2 ⟨_, _, _, _, _, rfl⟩ (w4.trans (b3_d but_upd)) (R4.table but_upd (DT.put e2 e3 e4 hzw.1 b4' upd_same)) (Nat.le_refl _) (by omega) g4
theorem ok_law_run (T : Txt K mg w) : ∀ n, FnOk P w K mg base CX0 (14 + n) T.a_law_run T.d_law_run ["run", "block"] (sp_law_run T n)
  | 0 => ⟨fun vs H Q E h => absurd h (no_law_run T vs H Q E), fun A outer s H args us vs Q E _ _ _ _ h => absurd h (no_law_run T vs H Q E)⟩
  | n + 1 => step_law_run T (ok_law_run T n)
/-! ### _law_think -/
/-- what a move comes to, with the units that are left -/
def OutcL (sn : List Int) (fl : Nat → Int → Int) (u : Nat) (ss : List Bt) (ns : List Str) (xs : List Int) (an : Ex) (n : Int) (mv lf : Int) (zs : List Int) (tk : List (Int × Int)) : Prop :=
  (runM sn fl u ss (tb0 ns xs) [] = .out tk ∧ mv = 0 ∧ lf = -1 ∧ zs = xs) ∨ ∃ u' tb, runM sn fl u ss (tb0 ns xs) [] = .done u' tb tk ∧ mv = (if an.val tb offB sn < n then an.val tb offB sn else 0) ∧ lf = (u : Int) - (u' : Int) ∧ zs = ns.map tb
def sp_law_think (T : Txt K mg w) : Sp := fun vs H Q _ => ∃ (br ca bl be vw rl tl : Addr) (u : Nat) (av : V) (cv ws us : List V) (cs : List (Str × Int)) (ss : List Bt) (an : Ex) (xs : List Int) (es : List Evt) (n : Int) (rs : List Int), vs = [.ref br, .ref be, .ref vw, .int n, .ref rl, .ref tl] ∧ LBr H br ca bl u av cv us cs ss an ∧ LBw cs ss an ∧ u ≤ 65535 ∧ H be = some (.tup (xs.map V.int)) ∧ xs.length = cs.length ∧ (∀ n ∈ xs, Bd n) ∧ H vw = some (.tup ws) ∧ Paired (VwV H) ws es ∧ es.length ≤ 25 ∧ (∀ n ∈ seenL es, Bd n) ∧ H rl = some (.lst (rs.map V.int)) ∧ H tl = some (.lst []) ∧ rl ≠ tl ∧
  ∀ (p r : Addr) (mv lf : Int) (zs : List Int) (tk : List (Int × Int)) (ws' : List V) (H' : Hp), But tl H H' → H' tl = some (.lst ws') → Paired (TupV H') ws' tk → H' p = some (.tup [.int mv, .ref r, .int lf]) → H' r = some (.tup (zs.map V.int)) → tk.length ≤ 65535 → OutcL (seenL es) (flR rs) u ss (cs.map (·.1)) xs an n mv lf zs tk → Q (.ref p) H'

theorem ok_law_think (T : Txt K mg w) : FnOk P w K mg base CX0 24 T.a_law_think T.d_law_think ["brain", "cells", "view", "count", "results", "taken"] (sp_law_think T) := by
  refine T.F_law_think.ok sc_law_think (fun vs H Q E h => ?_) (fun cdv A outer s H vs Q E hr h => ?_)
  · obtain ⟨br, ca, bl, be, vw, rl, tl, u, av, cv, ws, us, cs, ss, an, xs, es, n, rs, rfl, _⟩ := h
    rfl
  obtain ⟨br, ca, bl, be, vw, rl, tl, u, av, cv, ws, us, cs, ss, an, xs, es, n, rs, rfl, hL, hw, hu, he, hl, hx, hv, hpv, hle, hB, hrl, htl, nrt, q⟩ := h
  refine ⟨_, (pss_cons (ps_set (i := 6) sc_law_think.nd rfl (by first | exact Or.inl rfl | exact Or.inr rfl) pe_dnewK)
      (pss_cons (ps_for PassesOwn.never rfl (pi_range1 (by rfl) T.z_range (pa_cons (pe_callB call_len_seq (by rfl) T.z_len (by first | exact PySem.boot_len | decide +kernel) (pa_cons (pv 1) pa_nil)) pa_nil)) (pg_name (i := 7) sc_law_think.nd rfl (by first | exact Or.inl rfl | exact Or.inr rfl)) (pss_one (ps_asg (pe_ix ix_tup (pv 1) (pv 7) (fun _ _ => rfl)) (pg_sub (pv 6) (pe_ix ix_tup (pe_ix ix_tup (pe_ix ix_tup (pv 0) pe_int (fun _ _ => rfl)) (pv 7) (fun _ _ => rfl)) pe_int (fun _ _ => rfl)) (set_dict (d_room hr))))))
      (pss_cons (ps_set (i := 8) sc_law_think.nd rfl (by first | exact Or.inl rfl | exact Or.inr rfl) (pe_lst (pa_cons (pe_ix ix_tup (pv 0) pe_int (fun _ _ => rfl)) (pa_cons (pv 6) (pa_cons (pe_call (ok_law_seen T) (hr.mono (by decide)) (by rfl) T.m_law_seen T.F_law_seen.kp T.b_law_seen .nil pass0 (pa_cons (pv 2) pa_nil)) (pa_cons (pv 4) (pa_cons (pv 5) pa_nil)))))))
      (pss_cons (ps_if (pt_not (pt_truth (pe_call (ok_law_run T 9) (hr.mono (by decide)) (by rfl) T.m_law_run T.F_law_run.kp T.b_law_run .nil pass0 (pa_cons (pv 8) (pa_cons (pe_ix ix_tup (pv 0) pe_int (fun _ _ => rfl)) pa_nil))) (fun _ => rfl))) (pss_one (ps_ret (pe_tup (pa_cons pe_int (pa_cons (pe_callTy call_tuple_of (by rfl) T.z_tuple (by first | exact PySem.boot_tuple | decide +kernel) (pa_cons (pv 1) pa_nil)) (pa_cons (pe_un un_neg pe_int) pa_nil)))))) pss_nil)
      (pss_cons (ps_set (i := 9) sc_law_think.nd rfl (by first | exact Or.inl rfl | exact Or.inr rfl) (pe_call (ok_law_value T 13) (hr.mono (by decide)) (by rfl) T.m_law_value T.F_law_value.kp T.b_law_value .nil pass0 (pa_cons (pe_ix ix_tup (pv 0) pe_int (fun _ _ => rfl)) (pa_cons (pv 6) (pa_cons pe_dnewK (pa_cons (pe_ix ix_list (pv 8) pe_int (fun _ _ => rfl)) pa_nil))))))
      (C8.pss_cut (ps_if (pt_cmpR op_ge (pv 9) (pv 3) (nomark _)) (pss_one (ps_set (i := 9) sc_law_think.nd rfl (by first | exact Or.inl rfl | exact Or.inr rfl) pe_int)) pss_nil)
      (pss_one (ps_ret (pe_tup (pa_cons (pv 9) (pa_cons (pe_callTy call_tuple_of (by rfl) T.z_tuple (by first | exact PySem.boot_tuple | decide +kernel) (pa_cons (pe_lc (own := [("row", 10)]) (g := gName 10) (tt := tYes) rfl sc_law_think.nd (pi_tup (pe_ix ix_tup (pv 0) pe_int (fun _ _ => rfl))) (blkOk_by (N := N_law_think) (sc := defScope s_law_think) (by decide +kernel)) (fun _ _ _ _ _ => (pg_name (i := 10) sc_law_think.nd rfl (by first | exact Or.inl rfl | exact Or.inr rfl))) (fun _ _ _ _ _ => pts_nil) (fun _ _ _ _ _ => (pe_dget (d_room hr) (pv 6) (pe_ix (show IxR _ (rIxT K) from ix_tup) (pv 10) pe_int (fun _ _ => rfl)) (fun _ _ => rfl)))) pa_nil)) (pa_cons (pe_op op_sub (pe_ix ix_tup (pv 0) pe_int (fun _ _ => rfl)) (pe_ix ix_list (pv 8) pe_int (fun _ _ => rfl))) pa_nil)))))))))))), ?_⟩
  refine fun t ft => ?_
  have st := same_upd (o := .dK []) ft
  have l8 := hw.l8
  have cvl : cv.length = cs.length := Paired.length hL.pc
  refine ⟨_, rfl, be, _, rfl, .inr (SqT.of (st _ _ he)), ((cs.length : Nat) : Int), by rw [List.length_map, hl], by omega, by omega, for_range (fun i σ' H' => ∃ (y : Option V) (kvs : List (Key × V)), σ' = [some (.ref br), some (.ref be), some (.ref vw), some (.int n), some (.ref rl), some (.ref tl), some (.ref t), y, none, none, none] ∧ Same H H' ∧ H' t = some (.dK kvs) ∧ DTI (cs.map (·.1)) (tb0 (cs.map (·.1)) xs) i kvs) ⟨_, [], rfl, st, upd_same, DTI.nil⟩ ?_ ?_⟩
  · rintro i σ1 H1 hi ⟨y, kvs, rfl, s1, e1, d1⟩
    have il : i < cs.length := by omega
    obtain ⟨tc, htc⟩ : ∃ tc, cs[i]? = some tc := ⟨_, List.getElem?_eq_getElem il⟩
    obtain ⟨U', hU', U, rfl, hU⟩ := pget' hL.pc htc
    obtain ⟨m, hm⟩ : ∃ m, xs[i]? = some m := ⟨_, List.getElem?_eq_getElem (by omega)⟩
    have hx1 : (cs.map (·.1))[i]? = some tc.1 := by rw [List.getElem?_map, htc]; rfl
    have ik : (0 : Int) + (i : Int) = ((i : Nat) : Int) := Int.zero_add _
    rw [ik]
    refine ⟨_, rfl, _, rfl, be, _, _, .int m, rfl, rfl, SqT.of (s1 _ _ he), at_ofG (j := i) rfl (by rw [List.getElem?_map, hm]; rfl), ?_⟩
    refine ⟨_, rfl, _, rfl, br, _, 1, .ref ca, rfl, rfl, SqT.of (s1 _ _ hL.ob), atI_nat (j := 1) rfl, _, rfl, ca, _, _, .ref U, rfl, rfl, SqT.of (s1 _ _ hL.ca), at_ofG (j := i) rfl hU', U, _, 0, .str tc.1, rfl, rfl, SqT.of (s1 _ _ hU), atI_nat (j := 0) rfl, t, _, rfl, DPut.k (k := .inr tc.1) e1 (small1000 (by rw [d1.len]; omega)), ?_⟩
    refine ⟨_, _, rfl, fun c o e => ?_, upd_same, d1.put hw.nd hx1 (tb0_at hw.nd hx1 hm)⟩
    rw [upd_ne (ne_of_none e ft)]
    exact s1 _ _ e
  rintro σ1 H1 ⟨y, kvs, rfl, s1, e1, d1⟩
  have dt : DT H1 t (cs.map (·.1)) (tb0 (cs.map (·.1)) xs) := DTI.dt e1 (by rw [List.length_map]; omega) (by rw [List.length_map]; exact d1) (fun x _ => tb0_bd hx)
  refine ⟨_, rfl, br, _, 0, .int u, rfl, rfl, SqT.of (s1 _ _ hL.ob), atI_nat (j := 0) rfl, _, rfl, _, rfl, vw, ws, es, rfl, s1 _ _ hv, L2.Paired.mapP hpv fun _ _ z => z.keep (keepT_of s1), by omega, fun sa H2 s2 fsa hsa => ?_⟩
  refine ⟨_, rfl, _, rfl, by show 5 ≤ sizeLine; decide, fun rn frn => ?_⟩
  have s12 := s1.trans s2
  have s3 := same_upd (o := .lst [V.int u, .ref t, .ref sa, .ref rl, .ref tl]) frn
  have s13 := s12.trans s3
  have frn0 : H rn = none := s12.free frn
  have fsa0 : H sa = none := s1.free fsa
  have RS : RunS (upd H2 rn (.lst [V.int u, .ref t, .ref sa, .ref rl, .ref tl])) rn t sa rl tl (cs.map (·.1)) u (tb0 (cs.map (·.1)) xs) (seenL es) rs [] :=
    ⟨upd_same, dt.same (s2.trans s3), s3 _ _ hsa, s13 _ _ hrl, ⟨[], s13 _ _ htl, .nil⟩, (ne_of_none hsa frn).symm, (ne_of_none hrl frn0).symm, (ne_of_none htl frn0).symm, (ne_of_none htl fsa0).symm, nrt⟩
  have L3 := hL.keep (keepT_of s13)
  have lsn : (seenL es).length ≤ 100 := by rw [seenL_len]; omega
  refine ⟨_, rfl, _, rfl, br, _, 2, .ref bl, rfl, rfl, SqT.of L3.ob, atI_nat (j := 2) rfl, rn, t, sa, rl, tl, cs.map (·.1), u, _, seenL es, rs, [], .ref bl, ss, rfl, RS, ⟨bl, us, rfl, L3.bl, L3.bb⟩, by have := hw.lv; omega, hw.bw, hB, lsn, hu, by show 0 + u ≤ _; omega, fun ok u' tb' tk' H4 w4 R4 RR => ⟨ok, rfl, ?_⟩⟩
  have k4 := RS.keepT w4
  have L4 := L3.keep k4
  have b4 : But tl H H4 := fun c o nc e => w4 c o (ne_of_none e frn0) (ne_of_none e ft) nc (s13 _ _ e)
  rcases RR with ⟨rfl, v', rfl, l1, l2, g⟩ | ⟨rfl, l, g⟩
  rotate_left
  · refine iteT ?_
    have he4 := k4 _ _ (s13 _ _ he)
    obtain ⟨ws4, t1, t2⟩ := R4.tak
    refine ⟨_, rfl, be, _, rfl, .inr ⟨SqT.of he4, ?_⟩⟩
    refine ⟨1, rfl, by show 3 ≤ sizeLine; decide, fun p fp => ?_⟩
    have s5 := same_upd (o := .tup [V.int 0, .ref be, .int (-1)]) fp
    refine q p be 0 (-1) xs tk' ws4 _ (b4.trans (but_of s5)) (s5 _ _ t1) (L2.Paired.mapP t2 fun _ _ z => z.keep (keepT_of s5)) upd_same (s5 _ _ he4) (by show tk'.length ≤ 65535; have : tk'.length ≤ 0 + u := l; omega) (.inl ⟨?_, rfl, rfl, rfl⟩)
    have := g []
    rw [List.append_nil] at this
    exact this
  refine iteF ?_
  refine ⟨_, rfl, br, _, 3, av, rfl, rfl, SqT.of L4.ob, atI_nat (j := 3) rfl, _, rfl, fun o fo => ?_⟩
  have so := same_upd (o := .dK []) fo
  have R5 := R4.same so
  refine ⟨_, rfl, rn, _, 2, .ref sa, rfl, rfl, SqL.of R5.ob, atI_nat (j := 2) rfl, av, t, o, sa, an, cs.map (·.1), [], tb', offB, seenL es, rfl, L4.an.keep (keepT_of so), by have := hw.ad; omega, hw.aw, R5.tab.env upd_same, SqL.of R5.see, hB, lsn, fun H6 s6 => ?_⟩
  have R6 := R5.same s6
  have L6 := L4.keep (keepT_of (so.trans s6))
  have b6 := b4.trans (but_of (so.trans s6))
  have rmd : runM (seenL es) (flR rs) u ss (tb0 (cs.map (·.1)) xs) [] = .done v' tb' tk' := by
    have := g []
    rw [List.append_nil, runM_nil] at this
    exact this
  refine ⟨fun σ' H' => ∃ (mv : Int), σ' = [some (.ref br), some (.ref be), some (.ref vw), some (.int n), some (.ref rl), some (.ref tl), some (.ref t), y, some (.ref rn), some (.int mv), none] ∧ H' = H6 ∧ mv = (if an.val tb' offB (seenL es) < n then an.val tb' offB (seenL es) else 0), ?_, ?_⟩
  · refine ⟨_, rfl, _, rfl, _, _, rfl, rfl, _, rfl, ite2 (fun c => ?_) (fun c => ?_)⟩
    · exact ⟨_, rfl, rfl, (if_neg (by have := of_decide_eq_true c; omega)).symm⟩
    · exact ⟨_, rfl, rfl, (if_pos (by have : ¬ (n ≤ an.val tb' offB (seenL es)) := fun z => c (decide_eq_true z); omega)).symm⟩
  rintro σ7 H7 ⟨mv, rfl, rfl, hmv⟩
  obtain ⟨kv, g1, g2, g3, g4⟩ := R6.tab
  refine ⟨_, rfl, _, rfl, br, _, 1, .ref ca, rfl, rfl, SqT.of L6.ob, atI_nat (j := 1) rfl, ca, rfl, ⟨_, SqT.of L6.ca⟩, fun D hD => ?_⟩
  refine lc_tup (a := ca) (xs := cv) (fun i H2 => Same H7 H2 ∧ H2 D = some (.lst ((((cs.map (·.1)).map tb').take i).map V.int))) ⟨same_upd hD, upd_same⟩ (fun i H2 _ h => SqT.of (h.1 _ _ L6.ca)) (fun i v H2 hv h => ?_) (fun H2 h => ?_)
  · obtain ⟨s2, d2⟩ := h
    obtain ⟨tc, ht, U, rfl, hU⟩ := pget L6.pc hv
    have il : i < cs.length := (List.getElem?_eq_some_iff.mp ht).1
    have mt : tc.1 ∈ cs.map (·.1) := List.mem_map.mpr ⟨tc, List.mem_of_getElem? ht, rfl⟩
    refine ⟨rfl, ?_⟩
    refine ⟨_, rfl, _, rfl, U, _, 0, .str tc.1, rfl, rfl, SqT.of (s2 _ _ hU), atI_nat (j := 0) rfl, t, _, rfl, dget_of (s2 _ _ g1) (g4 tc.1 mt).1, ?_⟩
    refine ⟨_, d2, ?_, fun c o e => ?_, ?_⟩
    · rw [List.length_map, List.length_take, List.length_map, List.length_map]
      exact small1000 (by omega)
    · rw [upd_ne (ne_of_none e hD)]
      exact s2 _ _ e
    · rw [upd_same, List.take_add_one, List.getElem?_map, List.getElem?_map, ht]
      show some (HO.lst _) = some (HO.lst (List.map V.int (_ ++ [tb' tc.1])))
      rw [List.map_append]
      rfl
  obtain ⟨s8, d8⟩ := h
  have lc : cv.length = ((cs.map (·.1)).map tb').length := by rw [List.length_map, List.length_map]; exact cvl
  rw [lc, List.take_of_length_le (Nat.le_refl _)] at d8
  refine ⟨D, _, rfl, .inl ⟨SqL.of d8, fun r fr => ?_⟩⟩
  have s9 := same_upd (o := .tup (((cs.map (·.1)).map tb').map V.int)) fr
  have s79 := s8.trans s9
  have R9 := R6.same s79
  refine ⟨_, rfl, br, _, 0, .int u, rfl, rfl, SqT.of (s79 _ _ L6.ob), atI_nat (j := 0) rfl, _, rfl, rn, _, 0, .int v', rfl, rfl, SqL.of R9.ob, atI_nat (j := 0) rfl, _, _, rfl, rfl, by show 3 ≤ sizeLine; decide, fun p fp => ?_⟩
  have sp := same_upd (o := .tup [V.int mv, .ref r, .int ((u : Int) - (v' : Int))]) fp
  obtain ⟨ws4, t1, t2⟩ := (R9.same sp).tak
  exact q p r mv _ _ tk' ws4 _ (b6.trans (but_of (s79.trans sp))) t1 t2 upd_same (sp _ _ upd_same) (by have : tk'.length + v' ≤ 0 + u := l2; omega) (.inr ⟨v', tb', rmd, hmv, rfl, rfl⟩)
/-! ### _law_view -/
def sp_law_view (T : Txt K mg w) : Sp := fun vs H Q _ => ∃ (p c : Addr) (b : Int), vs = [.ref p] ∧ Pool H p c b ∧ ∀ (vw : Addr) (ws : List V) (es : List Evt) (H' : Hp), But p H H' → Pool H' p c b → H' vw = some (.tup ws) → Paired (VwV H') ws es → es.length ≤ 25 → (∀ n ∈ seenL es, Bd n) → Q (.ref vw) H'

theorem ok_law_view (T : Txt K mg w) : FnOk P w K mg base CX0 3 T.a_law_view T.d_law_view ["pool"] (sp_law_view T) := by
  refine T.F_law_view.ok sc_law_view (fun vs H Q E h => ?_) (fun cdv A outer s H vs Q E hr h => ?_)
  · obtain ⟨p, c, b, rfl, _⟩ := h
    rfl
  obtain ⟨p, c, b, rfl, hP, q⟩ := h
  refine ⟨_, (pss_cons (ps_set (i := 1) sc_law_view.nd rfl (by first | exact Or.inl rfl | exact Or.inr rfl) (pe_lst (pa_cons (pe_tup (pa_cons pe_str (pa_cons pe_int pa_nil))) pa_nil)))
      (pss_cons (ps_for PassesOwn.never rfl (pi_range1 (by rfl) T.z_range (pa_cons (pe_call (ok_law_few T) (hr.mono (by decide)) (by rfl) T.m_law_few T.F_law_few.kp T.b_law_few .nil pass0 (pa_cons (pv 0) (pa_cons pe_int pa_nil))) pa_nil)) (pg_name (i := 2) sc_law_view.nd rfl (by first | exact Or.inl rfl | exact Or.inr rfl)) (pss_cons (ps_set (i := 3) sc_law_view.nd rfl (by first | exact Or.inl rfl | exact Or.inr rfl) (pe_call (ok_law_draw T) (hr.mono (by decide)) (by rfl) T.m_law_draw T.F_law_draw.kp T.b_law_draw .nil pass0 (pa_cons (pv 0) (pa_cons pe_int pa_nil))))
      (pss_one (ps_if (pt_cmpR op_eq (pv 3) pe_int (nomark _)) (pss_one (ps_expr (pe_bm PySem.F.plainAttrs_list PySem.F.slot_list_append PySem.F.type_list_append mt_append (pv 1) (pa_cons (pe_tup (pa_cons pe_str (pa_cons (pe_call (ok_law_draw T) (hr.mono (by decide)) (by rfl) T.m_law_draw T.F_law_draw.kp T.b_law_draw .nil pass0 (pa_cons (pv 0) (pa_cons pe_int pa_nil))) pa_nil))) pa_nil)))) (pss_one (ps_if (pt_cmpR op_eq (pv 3) pe_int (nomark _)) (pss_one (ps_expr (pe_bm PySem.F.plainAttrs_list PySem.F.slot_list_append PySem.F.type_list_append mt_append (pv 1) (pa_cons (pe_tup (pa_cons pe_str (pa_cons (pe_call (ok_law_number T) (hr.mono (by decide)) (by rfl) T.m_law_number T.F_law_number.kp T.b_law_number .nil pass0 (pa_cons (pv 0) pa_nil)) pa_nil))) pa_nil)))) (pss_cons (ps_set (i := 4) sc_law_view.nd rfl (by first | exact Or.inl rfl | exact Or.inr rfl) (pe_op op_add pe_int (pe_call (ok_law_draw T) (hr.mono (by decide)) (by rfl) T.m_law_draw T.F_law_draw.kp T.b_law_draw .nil pass0 (pa_cons (pv 0) (pa_cons pe_int pa_nil)))))
      (pss_one (ps_set (i := 1) sc_law_view.nd rfl (by first | exact Or.inl rfl | exact Or.inr rfl) (pe_op op_cat (pv 1) (pe_lst (pa_cons (pe_tup (pa_cons pe_str (pa_cons (pe_call (ok_law_draw T) (hr.mono (by decide)) (by rfl) T.m_law_draw T.F_law_draw.kp T.b_law_draw .nil pass0 (pa_cons (pv 0) (pa_cons pe_int pa_nil))) (pa_cons (pv 4) pa_nil)))) (pa_cons (pe_tup (pa_cons pe_str (pa_cons (pe_call (ok_law_draw T) (hr.mono (by decide)) (by rfl) T.m_law_draw T.F_law_draw.kp T.b_law_draw .nil pass0 (pa_cons (pv 0) (pa_cons (pv 4) pa_nil))) pa_nil))) pa_nil)))))))))))))
      (pss_one (ps_ret (pe_callTy call_tuple_of (by rfl) T.z_tuple (by first | exact PySem.boot_tuple | decide +kernel) (pa_cons (pv 1) pa_nil)))))), ?_⟩
  refine ⟨by show 2 ≤ sizeLine; decide, fun U fU => ⟨by show 1 ≤ sizeLine; decide, fun W fW => ?_⟩⟩
  have sU := same_upd (o := .tup [V.str "round", .int 0]) fU
  have sW := same_upd (o := .lst [V.ref U]) fW
  have s1 := sU.trans sW
  have P1 := hP.same s1
  have z0 : Bd 0 := ⟨by decide, by decide⟩
  refine ⟨_, rfl, p, c, 12, b, rfl, by decide, by decide, P1, fun m H2 m0 m1 b2 P2 => ?_⟩
  have fW0 : H W = none := sU.free fW
  have nW : W ≠ p := hP.ne fW0
  have free : ∀ {H' : Hp} {x : Addr}, But p H H' → Pool H' p c b → H' x = none → H x = none := fun {H' x} w P f => by
    cases z : H x with
    | none => rfl
    | some o =>
      have nx : x ≠ p := P.ne f
      rw [w x o nx z] at f
      cases f
  refine ⟨m, rfl, by omega, by omega, for_range (fun i σ' H' => ∃ (W : Addr) (ws : List V) (es : List Evt) (y1 y2 y3 : Option V), σ' = [some (.ref p), some (.ref W), y1, y2, y3] ∧ But p H H' ∧ Pool H' p c b ∧ H W = none ∧ H' W = some (.lst ws) ∧ Paired (VwV H') ws es ∧ es.length ≤ 1 + 2 * i ∧ ∀ n ∈ seenL es, Bd n)
    ⟨W, [.ref U], [(0, 0, 0)], _, _, _, rfl, (but_of s1).trans b2, P2, fW0, b2 _ _ nW upd_same, .cons ⟨by decide, U, rfl, (P1.keepT b2) _ _ (sW _ _ upd_same)⟩ .nil, Nat.le_refl _, ?_⟩ ?_ ?_⟩
  · intro n hn
    rcases List.mem_cons.mp hn with rfl | hn
    · exact ⟨by decide, by decide⟩
    rcases List.mem_cons.mp hn with rfl | hn
    · exact z0
    rcases List.mem_cons.mp hn with rfl | hn
    · exact z0
    cases hn
  · rintro i σ3 H3 hi ⟨W, ws, es, y1, y2, y3, rfl, w3, P3, fW, e3, p3, l3, d3⟩
    have pl := Paired.length p3
    have nW := hP.ne fW
    have nWc := hP.ne2 fW
    have snoc : ∀ {e : Evt}, (∀ n ∈ seen1 e, Bd n) → ∀ n ∈ seenL (es ++ [e]), Bd n := fun h n m => by
      rw [seenL_snoc] at m
      exact (List.mem_append.mp m).elim (d3 n) (h n)
    have one : ∀ {a b c : Int}, Bd a → Bd b → Bd c → ∀ n ∈ [a, b, c], Bd n := fun ha hb hc n m => by
      rcases List.mem_cons.mp m with rfl | m
      · exact ha
      rcases List.mem_cons.mp m with rfl | m
      · exact hb
      rcases List.mem_cons.mp m with rfl | m
      · exact hc
      cases m
    refine ⟨_, rfl, p, c, 4, b, rfl, by decide, by decide, P3, fun kd H4 k0 k1 b4 P4 => ?_⟩
    have w4 := w3.trans b4
    refine ⟨_, rfl, rfl, _, rfl, ite2 (fun c1 => ?_) (fun c1 => ⟨_, rfl, rfl, _, rfl, ite2 (fun c2 => ?_) (fun c2 => ?_)⟩)⟩
    · refine ⟨_, rfl, .inl ⟨rfl, _, SqL.of (b4 _ _ nW e3)⟩, _, rfl, p, c, 8, b, rfl, by decide, by decide, P4, fun n1 H5 n0 n9 b5 P5 => ⟨by show 2 ≤ sizeLine; decide, fun U fU => ?_⟩⟩
      have e5 := b5 _ _ nW (b4 _ _ nW e3)
      have sU := same_upd (o := .tup [V.str "round", .int n1]) fU
      have kl := keepT_lst (ys := ws ++ [.ref U]) (sU _ _ e5)
      have kk := ((P3.keepT b4).trans (P4.keepT b5)).trans ((keepT_of sU).trans kl)
      refine ⟨W, ws, _, rfl, rfl, sU _ _ e5, small1000 (by omega), ⟨W, _, es ++ [(0, n1, 0)], _, _, _, rfl, fun d o nd eo => ?_, (P5.same sU).upd nW nWc _, fW, upd_same, paired_snoc (L2.Paired.mapP p3 fun _ _ z => z.keep kk) ⟨by show (0 : Nat) < 4; decide, U, rfl, kl _ _ upd_same⟩, by rw [List.length_append]; show _ + 1 ≤ _; omega, snoc (one ⟨by decide, by decide⟩ ⟨n0, by omega⟩ z0)⟩⟩
      rw [upd_ne (ne_of_none eo fW)]
      exact sU _ _ (b5 _ _ nd (w4 _ _ nd eo))
    · refine ⟨_, rfl, .inl ⟨rfl, _, SqL.of (b4 _ _ nW e3)⟩, _, rfl, p, c, b, rfl, P4, fun n1 H5 bn b5 P5 => ⟨by show 2 ≤ sizeLine; decide, fun U fU => ?_⟩⟩
      have e5 := b5 _ _ nW (b4 _ _ nW e3)
      have sU := same_upd (o := .tup [V.str "told", .int n1]) fU
      have kl := keepT_lst (ys := ws ++ [.ref U]) (sU _ _ e5)
      have kk := ((P3.keepT b4).trans (P4.keepT b5)).trans ((keepT_of sU).trans kl)
      refine ⟨W, ws, _, rfl, rfl, sU _ _ e5, small1000 (by omega), ⟨W, _, es ++ [(1, n1, 0)], _, _, _, rfl, fun d o nd eo => ?_, (P5.same sU).upd nW nWc _, fW, upd_same, paired_snoc (L2.Paired.mapP p3 fun _ _ z => z.keep kk) ⟨by show (1 : Nat) < 4; decide, U, rfl, kl _ _ upd_same⟩, by rw [List.length_append]; show _ + 1 ≤ _; omega, snoc (one ⟨by decide, by decide⟩ bn z0)⟩⟩
      rw [upd_ne (ne_of_none eo fW)]
      exact sU _ _ (b5 _ _ nd (w4 _ _ nd eo))
    · refine ⟨_, rfl, p, c, 8, b, rfl, by decide, by decide, P4, fun m1 H5 m0 m9 b5 P5 => ⟨_, _, rfl, rfl, ?_⟩⟩
      have e5 := b5 _ _ nW (b4 _ _ nW e3)
      have k5 := (P3.keepT b4).trans (P4.keepT b5)
      refine ⟨_, rfl, _, rfl, p, c, 24, b, rfl, by decide, by decide, P5, fun n1 H6 n0 n9 b6 P6 => ⟨_, rfl, by show 3 ≤ sizeLine; decide, fun U1 f1 => ?_⟩⟩
      have s1 := same_upd (o := .tup [V.str "move", .int n1, .int (1 + m1)]) f1
      refine ⟨_, rfl, _, rfl, p, c, 1 + m1, b, rfl, by omega, by omega, P6.same s1, fun n2 H7 g0 g1 b7 P7 => ⟨by show 2 ≤ sizeLine; decide, fun U2 f2 => ⟨by show 2 ≤ sizeLine; decide, fun L fL => ?_⟩⟩⟩
      have s2 := same_upd (o := .tup [V.str "did", .int n2]) f2
      have s3 := same_upd (o := .lst [V.ref U1, .ref U2]) fL
      have w7 := (((w4.trans b5).trans b6).trans (but_of s1)).trans b7
      have w8 := w7.trans (but_of (s2.trans s3))
      have e8 := (s2.trans s3) _ _ (b7 _ _ nW (s1 _ _ (b6 _ _ nW e5)))
      have P8 := P7.same (s2.trans s3)
      refine ⟨W, L, _, _, rfl, rfl, e8, upd_same, small_le (by show ws.length + 2 ≤ 1000; omega), fun W2 fW2 => ?_⟩
      have s9 := same_upd (o := .lst (ws ++ [V.ref U1, .ref U2])) fW2
      have k7 := (P6.same s1).keepT b7
      have k9 := k7.trans ((keepT_of (s2.trans s3)).trans (keepT_of s9))
      have kk := ((k5.trans (P5.keepT b6)).trans (keepT_of s1)).trans k9
      refine ⟨W2, _, es ++ [(2, n1, 1 + m1), (3, n2, 0)], _, _, _, rfl, w8.trans (but_of s9), P8.same s9, free w8 P8 fW2, upd_same, ?_, by rw [List.length_append]; show _ + 2 ≤ _; omega, ?_⟩
      · rw [show ws ++ [V.ref U1, .ref U2] = (ws ++ [V.ref U1]) ++ [V.ref U2] by rw [List.append_assoc]; rfl, show es ++ [(2, n1, 1 + m1), (3, n2, 0)] = (es ++ [((2 : Nat), n1, 1 + m1)]) ++ [((3 : Nat), n2, (0 : Int))] by rw [List.append_assoc]; rfl]
        refine paired_snoc (paired_snoc (L2.Paired.mapP p3 fun _ _ z => z.keep (by rw [List.append_assoc]; exact kk)) ⟨by show (2 : Nat) < 4; decide, U1, rfl, ?_⟩) ⟨by show (3 : Nat) < 4; decide, U2, rfl, ?_⟩
        · rw [List.append_assoc]
          exact k9 _ _ upd_same
        · rw [List.append_assoc]
          exact ((s3.trans s9)) _ _ upd_same
      · intro n hn
        rw [show es ++ [(2, n1, 1 + m1), (3, n2, 0)] = (es ++ [((2 : Nat), n1, 1 + m1)]) ++ [((3 : Nat), n2, (0 : Int))] by rw [List.append_assoc]; rfl, seenL_snoc] at hn
        rcases List.mem_append.mp hn with hn | hn
        · exact snoc (e := ((2 : Nat), n1, 1 + m1)) (one (a := 3) (b := n1) (c := 1 + m1) ⟨by decide, by decide⟩ ⟨n0, by omega⟩ ⟨by omega, by omega⟩) n hn
        · exact one (a := 4) (b := n2) (c := 0) ⟨by decide, by decide⟩ ⟨g0, by omega⟩ z0 n hn
  · rintro σ3 H3 ⟨W, ws, es, y1, y2, y3, rfl, w3, P3, fW, e3, p3, l3, d3⟩
    refine ⟨_, rfl, W, ws, rfl, .inl ⟨SqL.of e3, fun r fr => ?_⟩⟩
    have sr := same_upd (o := .tup ws) fr
    exact q r ws es _ (w3.trans (but_of sr)) (P3.same sr) upd_same (L2.Paired.mapP p3 fun _ _ z => z.keep (keepT_of sr)) (by omega) d3
/-! ### law -/
theorem outc_uniq {sn : List Int} {fl : Nat → Int → Int} {u : Nat} {ss : List Bt} {ns : List Str} {xs : List Int} {an : Ex} {n mv mv' : Int} {zs zs' : List Int} {tk tk' : List (Int × Int)} (a : Outc sn fl u ss ns xs an n mv zs tk) (b : Outc sn fl u ss ns xs an n mv' zs' tk') : mv = mv' ∧ zs = zs' ∧ tk = tk' := by
  rcases a with ⟨a1, a2, a3⟩ | ⟨u1, t1, a1, a2, a3⟩
  · rcases b with ⟨b1, b2, b3⟩ | ⟨u2, t2, b1, b2, b3⟩
    · rw [a1] at b1
      injection b1 with e
      exact ⟨a2.trans b2.symm, a3.trans b3.symm, e⟩
    · rw [a1] at b1
      cases b1
  · rcases b with ⟨b1, b2, b3⟩ | ⟨u2, t2, b1, b2, b3⟩
    · rw [a1] at b1
      cases b1
    · rw [a1] at b1
      injection b1 with e1 e2 e3
      subst e2
      exact ⟨a2.trans b2.symm, a3.trans b3.symm, e3⟩
theorem make_tape (T : Txt K mg w) {H : Hp} {R : Addr → Hp → Prop} {E : XK} {a : Addr} {rs : List Int} (hS : SqL K H a (rs.map V.int))
    (k : ∀ (x rl tl : Addr) (H' : Hp), Same H H' → H x = none → H rl = none → H tl = none → rl ≠ tl → TapeAt T.C_Tape H' x rl tl rs [] → R x H') :
    ∀ x dx, H x = none → H dx = none → dx ≠ x → sp_Tape_init T [.ref x, .ref a] (upd (upd H dx (.own x)) x (.ins T.C_Tape dx [])) (fun v H2 => v = .non ∧ R x H2) E := by
  intro x dx nx nd ne
  have s1 : Same H (upd (upd H dx (.own x)) x (.ins T.C_Tape dx [])) := fun b o e => by rw [upd_ne (ne_of_none e nx), upd_ne (ne_of_none e nd)]; exact e
  refine ⟨x, dx, a, rs, rfl, upd_same, s1.seq hS, fun rl tl H' hk hx hr ht f1 f2 ne2 => ⟨rfl, ?_⟩⟩
  refine k x rl tl H' (fun b o e => hk b o (ne_of_none e nx) (s1 _ _ e)) nx (s1.free f1) (s1.free f2) ne2 ⟨⟨dx, hx⟩, hr, [], ht, .nil⟩
theorem make_brain (T : Txt K mg w) {H : Hp} {R : Addr → Hp → Prop} {E : XK} {ca0 bl : Addr} {u : Int} {an : V} {cv ws : List V} {cs : List (Str × Int)} (hca : H ca0 = some (.tup cv)) (pc : Paired (CellV H) cv cs) (l : cs.length ≤ 100) (hbl : H bl = some (.tup ws))
    (k : ∀ (x dx ca : Addr) (cv' : List V) (H' : Hp), Same H H' → H x = none → H' x = some (.ins T.C_Brain dx [("units", .int u), ("cells", .ref ca), ("block", .ref bl), ("answer", an)]) → H' ca = some (.tup cv') → Paired (CellV H') cv' cs → R x H') :
    ∀ x dx, H x = none → H dx = none → dx ≠ x → sp_Brain_init T [.ref x, .int u, .ref ca0, .ref bl, an] (upd (upd H dx (.own x)) x (.ins T.C_Brain dx [])) (fun v H2 => v = .non ∧ R x H2) E := by
  intro x dx nx nd ne
  have s1 : Same H (upd (upd H dx (.own x)) x (.ins T.C_Brain dx [])) := fun b o e => by rw [upd_ne (ne_of_none e nx), upd_ne (ne_of_none e nd)]; exact e
  exact ⟨x, dx, ca0, bl, u, an, cv, ws, cs, rfl, upd_same, s1 _ _ hca, L2.Paired.mapP pc fun _ _ z => z.keep (keepT_of s1), l, s1 _ _ hbl, fun ca cv' H' hk e1 e2 e3 => ⟨rfl, k x dx ca cv' H' (fun b o e => hk b o (ne_of_none e nx) (s1 _ _ e)) nx e1 e2 e3⟩⟩
theorem runM_need {sn : List Int} {fl : Nat → Int → Int} {v : Nat} {tb' : Str → Int} {tk' : List (Int × Int)} : ∀ {u : Nat} {r : List Bt} {tb : Str → Int} {tk : List (Int × Int)}, runM sn fl u r tb tk = .done v tb' tk' → v ≤ u ∧ ∀ w, runM sn fl (u - v + w) r tb tk = .done w tb' tk' := by
  intro u
  induction u with
  | zero =>
    intro r tb tk h
    cases r with
    | nil =>
      injection h with h1 h2 h3
      subst h1 h2 h3
      exact ⟨Nat.le_refl _, fun w => by rw [runM_nil, Nat.sub_self, Nat.zero_add]⟩
    | cons s r => cases h
  | succ u ih =>
    intro r tb tk h
    cases r with
    | nil =>
      injection h with h1 h2 h3
      subst h1 h2 h3
      exact ⟨Nat.le_refl _, fun w => by rw [runM_nil, Nat.sub_self, Nat.zero_add]⟩
    | cons s r =>
      have go : ∀ {r' : List Bt} {tb1 : Str → Int} {tk1 : List (Int × Int)}, runM sn fl u r' tb1 tk1 = .done v tb' tk' → (∀ m, runM sn fl (m + 1) (s :: r) tb tk = runM sn fl m r' tb1 tk1) → v ≤ u + 1 ∧ ∀ w, runM sn fl (u + 1 - v + w) (s :: r) tb tk = .done w tb' tk' := fun h' e => by
        obtain ⟨l, g⟩ := ih h'
        refine ⟨by omega, fun w => ?_⟩
        rw [show u + 1 - v + w = (u - v + w) + 1 by omega, e]
        exact g w
      cases s with
      | set x e => exact go h (fun m => rfl)
      | lot x e =>
        have h' : (if 0 < e.val tb offB sn then runM sn fl u r (putT tb x (fl tk.length (e.val tb offB sn))) (tk ++ [(fl tk.length (e.val tb offB sn), e.val tb offB sn)]) else runM sn fl u r (putT tb x (e.val tb offB sn)) tk) = .done v tb' tk' := h
        by_cases g : 0 < e.val tb offB sn
        · rw [if_pos g] at h'
          exact go h' (fun m => by
            show (if 0 < e.val tb offB sn then _ else _) = _
            rw [if_pos g])
        · rw [if_neg g] at h'
          exact go h' (fun m => by
            show (if 0 < e.val tb offB sn then _ else _) = _
            rw [if_neg g])
      | ite e t f => exact go h (fun m => rfl)
      | whl e b =>
        have h' : (if e.val tb offB sn ≠ 0 then runM sn fl u (b ++ .whl e b :: r) tb tk else runM sn fl u r tb tk) = .done v tb' tk' := h
        by_cases g : e.val tb offB sn ≠ 0
        · rw [if_pos g] at h'
          exact go h' (fun m => by
            show (if e.val tb offB sn ≠ 0 then _ else _) = _
            rw [if_pos g])
        · rw [if_neg g] at h'
          exact go h' (fun m => by
            show (if e.val tb offB sn ≠ 0 then _ else _) = _
            rw [if_neg g])
theorem outcL_to {sn : List Int} {fl : Nat → Int → Int} {u : Nat} {ss : List Bt} {ns : List Str} {xs : List Int} {an : Ex} {n mv lf : Int} {zs : List Int} {tk : List (Int × Int)} (a : OutcL sn fl u ss ns xs an n mv lf zs tk) : Outc sn fl u ss ns xs an n mv zs tk ∧ lf ≤ u := by
  rcases a with ⟨a1, a2, a3, a4⟩ | ⟨u1, t1, a1, a2, a3, a4⟩
  · exact ⟨.inl ⟨a1, a2, a4⟩, by omega⟩
  · exact ⟨.inr ⟨u1, t1, a1, a2, a4⟩, by omega⟩
/-- fewer units are too few, or the same move -/
theorem outc_units {sn : List Int} {fl : Nat → Int → Int} {u u2 : Nat} {ss : List Bt} {ns : List Str} {xs : List Int} {an : Ex} {n mv lf mv2 : Int} {zs zs2 : List Int} {tk tk2 : List (Int × Int)} (a : OutcL sn fl u ss ns xs an n mv lf zs tk) (b : Outc sn fl u2 ss ns xs an n mv2 zs2 tk2) (l : u2 ≤ u) :
    ((lf < 0 ∨ (u2 : Int) < lf) → mv2 = 0 ∧ zs2 = xs) ∧ (¬ (lf < 0 ∨ (u2 : Int) < lf) → mv2 = mv ∧ zs2 = zs) := by
  rcases a with ⟨a1, a2, a3, a4⟩ | ⟨u1, t1, a1, a2, a3, a4⟩
  · refine ⟨fun _ => ?_, fun h => absurd (.inl (by omega)) h⟩
    rcases b with ⟨b1, b2, b3⟩ | ⟨v2, t2, b1, b2, b3⟩
    · exact ⟨b2, b3⟩
    · obtain ⟨l2, g⟩ := runM_need b1
      have := g (u - (u2 - v2))
      rw [show u2 - v2 + (u - (u2 - v2)) = u by omega, a1] at this
      cases this
  · obtain ⟨l1, g1⟩ := runM_need a1
    refine ⟨fun h => ?_, fun h => ?_⟩
    · rcases b with ⟨b1, b2, b3⟩ | ⟨v2, t2, b1, b2, b3⟩
      · exact ⟨b2, b3⟩
      · obtain ⟨l2, g⟩ := runM_need b1
        have := g (u - (u2 - v2))
        rw [show u2 - v2 + (u - (u2 - v2)) = u by omega, a1] at this
        injection this with e1 _ _
        rcases h with h | h <;> omega
    · have := g1 (u2 - (u - u1))
      have h2 : u - u1 ≤ u2 := by
        have : ¬ ((u2 : Int) < lf) := fun z => h (.inr z)
        omega
      rw [show u - u1 + (u2 - (u - u1)) = u2 by omega] at this
      rcases b with ⟨b1, b2, b3⟩ | ⟨v2, t2, b1, b2, b3⟩
      · rw [b1] at this
        cases this
      · rw [b1] at this
        injection this with e1 e2 e3
        subst e2
        exact ⟨b2.trans a2.symm, b3.trans a4.symm⟩
def sp_law (T : Txt K mg w) : Sp := spLaw K

theorem ok_law (T : Txt K mg w) : FnOk P w K mg base CX0 35 T.a_law T.d_law ["script"] (sp_law T) := by
  refine T.F_law.ok sc_law (fun vs H Q E h => ?_) (fun cdv A outer s H vs Q E hr h => ?_)
  · obtain ⟨a, ns, rfl, _⟩ := h
    rfl
  obtain ⟨s0, ns0, rfl, hS, h63, q⟩ := h
  refine ⟨_, (pss_cons (ps_set (i := 1) sc_law.nd rfl (by first | exact Or.inl rfl | exact Or.inr rfl) (pe_call (ok_law_pool T) (hr.mono (by decide)) (by rfl) T.m_law_pool T.F_law_pool.kp T.b_law_pool .nil pass0 (pa_cons (pv 0) (pa_cons pe_int pa_nil))))
      (pss_cons (ps_set (i := 2) sc_law.nd rfl (by first | exact Or.inl rfl | exact Or.inr rfl) (pe_call (ok_law_brain T) (hr.mono (by decide)) (by rfl) T.m_law_brain T.F_law_brain.kp T.b_law_brain .nil pass0 (pa_cons (pv 1) (pa_cons pe_int (pa_cons pe_bl pa_nil)))))
      (pss_cons (ps_set (i := 3) sc_law.nd rfl (by first | exact Or.inl rfl | exact Or.inr rfl) (pe_callTy call_tuple_of (by rfl) T.z_tuple (by first | exact PySem.boot_tuple | decide +kernel) (pa_cons (pe_lc (own := [("row", 14)]) (g := gName 14) (tt := tYes) rfl sc_law.nd (pi_tup (pe_ix ix_tup (pv 2) pe_int (fun _ _ => rfl))) (blkOk_by (N := N_law) (sc := defScope s_law) (by decide +kernel)) (fun _ _ _ _ _ => (pg_name (i := 14) sc_law.nd rfl (by first | exact Or.inl rfl | exact Or.inr rfl))) (fun _ _ _ _ _ => pts_nil) (fun _ _ _ _ _ => (pe_call (ok_law_number T) (hr.mono (by decide)) (by rfl) T.m_law_number T.F_law_number.kp T.b_law_number .nil pass0 (pa_cons (pv 1) pa_nil)))) pa_nil)))
      (pss_cons (ps_set (i := 4) sc_law.nd rfl (by first | exact Or.inl rfl | exact Or.inr rfl) (pe_call (ok_law_view T) (hr.mono (by decide)) (by rfl) T.m_law_view T.F_law_view.kp T.b_law_view .nil pass0 (pa_cons (pv 1) pa_nil)))
      (pss_cons (ps_set (i := 5) sc_law.nd rfl (by first | exact Or.inl rfl | exact Or.inr rfl) (pe_op op_add pe_int (pe_call (ok_law_draw T) (hr.mono (by decide)) (by rfl) T.m_law_draw T.F_law_draw.kp T.b_law_draw .nil pass0 (pa_cons (pv 1) (pa_cons pe_int pa_nil)))))
      (pss_cons (ps_setLc (i := 6) (own := [("k", 8)]) (g := gName 8) (tt := tYes) rfl sc_law.nd rfl rfl (sw_true rfl rfl rfl (by decide +kernel)) (pi_range1 (by rfl) T.z_range (pa_cons (pe_call (ok_law_draw T) (hr.mono (by decide)) (by rfl) T.m_law_draw T.F_law_draw.kp T.b_law_draw .nil pass0 (pa_cons (pv 1) (pa_cons pe_int pa_nil))) pa_nil)) (blkOk_by (N := N_law) (sc := defScope s_law) (by decide +kernel)) (fun _ _ _ _ _ => (pg_name (i := 8) sc_law.nd rfl (by first | exact Or.inl rfl | exact Or.inr rfl))) (fun _ _ _ _ _ => pts_nil) (fun _ _ _ _ _ => (pe_call (ok_law_number T) (hr.mono (by decide)) (by rfl) T.m_law_number T.F_law_number.kp T.b_law_number .nil pass0 (pa_cons (pv 1) pa_nil))))
      (pss_cons (ps_set (i := 7) sc_law.nd rfl (by first | exact Or.inl rfl | exact Or.inr rfl) (pe_call (ok_law_think T) (hr.mono (by decide)) (by rfl) T.m_law_think T.F_law_think.kp T.b_law_think .nil pass0 (pa_cons (pv 2) (pa_cons (pv 3) (pa_cons (pv 4) (pa_cons (pv 5) (pa_cons (pv 6) (pa_cons (pe_lst pa_nil) pa_nil))))))))
      (pss_cons (ps_for PassesOwn.never rfl (pi_range1 (by rfl) T.z_range (pa_cons pe_int pa_nil)) (pg_name (i := 8) sc_law.nd rfl (by first | exact Or.inl rfl | exact Or.inr rfl)) (pss_cons (ps_set (i := 9) sc_law.nd rfl (by first | exact Or.inl rfl | exact Or.inr rfl) (pe_op op_add pe_int (pe_call (ok_law_draw T) (hr.mono (by decide)) (by rfl) T.m_law_draw T.F_law_draw.kp T.b_law_draw .nil pass0 (pa_cons (pv 1) (pa_cons pe_int pa_nil)))))
      (C8.pss_cut (ps_if (PW.pt (pw_and (pt_cmpR op_gt (pe_ix ix_tup (pv 7) pe_int (fun _ _ => rfl)) pe_int (nomark _)) (pw_and1 (pt_cmpR op_lt (pv 8) pe_int (nomark _))))) (pss_one (ps_set (i := 9) sc_law.nd rfl (by first | exact Or.inl rfl | exact Or.inr rfl) (pe_callB (call_max2 rfl) (by rfl) T.z_max (by first | exact PySem.boot_max | decide +kernel) (pa_cons pe_int (pa_cons (pe_op op_sub (pe_ix ix_tup (pv 7) pe_int (fun _ _ => rfl)) (pv 8)) pa_nil))))) pss_nil)
      (pss_cons (ps_set (i := 10) sc_law.nd rfl (by first | exact Or.inl rfl | exact Or.inr rfl) (pe_lst pa_nil))
      (pss_cons (ps_set (i := 11) sc_law.nd rfl (by first | exact Or.inl rfl | exact Or.inr rfl) (pe_call (ok_law_think T) (hr.mono (by decide)) (by rfl) T.m_law_think T.F_law_think.kp T.b_law_think .nil pass0 (pa_cons (pe_tup (pa_cons (pv 9) (pa_cons (pe_ix ix_tup (pv 2) pe_int (fun _ _ => rfl)) (pa_cons (pe_ix ix_tup (pv 2) pe_int (fun _ _ => rfl)) (pa_cons (pe_ix ix_tup (pv 2) pe_int (fun _ _ => rfl)) pa_nil))))) (pa_cons (pv 3) (pa_cons (pv 4) (pa_cons (pv 5) (pa_cons (pv 6) (pa_cons (pv 10) pa_nil))))))))
      (pss_cons (ps_set (i := 12) sc_law.nd rfl (by first | exact Or.inl rfl | exact Or.inr rfl) (pe_make T.mk_Tape (ok_Tape_init T) (hr.mono (by decide)) (by rfl) T.m_Tape T.b_Tape_init .nil pass0 (pa_cons (pe_callTy call_list_of (by rfl) T.z_list (by first | exact PySem.boot_list | decide +kernel) (pa_cons (pv 6) pa_nil)) pa_nil)))
      (pss_cons (ps_set (i := 13) sc_law.nd rfl (by first | exact Or.inl rfl | exact Or.inr rfl) (pe_call (ok_think T) (hr.mono (by decide)) (by rfl) T.m_think T.F_think.kp T.b_think .nil pass0 (pa_cons (pe_make T.mk_Brain (ok_Brain_init T) (hr.mono (by decide)) (by rfl) T.m_Brain T.b_Brain_init .nil pass0 (pa_cons (pv 9) (pa_cons (pe_ix ix_tup (pv 2) pe_int (fun _ _ => rfl)) (pa_cons (pe_ix ix_tup (pv 2) pe_int (fun _ _ => rfl)) (pa_cons (pe_ix ix_tup (pv 2) pe_int (fun _ _ => rfl)) pa_nil))))) (pa_cons (pv 3) (pa_cons (pv 4) (pa_cons (pv 5) (pa_cons (pv 12) pa_nil)))))))
      (C8.pss_cut (ps_if (PW.pt (pw_or (pt_cmpR op_lt (pe_ix ix_tup (pv 7) pe_int (fun _ _ => rfl)) pe_int (nomark _)) (pw_or1 (pt_cmpR op_lt (pv 9) (pe_ix ix_tup (pv 7) pe_int (fun _ _ => rfl)) (nomark _))))) (pss_one (ps_if (pt_not (pt_truth (pe_call (ok_law_same T 8) (hr.mono (by decide)) (by rfl) T.m_law_same T.F_law_same.kp T.b_law_same .nil pass0 (pa_cons (pv 13) (pa_cons (pe_tup (pa_cons pe_int (pa_cons (pv 3) pa_nil))) pa_nil))) (fun _ => rfl))) (pss_one (ps_ret pe_bl)) pss_nil)) (pss_one (ps_if (pt_not (pt_truth (pe_call (ok_law_same T 8) (hr.mono (by decide)) (by rfl) T.m_law_same T.F_law_same.kp T.b_law_same .nil pass0 (pa_cons (pv 13) (pa_cons (pe_tup (pa_cons (pe_ix ix_tup (pv 7) pe_int (fun _ _ => rfl)) (pa_cons (pe_ix ix_tup (pv 7) pe_int (fun _ _ => rfl)) pa_nil))) pa_nil))) (fun _ => rfl))) (pss_one (ps_ret pe_bl)) pss_nil)))
      (pss_one (ps_if (PW.pt (pw_or (pt_not (pt_truth (pe_call (ok_law_same T 8) (hr.mono (by decide)) (by rfl) T.m_law_same T.F_law_same.kp T.b_law_same .nil pass0 (pa_cons (pe_fld (pv 12) rfl) (pa_cons (pv 10) pa_nil))) (fun _ => rfl))) (pw_or1 (pt_cmpR op_gt (pe_ix ix_tup (pv 11) pe_int (fun _ _ => rfl)) (pv 9) (nomark _))))) (pss_one (ps_ret pe_bl)) pss_nil))))))))))
      (pss_one (ps_ret pe_bl)))))))))), ?_⟩
  refine ⟨_, rfl, s0, ns0, 30, rfl, hS, fun p c H1 s1 np nc P4 => ?_⟩
  refine ⟨_, rfl, p, c, 80, 30, true, rfl, P4, fun br ca bl av cv us cs ss an H5 b5' b5 P5 hL hw => ?_⟩
  have l8 := hw.l8
  have cvl : cv.length = cs.length := Paired.length hL.pc
  refine ⟨_, rfl, br, _, 1, .ref ca, rfl, rfl, SqT.of hL.ob, atI_nat (j := 1) rfl, ca, rfl, ⟨_, SqT.of hL.ca⟩, fun D hD => ?_⟩
  have nD := P5.ne hD
  refine lc_tup (a := ca) (xs := cv) (fun i H6 => ∃ xs : List Int, But p H5 H6 ∧ Pool H6 p c b5' ∧ H6 D = some (.lst (xs.map V.int)) ∧ xs.length = i ∧ ∀ n ∈ xs, Bd n) ⟨[], but_of (same_upd hD), P5.same (same_upd hD), upd_same, rfl, fun _ m => by cases m⟩ (fun i H6 _ h => ?_) (fun i v H6 hv h => ?_) (fun H6 h => ?_)
  · obtain ⟨xs, b6, _⟩ := h
    exact SqT.of ((P5.keepT b6) _ _ hL.ca)
  · obtain ⟨xs, b6, P6, e6, l6, d6⟩ := h
    have il : i < cs.length := by rw [← cvl]; exact (List.getElem?_eq_some_iff.mp hv).1
    refine ⟨rfl, ?_⟩
    refine ⟨_, rfl, p, c, b5', rfl, P6, fun n H7 bn b7 P7 => ?_⟩
    refine ⟨_, b7 _ _ nD e6, ?_, xs ++ [n], fun d o nd eo => ?_, P7.upd nD (P5.ne2 hD) _, ?_, ?_, fun z mz => ?_⟩
    · rw [List.length_map]
      exact small1000 (by omega)
    · rw [upd_ne (ne_of_none eo hD)]
      exact b7 _ _ nd (b6 _ _ nd eo)
    · rw [upd_same, List.map_append]
      rfl
    · rw [List.length_append, l6]
      rfl
    · rcases List.mem_append.mp mz with mz | mz
      · exact d6 z mz
      · rw [List.mem_singleton.mp mz]
        exact bn
  obtain ⟨xs, b6, P6, e6, l6, hx⟩ := h
  have L6 := hL.keep (P5.keepT b6)
  refine ⟨D, _, rfl, .inl ⟨SqL.of e6, fun be fbe => ?_⟩⟩
  have s7 := same_upd (o := .tup (xs.map V.int)) fbe
  have he7 : upd H6 be (.tup (xs.map V.int)) be = some (.tup (xs.map V.int)) := upd_same
  have P7 := P6.same s7
  have L7 := L6.keep (keepT_of s7)
  revert he7 P7 L7
  generalize upd H6 be (.tup (xs.map V.int)) = H7
  intro he7 P7 L7
  clear s7 L6 P6 b6 e6 hL P5 b5 P4 hD
  refine ⟨_, rfl, p, c, b5', rfl, P7, fun vw ws es H8 b8 P8 hv hpv hle hB => ?_⟩
  have k8 := P7.keepT b8
  have L8 := L7.keep k8
  have he8 := k8 _ _ he7
  clear he7 P7 L7 b8 k8
  refine ⟨_, rfl, p, c, 8, b5', rfl, by decide, by decide, P8, fun k9 H10 k90 k91 b10 P10 => ⟨_, _, rfl, rfl, ?_⟩⟩
  refine ⟨_, rfl, p, c, 7, b5', rfl, by decide, by decide, P10, fun m H11 m0 m1 b11 P11 => ?_⟩
  refine ⟨m, rfl, by omega, by omega, fun D2 hD2 => ?_⟩
  have nD2 := P11.ne hD2
  refine lc_range (fun i H' => ∃ rs : List Int, rs.length = i ∧ H' D2 = some (.lst (rs.map V.int)) ∧ Pool H' p c b5' ∧ But p H11 H') ⟨[], rfl, upd_same, P11.same (same_upd hD2), but_of (same_upd hD2)⟩ (fun i H12 hi ⟨rs, el, e12, P12, b12⟩ => ?_) (fun H12 ⟨rs, el, e12, P12, b12⟩ => ?_)
  · refine ⟨rfl, ?_⟩
    refine ⟨_, rfl, p, c, b5', rfl, P12, fun n H13 bn b13 P13 => ?_⟩
    refine ⟨_, b13 _ _ nD2 e12, ?_, rs ++ [n], by rw [List.length_append, el]; rfl, ?_, P13.upd nD2 (P11.ne2 hD2) _, fun d o nd eo => ?_⟩
    · rw [List.length_map, el]
      exact small1000 (by omega)
    · rw [upd_same, List.map_append]
      rfl
    · rw [upd_ne (ne_of_none eo hD2)]
      exact b13 _ _ nd (b12 _ _ nd eo)
  have rsl : rs.length ≤ 7 := by omega
  have k12 := ((P8.keepT b10).trans (P10.keepT b11)).trans (P11.keepT b12)
  have L12 := L8.keep k12
  have he12 := k12 _ _ he8
  have hv12 := k12 _ _ hv
  have hpv12 := L2.Paired.mapP hpv fun _ _ z => VwV.keep k12 z
  clear b10 b11 b12 P8 P10 P11 L8 he8 hv hpv k12 hD2
  refine ⟨_, rfl, _, rfl, _, rfl, _, rfl, _, rfl, by show 0 ≤ sizeLine; decide, fun tl ftl => ?_⟩
  have st := same_upd (o := .lst []) ftl
  have ntp := P12.ne ftl
  have ntc := P12.ne2 ftl
  have nDt : D2 ≠ tl := ne_of_none e12 ftl
  have kt := keepT_of st
  refine ⟨br, ca, bl, be, vw, D2, tl, 80, av, cv, ws, us, cs, ss, an, xs, es, 1 + k9, rs, rfl, L12.keep kt, hw, by decide, kt _ _ he12, by omega, hx, kt _ _ hv12, L2.Paired.mapP hpv12 (fun _ _ z => VwV.keep kt z), hle, hB, st _ _ e12, upd_same, nDt, fun d r mv lf zs tk ws' H14 b14 e14 p14 ed er ltk oc => ?_⟩
  have kt14 := kt.trans (But.keepT b14 (upd_same (H := H12) (a := tl) (o := .lst [])))
  have P14 := (P12.same st).buts b14 ntp ntc
  have e14D : H14 D2 = some (.lst (rs.map V.int)) := b14 _ _ nDt (st _ _ e12)
  have L14 := L12.keep kt14
  have he14 := kt14 _ _ he12
  have hv14 := kt14 _ _ hv12
  have hpv14 := L2.Paired.mapP hpv12 fun _ _ z => VwV.keep kt14 z
  have lf80 := (outcL_to oc).2
  clear kt14 b14 e14 p14 P12 st kt L12 he12 hv12 hpv12 e12 ftl ntp ntc nDt ltk
  refine ⟨4, rfl, by decide, by decide, for_range (fun i σ' H' => ∃ y8 y9 y10 y11 y12 y13 : Option V, σ' = [some (.ref s0), some (.ref p), some (.ref br), some (.ref be), some (.ref vw), some (.int (1 + k9)), some (.ref D2), some (.ref d), y8, y9, y10, y11, y12, y13, none] ∧ KeepT H14 H' ∧ H' D2 = some (.lst (rs.map V.int)) ∧ Pool H' p c b5') ⟨_, _, _, _, _, _, rfl, KeepT.refl _, e14D, P14⟩ ?_ ?_⟩
  rotate_left
  · rintro σ' H' _
    exact q _
  rintro i σ1 H15 hi ⟨y8, y9, y10, y11, y12, y13, rfl, k15, eD15, P15⟩
  refine ⟨_, rfl, p, c, 80, b5', rfl, by decide, by decide, P15, fun k3 H16 k30 k31 b16 P16 => ⟨_, _, rfl, rfl, ?_⟩⟩
  have k16 := k15.trans (P15.keepT b16)
  have eD16 := b16 _ _ nD2 eD15
  have ed16 := k16 _ _ ed
  refine ⟨fun σ' H' => ∃ (un : Int), σ' = [some (.ref s0), some (.ref p), some (.ref br), some (.ref be), some (.ref vw), some (.int (1 + k9)), some (.ref D2), some (.ref d), some (.int (0 + (i : Int))), some (.int un), y10, y11, y12, y13, none] ∧ H' = H16 ∧ 1 ≤ un ∧ un ≤ 80, ?_, ?_⟩
  · refine ⟨_, rfl, d, _, 2, .int lf, rfl, rfl, SqT.of ed16, atI_nat (j := 2) rfl, _, _, rfl, rfl, _, rfl, ite2 (fun c1 => ?_) (fun _ => ⟨_, rfl, rfl, by omega, by omega⟩)⟩
    refine ⟨_, rfl, _, _, rfl, rfl, _, rfl, ite2 (fun c2 => ?_) (fun _ => ⟨_, rfl, rfl, by omega, by omega⟩)⟩
    refine ⟨_, rfl, d, _, 2, .int lf, rfl, rfl, SqT.of ed16, atI_nat (j := 2) rfl, _, rfl, _, _, rfl, rfl, _, _, rfl, ?_⟩
    exact ⟨_, rfl, rfl, by split <;> omega, by split <;> omega⟩
  rintro σ2 H17 ⟨un, rfl, rfl, un0, un1⟩
  obtain ⟨u2, rfl⟩ : ∃ u2 : Nat, un = (u2 : Int) := ⟨un.toNat, by omega⟩
  clear k15 eD15 P15 b16 ed16
  refine ⟨by show 0 ≤ sizeLine; decide, fun tl ftl => ?_⟩
  have st := same_upd (o := .lst []) ftl
  have ntp := P16.ne ftl
  have ntc := P16.ne2 ftl
  have nDt : D2 ≠ tl := ne_of_none eD16 ftl
  have L18 := L14.keep (k16.trans (keepT_of st))
  refine ⟨_, rfl, _, rfl, br, _, 1, .ref ca, rfl, rfl, SqT.of L18.ob, atI_nat (j := 1) rfl, _, rfl, br, _, 2, .ref bl, rfl, rfl, SqT.of L18.ob, atI_nat (j := 2) rfl, _, rfl, br, _, 3, av, rfl, rfl, SqT.of L18.ob, atI_nat (j := 3) rfl, by show 4 ≤ sizeLine; decide, fun br2 fbr2 => ?_⟩
  have sb := same_upd (o := .tup [V.int u2, .ref ca, .ref bl, av]) fbr2
  have st2 := st.trans sb
  have k18 := k16.trans (keepT_of st2)
  have L19 := L14.keep k18
  refine ⟨_, rfl, _, rfl, _, rfl, _, rfl, _, rfl, br2, ca, bl, be, vw, D2, tl, u2, av, cv, ws, us, cs, ss, an, xs, es, 1 + k9, rs, rfl, ⟨upd_same, L19.ca, L19.pc, L19.bl, L19.bb, L19.an⟩, hw, by omega, k18 _ _ he14, by omega, hx, k18 _ _ hv14, L2.Paired.mapP hpv14 (fun _ _ z => VwV.keep k18 z), hle, hB, st2 _ _ eD16, sb _ _ upd_same, nDt, fun d2 r2 mv2 lf2 zs2 tk2 ws2 H20 b20 e20 p20 ed2 er2 ltk2 oc2 => ?_⟩
  have k20 := k18.trans (But.keepT b20 (sb _ _ (upd_same (H := H17) (a := tl) (o := .lst []))))
  have P20 := (P16.same st2).buts b20 ntp ntc
  have eD20 := b20 _ _ nDt (st2 _ _ eD16)
  obtain ⟨oc2', lf2u⟩ := outcL_to oc2
  clear L18 L19 k18 st2 sb b20 st ftl ntp ntc fbr2 P16 eD16 k16
  refine ⟨_, rfl, D2, _, rfl, .inl (SqL.of eD20), fun LL fLL => ?_⟩
  have sL := same_upd (o := .lst (rs.map V.int)) fLL
  refine make_tape T (SqL.of (xs := rs.map V.int) upd_same) fun x rlT tlT H22 s22 fx fr ft nrt hT => ?_
  have sA := sL.trans s22
  have ntt : tl ≠ tlT := ne_of_none e20 (sL.free ft)
  have nDT : D2 ≠ tlT := ne_of_none eD20 (sL.free ft)
  have npT : tlT ≠ p := P20.ne (sL.free ft)
  have ncT : tlT ≠ c := P20.ne2 (sL.free ft)
  have kA := keepT_of sA
  have k22 := k20.trans kA
  have e22 := sA _ _ e20
  have p22 := L2.Paired.mapP p20 fun _ _ z => TupV.keep kA z
  have ed22 := sA _ _ ed2
  have er22 := sA _ _ er2
  have P22 := P20.same sA
  have eD22 := sA _ _ eD20
  have L22 := L14.keep k22
  clear sL sA kA fLL fx fr ft s22 e20 p20 ed2 er2 P20 eD20 k20
  refine ⟨_, rfl, _, rfl, br, _, 1, .ref ca, rfl, rfl, SqT.of L22.ob, atI_nat (j := 1) rfl, _, rfl, br, _, 2, .ref bl, rfl, rfl, SqT.of L22.ob, atI_nat (j := 2) rfl, _, rfl, br, _, 3, av, rfl, rfl, SqT.of L22.ob, atI_nat (j := 3) rfl, ?_⟩
  refine make_brain T L22.ca L22.pc (by omega) L22.bl fun xb dxb cab cvb H23 s23 fxb e1 e2 e4 => ?_
  have k23 := keepT_of s23
  have k3 := k22.trans k23
  have fl : flT rs ([] : List (Int × Int)).length = flR rs := by
    funext j n
    show takeK rs (0 + j) n = takeK rs j n
    rw [Nat.zero_add]
  refine ⟨_, rfl, _, rfl, _, rfl, _, rfl, ⟨xb, be, vw, tl⟩, vw, x, rlT, tlT, u2, cs, ss, an, xs, ws, es, 1 + k9, rs, [], rfl, ⟨⟨cab, bl, av, cvb, us, dxb, e1, e2, e4, k23 _ _ L22.bl, L22.bb.keep k23, L22.an.keep k23⟩, k3 _ _ he14, by omega, by omega, hw.nd, hx⟩, hw.aw, by have := hw.ad; omega, hw.bw, by omega, k3 _ _ hv14, L2.Paired.mapP hpv14 (fun _ _ z => VwV.keep k3 z), by omega, hB, hT.same s23, nrt, by decide, fun pa ra mva zsa tka H24 b24 hT24 epa era lta oca => ?_⟩
  rw [fl] at oca
  obtain ⟨_, _, q3⟩ := outc_uniq oca oc2'
  subst q3
  obtain ⟨g1, g2⟩ := outc_units oc oca (by omega)
  obtain ⟨_, _, vsT, htT, pT⟩ := id (hT.same s23)
  have k24 := But.keepT b24 htT
  have k4 := k3.trans k24
  have e24 := b24 _ _ ntt (s23 _ _ e22)
  have p24 := L2.Paired.mapP p22 fun _ _ z => TupV.keep (k23.trans k24) z
  have ed24 := k24 _ _ (k23 _ _ ed22)
  have P24 := (P22.same s23).buts b24 npT ncT
  have eD24 := b24 _ _ nDT (s23 _ _ eD22)
  have zl : zsa.length ≤ 100 := by
    rcases oca with ⟨_, _, z⟩ | ⟨_, _, _, _, z⟩
    · rw [z]
      omega
    · rw [z, List.length_map, List.length_map]
      omega
  obtain ⟨v1, v2⟩ := two_ok (mv := mva) (zs := zsa) (by omega)
  obtain ⟨w1, w2⟩ := tsD_ok (ts := tka) (by omega)
  clear k22 e22 p22 ed22 er22 P22 eD22 L22 k23 k3 e1 e2 e4 hT b24 htT pT s23
  have fin : ∀ H', Same H24 H' → KeepT H14 H' ∧ H' D2 = some (.lst (rs.map V.int)) ∧ Pool H' p c b5' := fun H' s => ⟨k4.trans (keepT_of s), s _ _ eD24, P24.same s⟩
  have edd := k4 _ _ ed
  have err := k4 _ _ er
  have heh := k4 _ _ he14
  refine ⟨fun σ' H' => σ' = [some (.ref s0), some (.ref p), some (.ref br), some (.ref be), some (.ref vw), some (.int (1 + k9)), some (.ref D2), some (.ref d), some (.int (0 + (i : Int))), some (.int (u2 : Int)), some (.ref tl), some (.ref d2), some (.ref x), some (.ref pa), none] ∧ Same H24 H', ?_, ?_⟩
  · have small : (lf < 0 ∨ (u2 : Int) < lf) → ∀ W, H24 W = none → ∃ D : PyData, Da (upd H24 W (.tup [.int 0, .ref be])) (.ref pa) D ∧ Da (upd H24 W (.tup [.int 0, .ref be])) (.ref W) D ∧ D.depth < 8 ∧ wide D = true := fun g W fW => by
      obtain ⟨m0', z0'⟩ := g1 g
      have sW := same_upd (o := .tup [V.int 0, .ref be]) fW
      refine ⟨_, da_two (sW _ _ epa) (sW _ _ era), ?_, v1, v2⟩
      rw [m0', z0']
      exact da_two upd_same (sW _ _ heh)
    refine ⟨_, rfl, d, _, 2, .int lf, rfl, rfl, SqT.of edd, atI_nat (j := 2) rfl, _, _, rfl, rfl, _, rfl, ite2 (fun c1 => ?_) (fun c1 => ⟨_, rfl, _, rfl, d, _, 2, .int lf, rfl, rfl, SqT.of edd, atI_nat (j := 2) rfl, _, _, rfl, rfl, _, rfl, ite2 (fun c2 => ?_) (fun c2 => ?_)⟩)⟩
    · refine ⟨_, rfl, _, rfl, by show 2 ≤ sizeLine; decide, fun W fW => ?_⟩
      obtain ⟨DD, q1, q2, q3, q4⟩ := small (.inl (of_decide_eq_true c1)) W fW
      exact ⟨_, _, DD, rfl, q1, q2, q3, q4, true, rfl, iteF ⟨rfl, same_upd fW⟩⟩
    · refine ⟨_, rfl, _, rfl, by show 2 ≤ sizeLine; decide, fun W fW => ?_⟩
      obtain ⟨DD, q1, q2, q3, q4⟩ := small (.inr (of_decide_eq_true c2)) W fW
      exact ⟨_, _, DD, rfl, q1, q2, q3, q4, true, rfl, iteF ⟨rfl, same_upd fW⟩⟩
    · obtain ⟨m0', z0'⟩ := g2 (fun z => z.elim (fun h => c1 (decide_eq_true h)) (fun h => c2 (decide_eq_true h)))
      refine ⟨_, rfl, _, rfl, d, _, 0, .int mv, rfl, rfl, SqT.of edd, atI_nat (j := 0) rfl, _, rfl, d, _, 1, .ref r, rfl, rfl, SqT.of edd, atI_nat (j := 1) rfl, by show 2 ≤ sizeLine; decide, fun W fW => ?_⟩
      have sW := same_upd (o := .tup [V.int mv, .ref r]) fW
      refine ⟨_, _, _, rfl, da_two (sW _ _ epa) (sW _ _ era), ?_, v1, v2, true, rfl, iteF ⟨rfl, sW⟩⟩
      rw [m0', z0']
      exact da_two upd_same (sW _ _ err)
  rintro σ25 H25 ⟨rfl, s25⟩
  obtain ⟨⟨dxt, hx25⟩, _, vs25, ht25, pt25⟩ := hT24.same s25
  refine ⟨_, rfl, x, T.C_Tape, dxt, _, _, rfl, hx25, T.cl_Tape, T.n_Tape_taken, tpf_t _ _, _, rfl, _, _, _, rfl, Da.pairs ht25 pt25, Da.pairs (s25 _ _ e24) (L2.Paired.mapP p24 fun _ _ z => TupV.keep (keepT_of s25) z), w1, w2, true, rfl, iteF ?_⟩
  refine ⟨_, rfl, d2, _, 2, .int lf2, rfl, rfl, SqT.of (s25 _ _ ed24), atI_nat (j := 2) rfl, _, rfl, _, _, rfl, rfl, _, rfl, ite2 (fun c3 => ?_) (fun _ => ?_)⟩
  · have := of_decide_eq_true c3
    omega
  · exact ⟨_, _, _, _, _, _, rfl, fin _ s25⟩
end
/-! ### what the top has written -/
theorem all_mk {l : PySem.W.OpenLaw} {w : World} {K : PySem.W.Frag} {h : Heap} {mg : Str → Option Value} {fa : Addr} (X : K.In h) (G : h.Ns mainGlobals mg) (hfa : mg "law" = some (.ref fa))
    {C_Thought : Addr}
    {C_Brain : Addr}
    {C_Tape : Addr}
    {tk_MODULUS : Tok}
    {tk_GREATEST_NUMBER : Tok}
    {A_EVENT_NUMBERS : Addr} {es_EVENT_NUMBERS : Array DictEntry} {en_EVENT_NUMBERS : Nat} {tk_EVENT_NUMBERS_0 tk_EVENT_NUMBERS_1 tk_EVENT_NUMBERS_2 tk_EVENT_NUMBERS_3 : Tok}
    {f1 : Addr} {od1 an1 : Option Addr} {sl1 : Array (Option Value)} {oc1 kV1 dc1 pm1 cd1 ct1 : Value}
    {f2 : Addr} {od2 an2 : Option Addr} {sl2 : Array (Option Value)} {oc2 kV2 dc2 pm2 cd2 ct2 : Value}
    {Tt2 : Addr} {tc2 : Value} {td2 : Option Addr} {tn2 : Nat} {tl2 : Array (Option Value)}
    {zt2 : Addr} {zd2 : Option Addr} {zn2 : Nat} {zl2 : Array (Option Value)}
    {f3 : Addr} {od3 an3 : Option Addr} {sl3 : Array (Option Value)} {oc3 kV3 dc3 pm3 cd3 ct3 : Value}
    {f4 : Addr} {od4 an4 : Option Addr} {sl4 : Array (Option Value)} {oc4 kV4 dc4 pm4 cd4 ct4 : Value}
    {f5 : Addr} {od5 an5 : Option Addr} {sl5 : Array (Option Value)} {oc5 kV5 dc5 pm5 cd5 ct5 : Value}
    {f6 : Addr} {od6 an6 : Option Addr} {sl6 : Array (Option Value)} {oc6 kV6 dc6 pm6 cd6 ct6 : Value}
    {f7 : Addr} {od7 an7 : Option Addr} {sl7 : Array (Option Value)} {oc7 kV7 dc7 pm7 cd7 ct7 : Value}
    {f8 : Addr} {od8 an8 : Option Addr} {sl8 : Array (Option Value)} {oc8 kV8 dc8 pm8 cd8 ct8 : Value}
    {f9 : Addr} {od9 an9 : Option Addr} {sl9 : Array (Option Value)} {oc9 kV9 dc9 pm9 cd9 ct9 : Value}
    {f10 : Addr} {od10 an10 : Option Addr} {sl10 : Array (Option Value)} {oc10 kV10 dc10 pm10 cd10 ct10 : Value}
    {f11 : Addr} {od11 an11 : Option Addr} {sl11 : Array (Option Value)} {oc11 kV11 dc11 pm11 cd11 ct11 : Value}
    {f12 : Addr} {od12 an12 : Option Addr} {sl12 : Array (Option Value)} {oc12 kV12 dc12 pm12 cd12 ct12 : Value}
    {f13 : Addr} {od13 an13 : Option Addr} {sl13 : Array (Option Value)} {oc13 kV13 dc13 pm13 cd13 ct13 : Value}
    {f14 : Addr} {od14 an14 : Option Addr} {sl14 : Array (Option Value)} {oc14 kV14 dc14 pm14 cd14 ct14 : Value}
    {f15 : Addr} {od15 an15 : Option Addr} {sl15 : Array (Option Value)} {oc15 kV15 dc15 pm15 cd15 ct15 : Value}
    {f16 : Addr} {od16 an16 : Option Addr} {sl16 : Array (Option Value)} {oc16 kV16 dc16 pm16 cd16 ct16 : Value}
    {f17 : Addr} {od17 an17 : Option Addr} {sl17 : Array (Option Value)} {oc17 kV17 dc17 pm17 cd17 ct17 : Value}
    {f18 : Addr} {od18 an18 : Option Addr} {sl18 : Array (Option Value)} {oc18 kV18 dc18 pm18 cd18 ct18 : Value}
    {f19 : Addr} {od19 an19 : Option Addr} {sl19 : Array (Option Value)} {oc19 kV19 dc19 pm19 cd19 ct19 : Value}
    {f20 : Addr} {od20 an20 : Option Addr} {sl20 : Array (Option Value)} {oc20 kV20 dc20 pm20 cd20 ct20 : Value}
    {f21 : Addr} {od21 an21 : Option Addr} {sl21 : Array (Option Value)} {oc21 kV21 dc21 pm21 cd21 ct21 : Value}
    {f22 : Addr} {od22 an22 : Option Addr} {sl22 : Array (Option Value)} {oc22 kV22 dc22 pm22 cd22 ct22 : Value}
    {f23 : Addr} {od23 an23 : Option Addr} {sl23 : Array (Option Value)} {oc23 kV23 dc23 pm23 cd23 ct23 : Value}
    {f24 : Addr} {od24 an24 : Option Addr} {sl24 : Array (Option Value)} {oc24 kV24 dc24 pm24 cd24 ct24 : Value}
    {f25 : Addr} {od25 an25 : Option Addr} {sl25 : Array (Option Value)} {oc25 kV25 dc25 pm25 cd25 ct25 : Value}
    {f26 : Addr} {od26 an26 : Option Addr} {sl26 : Array (Option Value)} {oc26 kV26 dc26 pm26 cd26 ct26 : Value}
    {f27 : Addr} {od27 an27 : Option Addr} {sl27 : Array (Option Value)} {oc27 kV27 dc27 pm27 cd27 ct27 : Value}
    {f28 : Addr} {od28 an28 : Option Addr} {sl28 : Array (Option Value)} {oc28 kV28 dc28 pm28 cd28 ct28 : Value}
    {f29 : Addr} {od29 an29 : Option Addr} {sl29 : Array (Option Value)} {oc29 kV29 dc29 pm29 cd29 ct29 : Value}
    {f30 : Addr} {od30 an30 : Option Addr} {sl30 : Array (Option Value)} {oc30 kV30 dc30 pm30 cd30 ct30 : Value}
    {f31 : Addr} {od31 an31 : Option Addr} {sl31 : Array (Option Value)} {oc31 kV31 dc31 pm31 cd31 ct31 : Value}
    {f32 : Addr} {od32 an32 : Option Addr} {sl32 : Array (Option Value)} {oc32 kV32 dc32 pm32 cd32 ct32 : Value}
    {f33 : Addr} {od33 an33 : Option Addr} {sl33 : Array (Option Value)} {oc33 kV33 dc33 pm33 cd33 ct33 : Value}
    {f34 : Addr} {od34 an34 : Option Addr} {sl34 : Array (Option Value)} {oc34 kV34 dc34 pm34 cd34 ct34 : Value}
    {f35 : Addr} {od35 an35 : Option Addr} {sl35 : Array (Option Value)} {oc35 kV35 dc35 pm35 cd35 ct35 : Value}
    {f36 : Addr} {od36 an36 : Option Addr} {sl36 : Array (Option Value)} {oc36 kV36 dc36 pm36 cd36 ct36 : Value}
    {f37 : Addr} {od37 an37 : Option Addr} {sl37 : Array (Option Value)} {oc37 kV37 dc37 pm37 cd37 ct37 : Value}
    (ac_Thought : PySem.W.nsIn K mainGlobals "Thought" = some (some (.ref C_Thought)))
    (pg_Thought : PySem.W.plainGet K C_Thought Str.empty = true)
    (hd_Thought : PySem.W.hasDictIn K C_Thought = true)
    (po_Thought : PySem.W.plainOver K C_Thought = true)
    (sa_Thought : PySem.W.findIn K (.ref C_Thought) "__setattr__" = some (some (.builtin "object.__setattr__")))
    (mkc_Thought : PySem.W.makesIn K C_Thought = true)
    (kpc_Thought : PySem.W.keepIn K (.ref C_Thought) = true)
    (na_Thought__brain : PySem.W.findIn K (.ref C_Thought) "_brain" = some none)
    (na_Thought__before : PySem.W.findIn K (.ref C_Thought) "_before" = some none)
    (na_Thought__seen : PySem.W.findIn K (.ref C_Thought) "_seen" = some none)
    (na_Thought__table : PySem.W.findIn K (.ref C_Thought) "_table" = some none)
    (na_Thought__left : PySem.W.findIn K (.ref C_Thought) "_left" = some none)
    (na_Thought__todo : PySem.W.findIn K (.ref C_Thought) "_todo" = some none)
    (na_Thought__silent : PySem.W.findIn K (.ref C_Thought) "_silent" = some none)
    (na_Thought__cell : PySem.W.findIn K (.ref C_Thought) "_cell" = some none)
    (na_Thought_results : PySem.W.findIn K (.ref C_Thought) "results" = some none)
    (ac_Brain : PySem.W.nsIn K mainGlobals "Brain" = some (some (.ref C_Brain)))
    (pg_Brain : PySem.W.plainGet K C_Brain Str.empty = true)
    (hd_Brain : PySem.W.hasDictIn K C_Brain = true)
    (po_Brain : PySem.W.plainOver K C_Brain = true)
    (sa_Brain : PySem.W.findIn K (.ref C_Brain) "__setattr__" = some (some (.builtin "object.__setattr__")))
    (mkc_Brain : PySem.W.makesIn K C_Brain = true)
    (kpc_Brain : PySem.W.keepIn K (.ref C_Brain) = true)
    (na_Brain_units : PySem.W.findIn K (.ref C_Brain) "units" = some none)
    (na_Brain_cells : PySem.W.findIn K (.ref C_Brain) "cells" = some none)
    (na_Brain_block : PySem.W.findIn K (.ref C_Brain) "block" = some none)
    (na_Brain_answer : PySem.W.findIn K (.ref C_Brain) "answer" = some none)
    (ac_Tape : PySem.W.nsIn K mainGlobals "Tape" = some (some (.ref C_Tape)))
    (pg_Tape : PySem.W.plainGet K C_Tape Str.empty = true)
    (hd_Tape : PySem.W.hasDictIn K C_Tape = true)
    (po_Tape : PySem.W.plainOver K C_Tape = true)
    (sa_Tape : PySem.W.findIn K (.ref C_Tape) "__setattr__" = some (some (.builtin "object.__setattr__")))
    (mkc_Tape : PySem.W.makesIn K C_Tape = true)
    (kpc_Tape : PySem.W.keepIn K (.ref C_Tape) = true)
    (na_Tape__results : PySem.W.findIn K (.ref C_Tape) "_results" = some none)
    (na_Tape_taken : PySem.W.findIn K (.ref C_Tape) "taken" = some none)
    (ac_MODULUS : PySem.W.nsIn K mainGlobals "MODULUS" = some (some (.int 65536 tk_MODULUS)))
    (ac_GREATEST_NUMBER : PySem.W.nsIn K mainGlobals "GREATEST_NUMBER" = some (some (.int 65535 tk_GREATEST_NUMBER)))
    (ac_EVENT_NUMBERS : PySem.W.nsIn K mainGlobals "EVENT_NUMBERS" = some (some (.ref A_EVENT_NUMBERS)))
    (lk_EVENT_NUMBERS : K.lookup A_EVENT_NUMBERS = some ⟨.type "dict", none, .dict es_EVENT_NUMBERS en_EVENT_NUMBERS, #[]⟩)
    (kl_EVENT_NUMBERS : PySem.W.KeysLit w.params es_EVENT_NUMBERS.toList)
    (nk_EVENT_NUMBERS_0 : PySem.W.nsIn K A_EVENT_NUMBERS "round" = some (some (.int 1 tk_EVENT_NUMBERS_0)))
    (nk_EVENT_NUMBERS_1 : PySem.W.nsIn K A_EVENT_NUMBERS "told" = some (some (.int 2 tk_EVENT_NUMBERS_1)))
    (nk_EVENT_NUMBERS_2 : PySem.W.nsIn K A_EVENT_NUMBERS "move" = some (some (.int 3 tk_EVENT_NUMBERS_2)))
    (nk_EVENT_NUMBERS_3 : PySem.W.nsIn K A_EVENT_NUMBERS "did" = some (some (.int 4 tk_EVENT_NUMBERS_3)))
    (a1 : PySem.W.nsIn K mainGlobals "combine" = some (some (.ref f1)))
    (l1 : K.lookup f1 = some ⟨oc1, od1, .func (PySem.W.fnOf "combine" "combine" (defArgs s_combine) (defBody s_combine) (defScope s_combine) .none kV1 dc1 pm1 an1 cd1 ct1), sl1⟩)
    (c1 : PySem.W.codeIn K cd1 "combine" = true)
    (k1 : PySem.W.keepIn K (.ref f1) = true)
    (a2 : PySem.W.nsIn K mainGlobals "value_of" = some (some (.ref f2)))
    (l2 : K.lookup f2 = some ⟨oc2, od2, .func (PySem.W.fnOf "value_of" "value_of" (defArgs s_value_of) (defBody s_value_of) (defScope s_value_of) (.ref Tt2) kV2 dc2 pm2 an2 cd2 ct2), sl2⟩)
    (c2 : PySem.W.codeIn K cd2 "value_of" = true)
    (k2 : PySem.W.keepIn K (.ref f2) = true)
    (t2 : K.lookup Tt2 = some ⟨tc2, td2, .seq #[.ref zt2] tn2, tl2⟩)
    (zk2 : K.lookup zt2 = some ⟨.type "tuple", zd2, .seq #[] zn2, zl2⟩)
    (a3 : PySem.W.nsIn K mainGlobals "view_numbers" = some (some (.ref f3)))
    (l3 : K.lookup f3 = some ⟨oc3, od3, .func (PySem.W.fnOf "view_numbers" "view_numbers" (defArgs s_view_numbers) (defBody s_view_numbers) (defScope s_view_numbers) .none kV3 dc3 pm3 an3 cd3 ct3), sl3⟩)
    (c3 : PySem.W.codeIn K cd3 "view_numbers" = true)
    (k3 : PySem.W.keepIn K (.ref f3) = true)
    (a4 : PySem.W.findIn K (.ref C_Thought) "_enter" = some (some (.ref f4)))
    (i4 : PySem.W.isFn K (.ref f4) = true)
    (l4 : K.lookup f4 = some ⟨oc4, od4, .func (PySem.W.fnOf "_enter" "Thought._enter" (defArgs s_Thought_enter) (defBody s_Thought_enter) (defScope s_Thought_enter) .none kV4 dc4 pm4 an4 cd4 ct4), sl4⟩)
    (c4 : PySem.W.codeIn K cd4 "Thought._enter" = true)
    (k4 : PySem.W.keepIn K (.ref f4) = true)
    (a5 : PySem.W.findIn K (.ref C_Thought) "__init__" = some (some (.ref f5)))
    (i5 : PySem.W.isFn K (.ref f5) = true)
    (l5 : K.lookup f5 = some ⟨oc5, od5, .func (PySem.W.fnOf "__init__" "Thought.__init__" (defArgs s_Thought_init) (defBody s_Thought_init) (defScope s_Thought_init) .none kV5 dc5 pm5 an5 cd5 ct5), sl5⟩)
    (c5 : PySem.W.codeIn K cd5 "Thought.__init__" = true)
    (k5 : PySem.W.keepIn K (.ref f5) = true)
    (a6 : PySem.W.findIn K (.ref C_Thought) "after" = some (some (.ref f6)))
    (i6 : PySem.W.isFn K (.ref f6) = true)
    (l6 : K.lookup f6 = some ⟨oc6, od6, .func (PySem.W.fnOf "after" "Thought.after" (defArgs s_Thought_after) (defBody s_Thought_after) (defScope s_Thought_after) .none kV6 dc6 pm6 an6 cd6 ct6), sl6⟩)
    (c6 : PySem.W.codeIn K cd6 "Thought.after" = true)
    (k6 : PySem.W.keepIn K (.ref f6) = true)
    (a7 : PySem.W.findIn K (.ref C_Thought) "_give" = some (some (.ref f7)))
    (i7 : PySem.W.isFn K (.ref f7) = true)
    (l7 : K.lookup f7 = some ⟨oc7, od7, .func (PySem.W.fnOf "_give" "Thought._give" (defArgs s_Thought_give) (defBody s_Thought_give) (defScope s_Thought_give) .none kV7 dc7 pm7 an7 cd7 ct7), sl7⟩)
    (c7 : PySem.W.codeIn K cd7 "Thought._give" = true)
    (k7 : PySem.W.keepIn K (.ref f7) = true)
    (a8 : PySem.W.findIn K (.ref C_Thought) "_value" = some (some (.ref f8)))
    (i8 : PySem.W.isFn K (.ref f8) = true)
    (l8 : K.lookup f8 = some ⟨oc8, od8, .func (PySem.W.fnOf "_value" "Thought._value" (defArgs s_Thought_value) (defBody s_Thought_value) (defScope s_Thought_value) .none kV8 dc8 pm8 an8 cd8 ct8), sl8⟩)
    (c8 : PySem.W.codeIn K cd8 "Thought._value" = true)
    (k8 : PySem.W.keepIn K (.ref f8) = true)
    (a9 : PySem.W.findIn K (.ref C_Thought) "_do" = some (some (.ref f9)))
    (i9 : PySem.W.isFn K (.ref f9) = true)
    (l9 : K.lookup f9 = some ⟨oc9, od9, .func (PySem.W.fnOf "_do" "Thought._do" (defArgs s_Thought_do) (defBody s_Thought_do) (defScope s_Thought_do) .none kV9 dc9 pm9 an9 cd9 ct9), sl9⟩)
    (c9 : PySem.W.codeIn K cd9 "Thought._do" = true)
    (k9 : PySem.W.keepIn K (.ref f9) = true)
    (a10 : PySem.W.findIn K (.ref C_Thought) "go_on" = some (some (.ref f10)))
    (i10 : PySem.W.isFn K (.ref f10) = true)
    (l10 : K.lookup f10 = some ⟨oc10, od10, .func (PySem.W.fnOf "go_on" "Thought.go_on" (defArgs s_Thought_go_on) (defBody s_Thought_go_on) (defScope s_Thought_go_on) .none kV10 dc10 pm10 an10 cd10 ct10), sl10⟩)
    (c10 : PySem.W.codeIn K cd10 "Thought.go_on" = true)
    (k10 : PySem.W.keepIn K (.ref f10) = true)
    (a11 : PySem.W.findIn K (.ref C_Thought) "move_and_cells" = some (some (.ref f11)))
    (i11 : PySem.W.isFn K (.ref f11) = true)
    (l11 : K.lookup f11 = some ⟨oc11, od11, .func (PySem.W.fnOf "move_and_cells" "Thought.move_and_cells" (defArgs s_Thought_move_and_cells) (defBody s_Thought_move_and_cells) (defScope s_Thought_move_and_cells) .none kV11 dc11 pm11 an11 cd11 ct11), sl11⟩)
    (c11 : PySem.W.codeIn K cd11 "Thought.move_and_cells" = true)
    (k11 : PySem.W.keepIn K (.ref f11) = true)
    (a12 : PySem.W.findIn K (.ref C_Tape) "take" = some (some (.ref f12)))
    (i12 : PySem.W.isFn K (.ref f12) = true)
    (l12 : K.lookup f12 = some ⟨oc12, od12, .func (PySem.W.fnOf "take" "Tape.take" (defArgs s_Tape_take) (defBody s_Tape_take) (defScope s_Tape_take) .none kV12 dc12 pm12 an12 cd12 ct12), sl12⟩)
    (c12 : PySem.W.codeIn K cd12 "Tape.take" = true)
    (k12 : PySem.W.keepIn K (.ref f12) = true)
    (a13 : PySem.W.nsIn K mainGlobals "think" = some (some (.ref f13)))
    (l13 : K.lookup f13 = some ⟨oc13, od13, .func (PySem.W.fnOf "think" "think" (defArgs s_think) (defBody s_think) (defScope s_think) .none kV13 dc13 pm13 an13 cd13 ct13), sl13⟩)
    (c13 : PySem.W.codeIn K cd13 "think" = true)
    (k13 : PySem.W.keepIn K (.ref f13) = true)
    (a14 : PySem.W.findIn K (.ref C_Brain) "__init__" = some (some (.ref f14)))
    (i14 : PySem.W.isFn K (.ref f14) = true)
    (l14 : K.lookup f14 = some ⟨oc14, od14, .func (PySem.W.fnOf "__init__" "Brain.__init__" (defArgs s_Brain_init) (defBody s_Brain_init) (defScope s_Brain_init) .none kV14 dc14 pm14 an14 cd14 ct14), sl14⟩)
    (c14 : PySem.W.codeIn K cd14 "Brain.__init__" = true)
    (k14 : PySem.W.keepIn K (.ref f14) = true)
    (a15 : PySem.W.findIn K (.ref C_Tape) "__init__" = some (some (.ref f15)))
    (i15 : PySem.W.isFn K (.ref f15) = true)
    (l15 : K.lookup f15 = some ⟨oc15, od15, .func (PySem.W.fnOf "__init__" "Tape.__init__" (defArgs s_Tape_init) (defBody s_Tape_init) (defScope s_Tape_init) .none kV15 dc15 pm15 an15 cd15 ct15), sl15⟩)
    (c15 : PySem.W.codeIn K cd15 "Tape.__init__" = true)
    (k15 : PySem.W.keepIn K (.ref f15) = true)
    (a16 : PySem.W.nsIn K mainGlobals "_law_pool" = some (some (.ref f16)))
    (l16 : K.lookup f16 = some ⟨oc16, od16, .func (PySem.W.fnOf "_law_pool" "_law_pool" (defArgs s_law_pool) (defBody s_law_pool) (defScope s_law_pool) .none kV16 dc16 pm16 an16 cd16 ct16), sl16⟩)
    (c16 : PySem.W.codeIn K cd16 "_law_pool" = true)
    (k16 : PySem.W.keepIn K (.ref f16) = true)
    (a17 : PySem.W.nsIn K mainGlobals "_law_draw" = some (some (.ref f17)))
    (l17 : K.lookup f17 = some ⟨oc17, od17, .func (PySem.W.fnOf "_law_draw" "_law_draw" (defArgs s_law_draw) (defBody s_law_draw) (defScope s_law_draw) .none kV17 dc17 pm17 an17 cd17 ct17), sl17⟩)
    (c17 : PySem.W.codeIn K cd17 "_law_draw" = true)
    (k17 : PySem.W.keepIn K (.ref f17) = true)
    (a18 : PySem.W.nsIn K mainGlobals "_law_spend" = some (some (.ref f18)))
    (l18 : K.lookup f18 = some ⟨oc18, od18, .func (PySem.W.fnOf "_law_spend" "_law_spend" (defArgs s_law_spend) (defBody s_law_spend) (defScope s_law_spend) .none kV18 dc18 pm18 an18 cd18 ct18), sl18⟩)
    (c18 : PySem.W.codeIn K cd18 "_law_spend" = true)
    (k18 : PySem.W.keepIn K (.ref f18) = true)
    (a19 : PySem.W.nsIn K mainGlobals "_law_few" = some (some (.ref f19)))
    (l19 : K.lookup f19 = some ⟨oc19, od19, .func (PySem.W.fnOf "_law_few" "_law_few" (defArgs s_law_few) (defBody s_law_few) (defScope s_law_few) .none kV19 dc19 pm19 an19 cd19 ct19), sl19⟩)
    (c19 : PySem.W.codeIn K cd19 "_law_few" = true)
    (k19 : PySem.W.keepIn K (.ref f19) = true)
    (a20 : PySem.W.nsIn K mainGlobals "_law_number" = some (some (.ref f20)))
    (l20 : K.lookup f20 = some ⟨oc20, od20, .func (PySem.W.fnOf "_law_number" "_law_number" (defArgs s_law_number) (defBody s_law_number) (defScope s_law_number) .none kV20 dc20 pm20 an20 cd20 ct20), sl20⟩)
    (c20 : PySem.W.codeIn K cd20 "_law_number" = true)
    (k20 : PySem.W.keepIn K (.ref f20) = true)
    (a21 : PySem.W.nsIn K mainGlobals "_law_same" = some (some (.ref f21)))
    (l21 : K.lookup f21 = some ⟨oc21, od21, .func (PySem.W.fnOf "_law_same" "_law_same" (defArgs s_law_same) (defBody s_law_same) (defScope s_law_same) .none kV21 dc21 pm21 an21 cd21 ct21), sl21⟩)
    (c21 : PySem.W.codeIn K cd21 "_law_same" = true)
    (k21 : PySem.W.keepIn K (.ref f21) = true)
    (a22 : PySem.W.nsIn K mainGlobals "_law_keys" = some (some (.ref f22)))
    (l22 : K.lookup f22 = some ⟨oc22, od22, .func (PySem.W.fnOf "_law_keys" "_law_keys" (defArgs s_law_keys) (defBody s_law_keys) (defScope s_law_keys) .none kV22 dc22 pm22 an22 cd22 ct22), sl22⟩)
    (c22 : PySem.W.codeIn K cd22 "_law_keys" = true)
    (k22 : PySem.W.keepIn K (.ref f22) = true)
    (a23 : PySem.W.nsIn K mainGlobals "_law_name" = some (some (.ref f23)))
    (l23 : K.lookup f23 = some ⟨oc23, od23, .func (PySem.W.fnOf "_law_name" "_law_name" (defArgs s_law_name) (defBody s_law_name) (defScope s_law_name) .none kV23 dc23 pm23 an23 cd23 ct23), sl23⟩)
    (c23 : PySem.W.codeIn K cd23 "_law_name" = true)
    (k23 : PySem.W.keepIn K (.ref f23) = true)
    (a24 : PySem.W.nsIn K mainGlobals "_law_names" = some (some (.ref f24)))
    (l24 : K.lookup f24 = some ⟨oc24, od24, .func (PySem.W.fnOf "_law_names" "_law_names" (defArgs s_law_names) (defBody s_law_names) (defScope s_law_names) .none kV24 dc24 pm24 an24 cd24 ct24), sl24⟩)
    (c24 : PySem.W.codeIn K cd24 "_law_names" = true)
    (k24 : PySem.W.keepIn K (.ref f24) = true)
    (a25 : PySem.W.nsIn K mainGlobals "_law_expression" = some (some (.ref f25)))
    (l25 : K.lookup f25 = some ⟨oc25, od25, .func (PySem.W.fnOf "_law_expression" "_law_expression" (defArgs s_law_expression) (defBody s_law_expression) (defScope s_law_expression) .none kV25 dc25 pm25 an25 cd25 ct25), sl25⟩)
    (c25 : PySem.W.codeIn K cd25 "_law_expression" = true)
    (k25 : PySem.W.keepIn K (.ref f25) = true)
    (a26 : PySem.W.nsIn K mainGlobals "_law_thought" = some (some (.ref f26)))
    (l26 : K.lookup f26 = some ⟨oc26, od26, .func (PySem.W.fnOf "_law_thought" "_law_thought" (defArgs s_law_thought) (defBody s_law_thought) (defScope s_law_thought) .none kV26 dc26 pm26 an26 cd26 ct26), sl26⟩)
    (c26 : PySem.W.codeIn K cd26 "_law_thought" = true)
    (k26 : PySem.W.keepIn K (.ref f26) = true)
    (a27 : PySem.W.nsIn K mainGlobals "_law_thoughts" = some (some (.ref f27)))
    (l27 : K.lookup f27 = some ⟨oc27, od27, .func (PySem.W.fnOf "_law_thoughts" "_law_thoughts" (defArgs s_law_thoughts) (defBody s_law_thoughts) (defScope s_law_thoughts) .none kV27 dc27 pm27 an27 cd27 ct27), sl27⟩)
    (c27 : PySem.W.codeIn K cd27 "_law_thoughts" = true)
    (k27 : PySem.W.keepIn K (.ref f27) = true)
    (a28 : PySem.W.nsIn K mainGlobals "_law_brain" = some (some (.ref f28)))
    (l28 : K.lookup f28 = some ⟨oc28, od28, .func (PySem.W.fnOf "_law_brain" "_law_brain" (defArgs s_law_brain) (defBody s_law_brain) (defScope s_law_brain) .none kV28 dc28 pm28 an28 cd28 ct28), sl28⟩)
    (c28 : PySem.W.codeIn K cd28 "_law_brain" = true)
    (k28 : PySem.W.keepIn K (.ref f28) = true)
    (a29 : PySem.W.nsIn K mainGlobals "_law_combine" = some (some (.ref f29)))
    (l29 : K.lookup f29 = some ⟨oc29, od29, .func (PySem.W.fnOf "_law_combine" "_law_combine" (defArgs s_law_combine) (defBody s_law_combine) (defScope s_law_combine) .none kV29 dc29 pm29 an29 cd29 ct29), sl29⟩)
    (c29 : PySem.W.codeIn K cd29 "_law_combine" = true)
    (k29 : PySem.W.keepIn K (.ref f29) = true)
    (a30 : PySem.W.nsIn K mainGlobals "_law_value" = some (some (.ref f30)))
    (l30 : K.lookup f30 = some ⟨oc30, od30, .func (PySem.W.fnOf "_law_value" "_law_value" (defArgs s_law_value) (defBody s_law_value) (defScope s_law_value) .none kV30 dc30 pm30 an30 cd30 ct30), sl30⟩)
    (c30 : PySem.W.codeIn K cd30 "_law_value" = true)
    (k30 : PySem.W.keepIn K (.ref f30) = true)
    (a31 : PySem.W.nsIn K mainGlobals "_law_seen" = some (some (.ref f31)))
    (l31 : K.lookup f31 = some ⟨oc31, od31, .func (PySem.W.fnOf "_law_seen" "_law_seen" (defArgs s_law_seen) (defBody s_law_seen) (defScope s_law_seen) .none kV31 dc31 pm31 an31 cd31 ct31), sl31⟩)
    (c31 : PySem.W.codeIn K cd31 "_law_seen" = true)
    (k31 : PySem.W.keepIn K (.ref f31) = true)
    (a32 : PySem.W.nsIn K mainGlobals "_law_fall" = some (some (.ref f32)))
    (l32 : K.lookup f32 = some ⟨oc32, od32, .func (PySem.W.fnOf "_law_fall" "_law_fall" (defArgs s_law_fall) (defBody s_law_fall) (defScope s_law_fall) .none kV32 dc32 pm32 an32 cd32 ct32), sl32⟩)
    (c32 : PySem.W.codeIn K cd32 "_law_fall" = true)
    (k32 : PySem.W.keepIn K (.ref f32) = true)
    (a33 : PySem.W.nsIn K mainGlobals "_law_unit" = some (some (.ref f33)))
    (l33 : K.lookup f33 = some ⟨oc33, od33, .func (PySem.W.fnOf "_law_unit" "_law_unit" (defArgs s_law_unit) (defBody s_law_unit) (defScope s_law_unit) .none kV33 dc33 pm33 an33 cd33 ct33), sl33⟩)
    (c33 : PySem.W.codeIn K cd33 "_law_unit" = true)
    (k33 : PySem.W.keepIn K (.ref f33) = true)
    (a34 : PySem.W.nsIn K mainGlobals "_law_run" = some (some (.ref f34)))
    (l34 : K.lookup f34 = some ⟨oc34, od34, .func (PySem.W.fnOf "_law_run" "_law_run" (defArgs s_law_run) (defBody s_law_run) (defScope s_law_run) .none kV34 dc34 pm34 an34 cd34 ct34), sl34⟩)
    (c34 : PySem.W.codeIn K cd34 "_law_run" = true)
    (k34 : PySem.W.keepIn K (.ref f34) = true)
    (a35 : PySem.W.nsIn K mainGlobals "_law_think" = some (some (.ref f35)))
    (l35 : K.lookup f35 = some ⟨oc35, od35, .func (PySem.W.fnOf "_law_think" "_law_think" (defArgs s_law_think) (defBody s_law_think) (defScope s_law_think) .none kV35 dc35 pm35 an35 cd35 ct35), sl35⟩)
    (c35 : PySem.W.codeIn K cd35 "_law_think" = true)
    (k35 : PySem.W.keepIn K (.ref f35) = true)
    (a36 : PySem.W.nsIn K mainGlobals "_law_view" = some (some (.ref f36)))
    (l36 : K.lookup f36 = some ⟨oc36, od36, .func (PySem.W.fnOf "_law_view" "_law_view" (defArgs s_law_view) (defBody s_law_view) (defScope s_law_view) .none kV36 dc36 pm36 an36 cd36 ct36), sl36⟩)
    (c36 : PySem.W.codeIn K cd36 "_law_view" = true)
    (k36 : PySem.W.keepIn K (.ref f36) = true)
    (a37 : PySem.W.nsIn K mainGlobals "law" = some (some (.ref f37)))
    (l37 : K.lookup f37 = some ⟨oc37, od37, .func (PySem.W.fnOf "law" "law" (defArgs s_law) (defBody s_law) (defScope s_law) .none kV37 dc37 pm37 an37 cd37 ct37), sl37⟩)
    (c37 : PySem.W.codeIn K cd37 "law" = true)
    (k37 : PySem.W.keepIn K (.ref f37) = true)
    (z_bool : PySem.W.nsIn K mainGlobals "bool" = some none)
    (z_dict : PySem.W.nsIn K mainGlobals "dict" = some none)
    (z_int : PySem.W.nsIn K mainGlobals "int" = some none)
    (z_isinstance : PySem.W.nsIn K mainGlobals "isinstance" = some none)
    (z_len : PySem.W.nsIn K mainGlobals "len" = some none)
    (z_list : PySem.W.nsIn K mainGlobals "list" = some none)
    (z_max : PySem.W.nsIn K mainGlobals "max" = some none)
    (z_min : PySem.W.nsIn K mainGlobals "min" = some none)
    (z_range : PySem.W.nsIn K mainGlobals "range" = some none)
    (z_str : PySem.W.nsIn K mainGlobals "str" = some none)
    (z_tuple : PySem.W.nsIn K mainGlobals "tuple" = some none)
    (z_zip : PySem.W.nsIn K mainGlobals "zip" = some none) :
    ∃ fd : FuncData, (∀ (s : Shared) (v : Value), BindsTo s fd ⟨[v], []⟩ [("script", v)]) ∧ ∀ base : Heap, K.In base → base.Ns mainGlobals mg → FnOk l.prog w K mg base CX0 35 fa fd ["script"] (spLaw K) := by
  have e := hfa.symm.trans (PySem.W.mg_of X G a37)
  cases e
  have FD2 : FunD K "value_of" "value_of" (defArgs s_value_of) (defBody s_value_of) (defScope s_value_of) [.ref zt2] [] f2 _ := ⟨⟨_, _, _, _, _, _, _, _, _, _, rfl, l2, c2, .inr ⟨(by simp), _, _, _, _, rfl, t2, rfl, (.cons (by first | exact ⟨_, rfl⟩ | rfl) .nil)⟩, .inl rfl⟩, k2⟩
  obtain ⟨dz2, vz2, bz2⟩ := FD2.binds1 (ps := ["expression", "table", "on", "seen"]) 4 1 (by simp) (by first | decide | rfl) (fun _ _ _ _ _ _ _ us its h1 h2 => match us, its, h1, h2 with | [_, _, _, _], [_], _, _ => ⟨_, rfl, rfl⟩)
  cases vz2
  obtain ⟨ds2, vd2, bd2⟩ := FD2.binds1 (ps := ["expression", "table", "on", "seen"]) 3 0 (by simp) (by first | decide | rfl) (fun _ _ _ _ _ _ _ us its h1 h2 => match us, its, h1, h2 with | [_, _, _], [_], _, _ => ⟨_, rfl, rfl⟩)
  let T : Txt K mg w := { C_Thought := C_Thought, m_Thought := PySem.W.mg_of X G ac_Thought, cl_Thought := ⟨pg_Thought, hd_Thought, po_Thought, sa_Thought⟩, n_Thought__brain := na_Thought__brain, n_Thought__before := na_Thought__before, n_Thought__seen := na_Thought__seen, n_Thought__table := na_Thought__table, n_Thought__left := na_Thought__left, n_Thought__todo := na_Thought__todo, n_Thought__silent := na_Thought__silent, n_Thought__cell := na_Thought__cell, n_Thought_results := na_Thought_results, C_Brain := C_Brain, m_Brain := PySem.W.mg_of X G ac_Brain, cl_Brain := ⟨pg_Brain, hd_Brain, po_Brain, sa_Brain⟩, n_Brain_units := na_Brain_units, n_Brain_cells := na_Brain_cells, n_Brain_block := na_Brain_block, n_Brain_answer := na_Brain_answer, C_Tape := C_Tape, m_Tape := PySem.W.mg_of X G ac_Tape, cl_Tape := ⟨pg_Tape, hd_Tape, po_Tape, sa_Tape⟩, n_Tape__results := na_Tape__results, n_Tape_taken := na_Tape_taken, v_MODULUS := _, g_MODULUS := PySem.W.mg_of X G ac_MODULUS, r_MODULUS := ⟨_, rfl⟩, v_GREATEST_NUMBER := _, g_GREATEST_NUMBER := PySem.W.mg_of X G ac_GREATEST_NUMBER, r_GREATEST_NUMBER := ⟨_, rfl⟩, A_EVENT_NUMBERS := A_EVENT_NUMBERS, g_EVENT_NUMBERS := PySem.W.mg_of X G ac_EVENT_NUMBERS, kd_EVENT_NUMBERS_0 := ⟨_, _, _, lk_EVENT_NUMBERS, kl_EVENT_NUMBERS, nk_EVENT_NUMBERS_0, by first | exact ⟨_, rfl⟩ | rfl⟩, kd_EVENT_NUMBERS_1 := ⟨_, _, _, lk_EVENT_NUMBERS, kl_EVENT_NUMBERS, nk_EVENT_NUMBERS_1, by first | exact ⟨_, rfl⟩ | rfl⟩, kd_EVENT_NUMBERS_2 := ⟨_, _, _, lk_EVENT_NUMBERS, kl_EVENT_NUMBERS, nk_EVENT_NUMBERS_2, by first | exact ⟨_, rfl⟩ | rfl⟩, kd_EVENT_NUMBERS_3 := ⟨_, _, _, lk_EVENT_NUMBERS, kl_EVENT_NUMBERS, nk_EVENT_NUMBERS_3, by first | exact ⟨_, rfl⟩ | rfl⟩, a_combine := f1, d_combine := _, F_combine := fun_mk (st := s_combine) l1 c1 k1, b_combine := (fun_mk (st := s_combine) l1 c1 k1).binds (ps := ["sign", "left", "right"]) (fun _ _ _ _ _ _ us hl => match us, hl with | [_, _, _], _ => rfl), m_combine := PySem.W.mg_of X G a1, z_value_of := zt2, qz_value_of := fun H => .inr ⟨_, _, _, zk2, rfl, rfl, by show 0 ≤ sizeLine; decide, .nil⟩, a_value_of := f2, d_value_of := _, F_value_of := FD2, ds_value_of := ds2, v_value_of := vd2, bd_value_of := bd2, b_value_of := bz2, m_value_of := PySem.W.mg_of X G a2, a_view_numbers := f3, d_view_numbers := _, F_view_numbers := fun_mk (st := s_view_numbers) l3 c3 k3, b_view_numbers := (fun_mk (st := s_view_numbers) l3 c3 k3).binds (ps := ["view"]) (fun _ _ _ _ _ _ us hl => match us, hl with | [_], _ => rfl), m_view_numbers := PySem.W.mg_of X G a3, a_Thought_enter := f4, d_Thought_enter := _, F_Thought_enter := fun_mk (st := s_Thought_enter) l4 c4 k4, b_Thought_enter := (fun_mk (st := s_Thought_enter) l4 c4 k4).binds (ps := ["self", "block"]) (fun _ _ _ _ _ _ us hl => match us, hl with | [_, _], _ => rfl), me_Thought_enter := ⟨a4, i4, k4⟩, a_Thought_init := f5, d_Thought_init := _, F_Thought_init := fun_mk (st := s_Thought_init) l5 c5 k5, b_Thought_init := (fun_mk (st := s_Thought_init) l5 c5 k5).binds (ps := ["self", "brain", "cells", "seen"]) (fun _ _ _ _ _ _ us hl => match us, hl with | [_, _, _, _], _ => rfl), mk_Thought := ⟨mkc_Thought, a5, i5, kpc_Thought⟩, a_Thought_after := f6, d_Thought_after := _, F_Thought_after := fun_mk (st := s_Thought_after) l6 c6 k6, b_Thought_after := (fun_mk (st := s_Thought_after) l6 c6 k6).binds (ps := ["self", "result"]) (fun _ _ _ _ _ _ us hl => match us, hl with | [_, _], _ => rfl), me_Thought_after := ⟨a6, i6, k6⟩, a_Thought_give := f7, d_Thought_give := _, F_Thought_give := fun_mk (st := s_Thought_give) l7 c7 k7, b_Thought_give := (fun_mk (st := s_Thought_give) l7 c7 k7).binds (ps := ["self", "kind", "cell", "value"]) (fun _ _ _ _ _ _ us hl => match us, hl with | [_, _, _, _], _ => rfl), me_Thought_give := ⟨a7, i7, k7⟩, a_Thought_value := f8, d_Thought_value := _, F_Thought_value := fun_mk (st := s_Thought_value) l8 c8 k8, b_Thought_value := (fun_mk (st := s_Thought_value) l8 c8 k8).binds (ps := ["self", "expression"]) (fun _ _ _ _ _ _ us hl => match us, hl with | [_, _], _ => rfl), me_Thought_value := ⟨a8, i8, k8⟩, a_Thought_do := f9, d_Thought_do := _, F_Thought_do := fun_mk (st := s_Thought_do) l9 c9 k9, b_Thought_do := (fun_mk (st := s_Thought_do) l9 c9 k9).binds (ps := ["self", "statement"]) (fun _ _ _ _ _ _ us hl => match us, hl with | [_, _], _ => rfl), me_Thought_do := ⟨a9, i9, k9⟩, a_Thought_go_on := f10, d_Thought_go_on := _, F_Thought_go_on := fun_mk (st := s_Thought_go_on) l10 c10 k10, b_Thought_go_on := (fun_mk (st := s_Thought_go_on) l10 c10 k10).binds (ps := ["self"]) (fun _ _ _ _ _ _ us hl => match us, hl with | [_], _ => rfl), me_Thought_go_on := ⟨a10, i10, k10⟩, a_Thought_move_and_cells := f11, d_Thought_move_and_cells := _, F_Thought_move_and_cells := fun_mk (st := s_Thought_move_and_cells) l11 c11 k11, b_Thought_move_and_cells := (fun_mk (st := s_Thought_move_and_cells) l11 c11 k11).binds (ps := ["self", "count"]) (fun _ _ _ _ _ _ us hl => match us, hl with | [_, _], _ => rfl), me_Thought_move_and_cells := ⟨a11, i11, k11⟩, a_Tape_take := f12, d_Tape_take := _, F_Tape_take := fun_mk (st := s_Tape_take) l12 c12 k12, b_Tape_take := (fun_mk (st := s_Tape_take) l12 c12 k12).binds (ps := ["self", "count"]) (fun _ _ _ _ _ _ us hl => match us, hl with | [_, _], _ => rfl), me_Tape_take := ⟨a12, i12, k12⟩, a_think := f13, d_think := _, F_think := fun_mk (st := s_think) l13 c13 k13, b_think := (fun_mk (st := s_think) l13 c13 k13).binds (ps := ["brain", "cells", "view", "count", "tape"]) (fun _ _ _ _ _ _ us hl => match us, hl with | [_, _, _, _, _], _ => rfl), m_think := PySem.W.mg_of X G a13, a_Brain_init := f14, d_Brain_init := _, F_Brain_init := fun_mk (st := s_Brain_init) l14 c14 k14, b_Brain_init := (fun_mk (st := s_Brain_init) l14 c14 k14).binds (ps := ["self", "units", "cells", "block", "answer"]) (fun _ _ _ _ _ _ us hl => match us, hl with | [_, _, _, _, _], _ => rfl), mk_Brain := ⟨mkc_Brain, a14, i14, kpc_Brain⟩, a_Tape_init := f15, d_Tape_init := _, F_Tape_init := fun_mk (st := s_Tape_init) l15 c15 k15, b_Tape_init := (fun_mk (st := s_Tape_init) l15 c15 k15).binds (ps := ["self", "results"]) (fun _ _ _ _ _ _ us hl => match us, hl with | [_, _], _ => rfl), mk_Tape := ⟨mkc_Tape, a15, i15, kpc_Tape⟩, a_law_pool := f16, d_law_pool := _, F_law_pool := fun_mk (st := s_law_pool) l16 c16 k16, b_law_pool := (fun_mk (st := s_law_pool) l16 c16 k16).binds (ps := ["script", "budget"]) (fun _ _ _ _ _ _ us hl => match us, hl with | [_, _], _ => rfl), m_law_pool := PySem.W.mg_of X G a16, a_law_draw := f17, d_law_draw := _, F_law_draw := fun_mk (st := s_law_draw) l17 c17 k17, b_law_draw := (fun_mk (st := s_law_draw) l17 c17 k17).binds (ps := ["pool", "size"]) (fun _ _ _ _ _ _ us hl => match us, hl with | [_, _], _ => rfl), m_law_draw := PySem.W.mg_of X G a17, a_law_spend := f18, d_law_spend := _, F_law_spend := fun_mk (st := s_law_spend) l18 c18 k18, b_law_spend := (fun_mk (st := s_law_spend) l18 c18 k18).binds (ps := ["pool"]) (fun _ _ _ _ _ _ us hl => match us, hl with | [_], _ => rfl), m_law_spend := PySem.W.mg_of X G a18, a_law_few := f19, d_law_few := _, F_law_few := fun_mk (st := s_law_few) l19 c19 k19, b_law_few := (fun_mk (st := s_law_few) l19 c19 k19).binds (ps := ["pool", "most"]) (fun _ _ _ _ _ _ us hl => match us, hl with | [_, _], _ => rfl), m_law_few := PySem.W.mg_of X G a19, a_law_number := f20, d_law_number := _, F_law_number := fun_mk (st := s_law_number) l20 c20 k20, b_law_number := (fun_mk (st := s_law_number) l20 c20 k20).binds (ps := ["pool"]) (fun _ _ _ _ _ _ us hl => match us, hl with | [_], _ => rfl), m_law_number := PySem.W.mg_of X G a20, a_law_same := f21, d_law_same := _, F_law_same := fun_mk (st := s_law_same) l21 c21 k21, b_law_same := (fun_mk (st := s_law_same) l21 c21 k21).binds (ps := ["actual", "due"]) (fun _ _ _ _ _ _ us hl => match us, hl with | [_, _], _ => rfl), m_law_same := PySem.W.mg_of X G a21, a_law_keys := f22, d_law_keys := _, F_law_keys := fun_mk (st := s_law_keys) l22 c22 k22, b_law_keys := (fun_mk (st := s_law_keys) l22 c22 k22).binds (ps := []) (fun _ _ _ _ _ _ us hl => match us, hl with | [], _ => rfl), m_law_keys := PySem.W.mg_of X G a22, a_law_name := f23, d_law_name := _, F_law_name := fun_mk (st := s_law_name) l23 c23 k23, b_law_name := (fun_mk (st := s_law_name) l23 c23 k23).binds (ps := ["pool", "taken"]) (fun _ _ _ _ _ _ us hl => match us, hl with | [_, _], _ => rfl), m_law_name := PySem.W.mg_of X G a23, a_law_names := f24, d_law_names := _, F_law_names := fun_mk (st := s_law_names) l24 c24 k24, b_law_names := (fun_mk (st := s_law_names) l24 c24 k24).binds (ps := ["pool", "most"]) (fun _ _ _ _ _ _ us hl => match us, hl with | [_, _], _ => rfl), m_law_names := PySem.W.mg_of X G a24, a_law_expression := f25, d_law_expression := _, F_law_expression := fun_mk (st := s_law_expression) l25 c25 k25, b_law_expression := (fun_mk (st := s_law_expression) l25 c25 k25).binds (ps := ["pool", "names", "deep"]) (fun _ _ _ _ _ _ us hl => match us, hl with | [_, _, _], _ => rfl), m_law_expression := PySem.W.mg_of X G a25, a_law_thought := f26, d_law_thought := _, F_law_thought := fun_mk (st := s_law_thought) l26 c26 k26, b_law_thought := (fun_mk (st := s_law_thought) l26 c26 k26).binds (ps := ["pool", "names", "deep", "loops"]) (fun _ _ _ _ _ _ us hl => match us, hl with | [_, _, _, _], _ => rfl), m_law_thought := PySem.W.mg_of X G a26, a_law_thoughts := f27, d_law_thoughts := _, F_law_thoughts := fun_mk (st := s_law_thoughts) l27 c27 k27, b_law_thoughts := (fun_mk (st := s_law_thoughts) l27 c27 k27).binds (ps := ["pool", "names", "deep", "loops"]) (fun _ _ _ _ _ _ us hl => match us, hl with | [_, _, _, _], _ => rfl), m_law_thoughts := PySem.W.mg_of X G a27, a_law_brain := f28, d_law_brain := _, F_law_brain := fun_mk (st := s_law_brain) l28 c28 k28, b_law_brain := (fun_mk (st := s_law_brain) l28 c28 k28).binds (ps := ["pool", "units", "loops"]) (fun _ _ _ _ _ _ us hl => match us, hl with | [_, _, _], _ => rfl), m_law_brain := PySem.W.mg_of X G a28, a_law_combine := f29, d_law_combine := _, F_law_combine := fun_mk (st := s_law_combine) l29 c29 k29, b_law_combine := (fun_mk (st := s_law_combine) l29 c29 k29).binds (ps := ["sign", "a", "b"]) (fun _ _ _ _ _ _ us hl => match us, hl with | [_, _, _], _ => rfl), m_law_combine := PySem.W.mg_of X G a29, a_law_value := f30, d_law_value := _, F_law_value := fun_mk (st := s_law_value) l30 c30 k30, b_law_value := (fun_mk (st := s_law_value) l30 c30 k30).binds (ps := ["due", "table", "on", "seen"]) (fun _ _ _ _ _ _ us hl => match us, hl with | [_, _, _, _], _ => rfl), m_law_value := PySem.W.mg_of X G a30, a_law_seen := f31, d_law_seen := _, F_law_seen := fun_mk (st := s_law_seen) l31 c31 k31, b_law_seen := (fun_mk (st := s_law_seen) l31 c31 k31).binds (ps := ["view"]) (fun _ _ _ _ _ _ us hl => match us, hl with | [_], _ => rfl), m_law_seen := PySem.W.mg_of X G a31, a_law_fall := f32, d_law_fall := _, F_law_fall := fun_mk (st := s_law_fall) l32 c32 k32, b_law_fall := (fun_mk (st := s_law_fall) l32 c32 k32).binds (ps := ["results", "taken", "count"]) (fun _ _ _ _ _ _ us hl => match us, hl with | [_, _, _], _ => rfl), m_law_fall := PySem.W.mg_of X G a32, a_law_unit := f33, d_law_unit := _, F_law_unit := fun_mk (st := s_law_unit) l33 c33 k33, b_law_unit := (fun_mk (st := s_law_unit) l33 c33 k33).binds (ps := ["run"]) (fun _ _ _ _ _ _ us hl => match us, hl with | [_], _ => rfl), m_law_unit := PySem.W.mg_of X G a33, a_law_run := f34, d_law_run := _, F_law_run := fun_mk (st := s_law_run) l34 c34 k34, b_law_run := (fun_mk (st := s_law_run) l34 c34 k34).binds (ps := ["run", "block"]) (fun _ _ _ _ _ _ us hl => match us, hl with | [_, _], _ => rfl), m_law_run := PySem.W.mg_of X G a34, a_law_think := f35, d_law_think := _, F_law_think := fun_mk (st := s_law_think) l35 c35 k35, b_law_think := (fun_mk (st := s_law_think) l35 c35 k35).binds (ps := ["brain", "cells", "view", "count", "results", "taken"]) (fun _ _ _ _ _ _ us hl => match us, hl with | [_, _, _, _, _, _], _ => rfl), m_law_think := PySem.W.mg_of X G a35, a_law_view := f36, d_law_view := _, F_law_view := fun_mk (st := s_law_view) l36 c36 k36, b_law_view := (fun_mk (st := s_law_view) l36 c36 k36).binds (ps := ["pool"]) (fun _ _ _ _ _ _ us hl => match us, hl with | [_], _ => rfl), m_law_view := PySem.W.mg_of X G a36, a_law := fa, d_law := _, F_law := fun_mk (st := s_law) l37 c37 k37, b_law := (fun_mk (st := s_law) l37 c37 k37).binds (ps := ["script"]) (fun _ _ _ _ _ _ us hl => match us, hl with | [_], _ => rfl), m_law := PySem.W.mg_of X G a37, z_bool := PySem.W.mg_none_of X G z_bool, z_dict := PySem.W.mg_none_of X G z_dict, z_int := PySem.W.mg_none_of X G z_int, z_isinstance := PySem.W.mg_none_of X G z_isinstance, z_len := PySem.W.mg_none_of X G z_len, z_list := PySem.W.mg_none_of X G z_list, z_max := PySem.W.mg_none_of X G z_max, z_min := PySem.W.mg_none_of X G z_min, z_range := PySem.W.mg_none_of X G z_range, z_str := PySem.W.mg_none_of X G z_str, z_tuple := PySem.W.mg_none_of X G z_tuple, z_zip := PySem.W.mg_none_of X G z_zip }
  exact ⟨T.d_law, fun s v => .of_eq rfl, fun base _ _ => ok_law T⟩
end Own
open PySem PySem.W PyProof.Rows
set_option maxHeartbeats 0 in
theorem PySem.Challenge.cw_sureplay_k63_units_of_work_holds : PySem.Challenge.rw_sureplay_k63_units_of_work.Holds := by
  w_on; o_law; k_head; (case hw => w_witness2)
  k_fill
  refine L2.walk_of (l := PySem.Challenge.rw_sureplay_k63_units_of_work) (n := 63) (k := 35) (x := "script") (CX := fun _ => L2.CX0) (sp := fun w => Own.spLaw _) rfl (by decide) rfl ⟨rfl, by decide, by decide⟩ (fun w h Y => PySem.W.kIn_of Y) ?F (fun _ _ a ns hl _ hS => ⟨a, ns, rfl, hS, hl, fun _ => rfl⟩) (fun _ _ _ _ _ h => h)
  case F =>
    intro w mg fa h KX G hmg
    refine' Own.all_mk KX G hmg ?ac_Thought ?pg_Thought ?hd_Thought ?po_Thought ?sa_Thought ?mkc_Thought ?kpc_Thought ?na_Thought__brain ?na_Thought__before ?na_Thought__seen ?na_Thought__table ?na_Thought__left ?na_Thought__todo ?na_Thought__silent ?na_Thought__cell ?na_Thought_results ?ac_Brain ?pg_Brain ?hd_Brain ?po_Brain ?sa_Brain ?mkc_Brain ?kpc_Brain ?na_Brain_units ?na_Brain_cells ?na_Brain_block ?na_Brain_answer ?ac_Tape ?pg_Tape ?hd_Tape ?po_Tape ?sa_Tape ?mkc_Tape ?kpc_Tape ?na_Tape__results ?na_Tape_taken ?ac_MODULUS ?ac_GREATEST_NUMBER ?ac_EVENT_NUMBERS ?lk_EVENT_NUMBERS ?kl_EVENT_NUMBERS ?nk_EVENT_NUMBERS_0 ?nk_EVENT_NUMBERS_1 ?nk_EVENT_NUMBERS_2 ?nk_EVENT_NUMBERS_3 ?a1 ?l1 ?c1 ?k1 ?a2 ?l2 ?c2 ?k2 ?t2 ?zk2 ?a3 ?l3 ?c3 ?k3 ?a4 ?i4 ?l4 ?c4 ?k4 ?a5 ?i5 ?l5 ?c5 ?k5 ?a6 ?i6 ?l6 ?c6 ?k6 ?a7 ?i7 ?l7 ?c7 ?k7 ?a8 ?i8 ?l8 ?c8 ?k8 ?a9 ?i9 ?l9 ?c9 ?k9 ?a10 ?i10 ?l10 ?c10 ?k10 ?a11 ?i11 ?l11 ?c11 ?k11 ?a12 ?i12 ?l12 ?c12 ?k12 ?a13 ?l13 ?c13 ?k13 ?a14 ?i14 ?l14 ?c14 ?k14 ?a15 ?i15 ?l15 ?c15 ?k15 ?a16 ?l16 ?c16 ?k16 ?a17 ?l17 ?c17 ?k17 ?a18 ?l18 ?c18 ?k18 ?a19 ?l19 ?c19 ?k19 ?a20 ?l20 ?c20 ?k20 ?a21 ?l21 ?c21 ?k21 ?a22 ?l22 ?c22 ?k22 ?a23 ?l23 ?c23 ?k23 ?a24 ?l24 ?c24 ?k24 ?a25 ?l25 ?c25 ?k25 ?a26 ?l26 ?c26 ?k26 ?a27 ?l27 ?c27 ?k27 ?a28 ?l28 ?c28 ?k28 ?a29 ?l29 ?c29 ?k29 ?a30 ?l30 ?c30 ?k30 ?a31 ?l31 ?c31 ?k31 ?a32 ?l32 ?c32 ?k32 ?a33 ?l33 ?c33 ?k33 ?a34 ?l34 ?c34 ?k34 ?a35 ?l35 ?c35 ?k35 ?a36 ?l36 ?c36 ?k36 ?a37 ?l37 ?c37 ?k37 ?z_bool ?z_dict ?z_int ?z_isinstance ?z_len ?z_list ?z_max ?z_min ?z_range ?z_str ?z_tuple ?z_zip
    (case ac_Thought => k_is)
    (case ac_Brain => k_is)
    (case ac_Tape => k_is)
    (case ac_MODULUS => k_is)
    (case ac_GREATEST_NUMBER => k_is)
    (case ac_EVENT_NUMBERS => k_is)
    (case pg_Thought => k_is)
    (case hd_Thought => k_is)
    (case po_Thought => k_is)
    (case sa_Thought => k_is)
    (case mkc_Thought => k_is)
    (case kpc_Thought => k_is)
    (case na_Thought__brain => k_is)
    (case na_Thought__before => k_is)
    (case na_Thought__seen => k_is)
    (case na_Thought__table => k_is)
    (case na_Thought__left => k_is)
    (case na_Thought__todo => k_is)
    (case na_Thought__silent => k_is)
    (case na_Thought__cell => k_is)
    (case na_Thought_results => k_is)
    (case pg_Brain => k_is)
    (case hd_Brain => k_is)
    (case po_Brain => k_is)
    (case sa_Brain => k_is)
    (case mkc_Brain => k_is)
    (case kpc_Brain => k_is)
    (case na_Brain_units => k_is)
    (case na_Brain_cells => k_is)
    (case na_Brain_block => k_is)
    (case na_Brain_answer => k_is)
    (case pg_Tape => k_is)
    (case hd_Tape => k_is)
    (case po_Tape => k_is)
    (case sa_Tape => k_is)
    (case mkc_Tape => k_is)
    (case kpc_Tape => k_is)
    (case na_Tape__results => k_is)
    (case na_Tape_taken => k_is)
    (case lk_EVENT_NUMBERS => k_is)
    (case kl_EVENT_NUMBERS => k_keys)
    (case nk_EVENT_NUMBERS_0 => k_is)
    (case nk_EVENT_NUMBERS_1 => k_is)
    (case nk_EVENT_NUMBERS_2 => k_is)
    (case nk_EVENT_NUMBERS_3 => k_is)
    (case a1 => k_is)
    (case l1 => k_is)
    (case c1 => k_is)
    (case k1 => k_is)
    (case a2 => k_is)
    (case l2 => k_is)
    (case c2 => k_is)
    (case k2 => k_is)
    (case t2 => k_is)
    (case zk2 => k_is)
    (case a3 => k_is)
    (case l3 => k_is)
    (case c3 => k_is)
    (case k3 => k_is)
    (case a4 => k_is)
    (case i4 => k_is)
    (case l4 => k_is)
    (case c4 => k_is)
    (case k4 => k_is)
    (case a5 => k_is)
    (case i5 => k_is)
    (case l5 => k_is)
    (case c5 => k_is)
    (case k5 => k_is)
    (case a6 => k_is)
    (case i6 => k_is)
    (case l6 => k_is)
    (case c6 => k_is)
    (case k6 => k_is)
    (case a7 => k_is)
    (case i7 => k_is)
    (case l7 => k_is)
    (case c7 => k_is)
    (case k7 => k_is)
    (case a8 => k_is)
    (case i8 => k_is)
    (case l8 => k_is)
    (case c8 => k_is)
    (case k8 => k_is)
    (case a9 => k_is)
    (case i9 => k_is)
    (case l9 => k_is)
    (case c9 => k_is)
    (case k9 => k_is)
    (case a10 => k_is)
    (case i10 => k_is)
    (case l10 => k_is)
    (case c10 => k_is)
    (case k10 => k_is)
    (case a11 => k_is)
    (case i11 => k_is)
    (case l11 => k_is)
    (case c11 => k_is)
    (case k11 => k_is)
    (case a12 => k_is)
    (case i12 => k_is)
    (case l12 => k_is)
    (case c12 => k_is)
    (case k12 => k_is)
    (case a13 => k_is)
    (case l13 => k_is)
    (case c13 => k_is)
    (case k13 => k_is)
    (case a14 => k_is)
    (case i14 => k_is)
    (case l14 => k_is)
    (case c14 => k_is)
    (case k14 => k_is)
    (case a15 => k_is)
    (case i15 => k_is)
    (case l15 => k_is)
    (case c15 => k_is)
    (case k15 => k_is)
    (case a16 => k_is)
    (case l16 => k_is)
    (case c16 => k_is)
    (case k16 => k_is)
    (case a17 => k_is)
    (case l17 => k_is)
    (case c17 => k_is)
    (case k17 => k_is)
    (case a18 => k_is)
    (case l18 => k_is)
    (case c18 => k_is)
    (case k18 => k_is)
    (case a19 => k_is)
    (case l19 => k_is)
    (case c19 => k_is)
    (case k19 => k_is)
    (case a20 => k_is)
    (case l20 => k_is)
    (case c20 => k_is)
    (case k20 => k_is)
    (case a21 => k_is)
    (case l21 => k_is)
    (case c21 => k_is)
    (case k21 => k_is)
    (case a22 => k_is)
    (case l22 => k_is)
    (case c22 => k_is)
    (case k22 => k_is)
    (case a23 => k_is)
    (case l23 => k_is)
    (case c23 => k_is)
    (case k23 => k_is)
    (case a24 => k_is)
    (case l24 => k_is)
    (case c24 => k_is)
    (case k24 => k_is)
    (case a25 => k_is)
    (case l25 => k_is)
    (case c25 => k_is)
    (case k25 => k_is)
    (case a26 => k_is)
    (case l26 => k_is)
    (case c26 => k_is)
    (case k26 => k_is)
    (case a27 => k_is)
    (case l27 => k_is)
    (case c27 => k_is)
    (case k27 => k_is)
    (case a28 => k_is)
    (case l28 => k_is)
    (case c28 => k_is)
    (case k28 => k_is)
    (case a29 => k_is)
    (case l29 => k_is)
    (case c29 => k_is)
    (case k29 => k_is)
    (case a30 => k_is)
    (case l30 => k_is)
    (case c30 => k_is)
    (case k30 => k_is)
    (case a31 => k_is)
    (case l31 => k_is)
    (case c31 => k_is)
    (case k31 => k_is)
    (case a32 => k_is)
    (case l32 => k_is)
    (case c32 => k_is)
    (case k32 => k_is)
    (case a33 => k_is)
    (case l33 => k_is)
    (case c33 => k_is)
    (case k33 => k_is)
    (case a34 => k_is)
    (case l34 => k_is)
    (case c34 => k_is)
    (case k34 => k_is)
    (case a35 => k_is)
    (case l35 => k_is)
    (case c35 => k_is)
    (case k35 => k_is)
    (case a36 => k_is)
    (case l36 => k_is)
    (case c36 => k_is)
    (case k36 => k_is)
    (case a37 => k_is)
    (case l37 => k_is)
    (case c37 => k_is)
    (case k37 => k_is)
    (case z_bool => k_is)
    (case z_dict => k_is)
    (case z_int => k_is)
    (case z_isinstance => k_is)
    (case z_len => k_is)
    (case z_list => k_is)
    (case z_max => k_is)
    (case z_min => k_is)
    (case z_range => k_is)
    (case z_str => k_is)
    (case z_tuple => k_is)
    (case z_zip => k_is)
#print axioms PySem.Challenge.cw_sureplay_k63_units_of_work_holds
